/- Kget Ircopy Kfrom Kiter Kgoes Flowr Kmark, joined. -/
import Derived.Test.YtddfelahpiokjaaMb9
import Derived.Test.YtddfelahpiokjaaMb4
import Derived.Laws.AppendOwn
import Derived.Test.YtddfelahpiokjaaMb5
import Derived.Test.YtddfelahpiokjaaMb3
import Derived.Lib.SlBytesConst
import Derived.Lib.SmallJoins

/- Get: a block's entry that one sees who reads at a number. -/
namespace Go.Proofs.Ytddfelahpiokjaa
open Go.ChangeShapes Go.WideShapes Go.ChangeAt Go.RowKit

/-- What Get answers. -/
def BGetAns (w : World) (b key : List Nat) (s : Int) (x : Ending) (w' : World) : Prop :=
  Ext w w' ∧ ((∀ L, ¬ IsB b L) ∧ x = .returned (.tuple #[noE, .int .i64 4]) ∨ ∃ L, IsB b L ∧ match L.find? (seenE key s) with
    | some e => ∃ g : Hd, x = .returned (.tuple #[e.at_ g, .int .i64 0]) ∧ Em w' 0 w'.heap.size e g
    | none => x = .returned (.tuple #[noE, .int .i64 6]))

theorem cut_find {L : List Ent} {key : List Nat} {s : Int} {n : Nat} (hr : Rise L) (h : Cut L ⟨key, s, 0, []⟩ n) : L.find? (seenE key s) = if h : n < L.length then (if L[n].key = key then some L[n] else none) else none := by
  have hahead : ∀ j a, j < n → L[j]? = some a → seenE key s a = false := fun j a hj ha => by
    have h1 := h.lo j a hj ha
    unfold seenE
    rw [Bool.and_eq_false_iff]
    by_cases hk : a.key = key
    · right
      rw [decide_eq_false_iff_not]
      intro hs
      unfold cmpE at h1
      rw [if_pos (by rw [hk]; exact cmpK_self _)] at h1
      unfold cmpS at h1
      dsimp only at h1
      split at h1
      · omega
      · split at h1 <;> omega
    · left; exact decide_eq_false hk
  have hsplit : L.find? (seenE key s) = (L.drop n).find? (seenE key s) := by
    conv => lhs; rw [← List.take_append_drop n L]
    rw [List.find?_append]
    have : (L.take n).find? (seenE key s) = none := by
      rw [List.find?_eq_none]
      intro a ha
      obtain ⟨j, hj, rfl⟩ := List.getElem_of_mem ha
      rw [List.length_take] at hj
      rw [List.getElem_take, hahead j _ (by omega) (List.getElem?_eq_getElem (by omega))]
      decide
    rw [this]; rfl
  rw [hsplit]
  split
  · rename_i hn
    rw [List.drop_eq_getElem_cons hn, List.find?_cons]
    have h1 := h.hi n L[n] (Nat.le_refl _) (List.getElem?_eq_getElem hn)
    by_cases hk : L[n].key = key
    · rw [if_pos hk]
      have : seenE key s L[n] = true := by
        unfold seenE
        rw [Bool.and_eq_true, decide_eq_true_eq, decide_eq_true_eq]
        refine ⟨hk, ?_⟩
        unfold cmpE at h1
        rw [if_pos (by rw [hk]; exact cmpK_self _)] at h1
        unfold cmpS at h1
        dsimp only at h1
        split at h1
        · omega
        · split at h1 <;> omega
      rw [this]
    · rw [if_neg hk]
      have h0 : seenE key s L[n] = false := by
        unfold seenE
        rw [Bool.and_eq_false_iff]; left; exact decide_eq_false hk
      rw [h0]
      show (L.drop (n + 1)).find? (seenE key s) = none
      rw [List.find?_eq_none]
      intro a ha hs
      obtain ⟨j, hj, rfl⟩ := List.getElem_of_mem ha
      rw [List.length_drop] at hj
      rw [List.getElem_drop] at hs
      have h2 := rise_at hr (show n < n + 1 + j by omega) (List.getElem?_eq_getElem hn) (List.getElem?_eq_getElem (show n + 1 + j < L.length by omega))
      unfold seenE at hs
      rw [Bool.and_eq_true, decide_eq_true_eq] at hs
      unfold cmpE at h1 h2
      dsimp only at h1
      rw [hs.1] at h2
      split at h1
      · rename_i h3; exact hk (cmpK_zero h3)
      · rename_i h3
        rw [if_neg h3] at h2
        omega
  · rename_i hn
    rw [List.drop_eq_nil_of_le (by omega)]; rfl

theorem chg_four (g : Nat) (w1 : World) (a b c d : Value) : Chg (fun i => i = g) w1 ((((w1.setCell ⟨g, 0, none⟩ a).setCell ⟨g, 1, none⟩ b).setCell ⟨g, 2, none⟩ c).setCell ⟨g, 3, none⟩ d) :=
  (((Chg.setCell (S := fun i => i = g) w1 ⟨g, 0, none⟩ a rfl).trans (Chg.setCell _ ⟨g, 1, none⟩ b rfl)).trans (Chg.setCell _ ⟨g, 2, none⟩ c rfl)).trans (Chg.setCell _ ⟨g, 3, none⟩ d rfl)
theorem get_four {w w1 : World} (h : Ext w w1) (a b c d : Value) : Ext w ((((w1.setCell ⟨w.heap.size, 0, none⟩ a).setCell ⟨w.heap.size, 1, none⟩ b).setCell ⟨w.heap.size, 2, none⟩ c).setCell ⟨w.heap.size, 3, none⟩ d) :=
  Below.trans h ((((Chg.setCell (S := fun i => i = w.heap.size) w1 ⟨w.heap.size, 0, none⟩ a rfl).trans (Chg.setCell _ ⟨w.heap.size, 1, none⟩ b rfl)).trans (Chg.setCell _ ⟨w.heap.size, 2, none⟩ c rfl)).trans (Chg.setCell _ ⟨w.heap.size, 3, none⟩ d rfl) |>.below (fun i e => by omega) h.size)

set_option maxRecDepth 100000 in
set_option maxHeartbeats 8000000 in
theorem bget_any {w : World} {lo hi lo2 hi2 kc : Nat} {v : Value} {kA : Option Addr} {b key : List Nat} {s : Int} (hv : Bs w lo hi v b) (hhi : hi ≤ w.heap.size) (hb : ∀ x ∈ b, x < 256) (hl : b.length ≤ 1000000000) (hk : Bs w lo2 hi2 (.slice kA key.length kc) key) (hhi2 : hi2 ≤ w.heap.size) (bk : ∀ x ∈ key, x < 256) (hs1 : -9223372036854775808 ≤ s) (hs2 : s ≤ 9223372036854775807) :
    Calls Try.prog 14 #[v, .slice kA key.length kc, .int .i64 s] w (BGetAns w b key s) := by
  obtain ⟨w1, hw1⟩ : ∃ w1, w1 = w.alloc (.cells #[.slice none 0 0, .int .i64 0, .int .i64 0, .slice none 0 0] 37) := ⟨_, rfl⟩
  have HX1 : Hid (Ext w w1) := by rw [hw1]; exact ext_alloc _ _
  have HB1 : Hid (w1.heap[w.heap.size]? = some (.cells #[.slice none 0 0, .int .i64 0, .int .i64 0, .slice none 0 0] 37 (0, 0))) := by rw [hw1]; exact heap_at _ _ rfl
  have HZ1 : Hid (w1.heap.size = w.heap.size + 1) := by rw [hw1]; simp [Hid]
  have HR := Lib.hid (bread_any (hv.below HX1.out hhi) (Nat.le_trans hhi HX1.out.size) hb hl)
  have HK := Lib.hid hk
  have HH := Lib.hid hhi2
  have HBK := Lib.hid bk
  have HS := Lib.hid (And.intro hs1 hs2)
  obtain ⟨A, c, rfl, _, _, _, _⟩ := hv
  clear hhi hb hl hk hhi2 bk hs1 hs2
  go_enter Try.func14, Try.ntmps14
  go_wp2_with fail
  rw [← hw1]
  clear hw1
  refine HR.out.mono ?_
  rintro x w2 ⟨hx2, (⟨R, X, cR, his, rfl, hgot⟩ | ⟨hno, rfl⟩)⟩
  rotate_left
  · have HX2 := Lib.hid (Ext.trans HX1.out hx2)
    have HB2 : Hid (w2.heap[w.heap.size]? = some (.cells #[.slice none 0 0, .int .i64 0, .int .i64 0, .slice none 0 0] 37 (0, 0))) := ext_heap hx2 HB1.out
    have HNO := Lib.hid hno
    clear hx2 hno
    have c0 := cell_of HB2.out (k := 0) rfl
    have c1 := cell_of HB2.out (k := 1) rfl
    have c2 := cell_of HB2.out (k := 2) rfl
    have c3 := cell_of HB2.out (k := 3) rfl
    have z0 := frozen_four (j := 0) HB2.out
    have z1 := frozen_four (j := 1) HB2.out
    have z2 := frozen_four (j := 2) HB2.out
    have z3 := frozen_four (j := 3) HB2.out
    go_wp2_with fail
    refine entry_ret2 rfl rfl rfl rfl (set_four HB2.out) ?_
    exact ⟨get_four HX2.out _ _ _ _, .inl ⟨HNO.out, rfl⟩⟩
  have HX2 := Lib.hid (Ext.trans HX1.out hx2)
  have HX12 := Lib.hid hx2
  have HB2 : Hid (w2.heap[w.heap.size]? = some (.cells #[.slice none 0 0, .int .i64 0, .int .i64 0, .slice none 0 0] 37 (0, 0))) := ext_heap hx2 HB1.out
  have HIS := Lib.hid his
  have HG := Lib.hid hgot
  have HRL : Hid (1 ≤ R.length ∧ R.length ≤ 1024) := by have h1 := his.1.1; have h2 := his.1.2.1; rw [List.length_map] at h1 h2; exact ⟨h1, h2⟩
  have HFI := Lib.hid (first_any (c := cR) (x := ⟨key, s, 0, []⟩) (g := ⟨kA, kc, none, 0⟩) (lo2 := 0) (hi2 := w2.heap.size) hgot.rs (Nat.le_refl _) HRL.out.2 his.1.2.2.1 ⟨(HK.out.below (Ext.trans HX1.out hx2) HH.out).wide (Nat.zero_le _) (Nat.le_trans HH.out (Ext.trans HX1.out hx2).size), Bs.nil _ _ _, HBK.out, by simp, HS.out.1, HS.out.2, (by show (-9223372036854775808 : Int) ≤ 0; decide), (by show (0 : Int) ≤ 9223372036854775807; decide)⟩ (Nat.le_refl _))
  clear hx2 his hgot
  go_wp2_with fail
  refine HFI.out.mono ?_
  rintro x w3 ⟨n, hcut, rfl, hx3⟩
  have HX3 := Lib.hid (Ext.trans HX2.out hx3)
  have HX23 := Lib.hid hx3
  have HB3 : Hid (w3.heap[w.heap.size]? = some (.cells #[.slice none 0 0, .int .i64 0, .int .i64 0, .slice none 0 0] 37 (0, 0))) := ext_heap hx3 HB2.out
  have HG3 := Lib.hid (HG.out.below hx3)
  have HF := Lib.hid (cut_find HIS.out.1.2.2.1 hcut)
  have hnle := hcut.le
  rw [List.length_map] at hnle
  have c0 := cell_of HB3.out (k := 0) rfl
  have c1 := cell_of HB3.out (k := 1) rfl
  have c2 := cell_of HB3.out (k := 2) rfl
  have c3 := cell_of HB3.out (k := 3) rfl
  have z0 := frozen_four (j := 0) HB3.out
  have z1 := frozen_four (j := 1) HB3.out
  have z2 := frozen_four (j := 2) HB3.out
  have z3 := frozen_four (j := 3) HB3.out
  clear hx3 hcut
  by_cases hn : n = R.length
  · have d : ((n : Int) == (R.length : Int)) = true := by rw [beq_iff_eq, hn]
    have dn : (n == R.length) = true := by rw [beq_iff_eq, hn]
    have HN := Lib.hid hn
    clear hn hnle
    go_wp2_with fail
    refine entry_ret2 rfl rfl rfl rfl (set_four HB3.out) ?_
    refine ⟨get_four HX3.out _ _ _ _, .inr ⟨_, HIS.out, ?_⟩⟩
    have h1 := HF.out
    rw [dif_neg (by rw [List.length_map]; have := HN.out; omega)] at h1
    rw [h1]
    rfl
  · have d : ((n : Int) == (R.length : Int)) = false := by rw [beq_eq_false_iff_ne]; omega
    have dn : (n == R.length) = false := by rw [beq_eq_false_iff_ne]; exact hn
    have hlt : n < R.length := by omega
    obtain ⟨p, hp⟩ : ∃ p, R[n]? = some p := ⟨_, List.getElem?_eq_getElem hlt⟩
    have HP := Lib.hid hp
    have HLT := Lib.hid hlt
    obtain ⟨bb, oo, rfl⟩ := HG3.out.rs.base (by omega)
    obtain ⟨p0, p1, p2, p3⟩ := HG3.out.rs.get hp
    have n1 : (0 : Int) ≤ (n : Int) := Int.natCast_nonneg _
    have n2 : (n : Int) < (R.length : Int) := Int.ofNat_lt.2 hlt
    have HKC := Lib.hid (keys_any (HG3.out.rs.each p (List.mem_of_getElem? hp)).k (HK.out.below HX3.out HH.out) (HG3.out.rs.each p (List.mem_of_getElem? hp)).bk HBK.out)
    have HFP : Hid ((R.map Prod.fst).find? (seenE key s) = if p.1.key = key then some p.1 else none) := by
      have h1 := HF.out
      rw [dif_pos (by rw [List.length_map]; exact hlt)] at h1
      have h2 : (R.map Prod.fst)[n]'(by rw [List.length_map]; exact hlt) = p.1 := by rw [List.getElem_map]; rw [List.getElem?_eq_getElem hlt] at hp; injection hp with hp; rw [hp]
      rw [h2] at h1
      exact h1
    clear hn hnle hlt hp
    go_wp2_with fail
    refine HKC.out.mono ?_
    rintro x w4 ⟨rfl, rfl⟩
    by_cases hk : p.1.key = key
    · have dk : (cmpK p.1.key key != 0) = false := by rw [hk, cmpK_self]; rfl
      have HKE := Lib.hid hk
      clear hk
      go_wp2_with fail
      refine entry_ret2 rfl rfl rfl rfl (set_four HB3.out) ?_
      refine ⟨get_four HX3.out _ _ _ _, .inr ⟨_, HIS.out, ?_⟩⟩
      rw [HFP.out, if_pos HKE.out]
      refine ⟨p.2, rfl, ?_⟩
      have hm := HG3.out.each p (List.mem_of_getElem? HP.out)
      exact (hm.chg (chg_four _ _ _ _ _ _) (fun k hk e => by have := HZ1.out; omega)).em
    · have dk : (cmpK p.1.key key != 0) = true := by rw [bne_iff_ne]; exact fun h => hk (cmpK_zero h)
      have HKE := Lib.hid hk
      clear hk
      go_wp2_with fail
      refine entry_ret2 rfl rfl rfl rfl (set_four HB3.out) ?_
      refine ⟨get_four HX3.out _ _ _ _, .inr ⟨_, HIS.out, ?_⟩⟩
      rw [HFP.out, if_neg HKE.out]
      rfl
end Go.Proofs.Ytddfelahpiokjaa

/- The reference's Copy. -/
namespace Go.Proofs.Ytddfelahpiokjaa
open Go.ChangeShapes Go.WideShapes Go.ChangeAt Go.RowKit

set_option maxRecDepth 100000 in
/-- 'append([]byte(nil), s...)' as a run. -/
theorem clone_run {u : World} {lo hi : Nat} {A : Option Addr} {c : Nat} {l : List Nat} (h : Bs u lo hi (.slice A l.length c) l) (hl : l.length ≤ 1099511627776) :
    ∃ v w, (Builtin.append_ #[22, 22] 22 #[.slice none 0 0, .slice A l.length c]).run Try.prog u = .ok v w ∧ Ext u w ∧ Own u.heap.size l v w := by
  obtain ⟨i0, hi0, ix0, ix1, ix2⟩ := info_parts t5info
  obtain ⟨A', c', he, h1, h2, hnil, hby⟩ := h
  injection he with e1 _ e3
  subst e1 e3
  rcases A with _ | ad
  · obtain rfl := hnil rfl
    have hl0 : l = [] := List.eq_nil_of_length_eq_zero (by omega)
    subst hl0
    refine ⟨.slice none 0 0, u, ?_, Ext.refl _, Own.nil _ _⟩
    simp [Builtin.append_, run_underlying Try.underlying22, sizeOf, typeInfo, hi0, Builtin.lenOf, Builtin.firstCells]
  · obtain ⟨v', w', hr, ho, hg, _⟩ := run_append_own (P := Try.prog) u u.heap.size 22 22 5 i0 (.int .u8 0) 1 1 Try.underlying22 hi0 ix0 ix1 ix2 rfl (by omega) (.slice none 0 0) 0 [] (World.ownsRow_nil _ _ _ _) ad l.length c (bv l) (by rw [bv_length]; omega) (fun j q hj => by
        rcases hby with hby | ⟨b, o, he2, _, _, hc⟩
        · rw [hby] at hj; simp at hj
        · rw [Option.some.inj he2, addr_add]
          exact hc j q hj) (bv_one l) (by unfold maxLen; omega) (by omega) (Nat.le_refl _)
    refine ⟨v', w', hr, (Below.refl _ _).grown hg (Nat.le_refl _) (fun k hk => by cases hk), ?_⟩
    unfold Own
    simpa using ho

/-- The same, where a region draws its order. -/
theorem clone_obl {o : Oper} {a : Act} {x : Operand} {X : Prop} {u : World} {lo hi d : Nat} {A : Option Addr} {c : Nat} {l : List Nat} {R : Value → World → Prop} (_hg : o.guard = none) (ho : o.op = .call { callee := .builtin .append, args := #[.const (.slice none 0 0), x], argTypes := #[22, 22] })
    (ht : o.type = 22) (hd : o.dst = some d) (hx : a.eval x = .slice A l.length c) (hb : Bs u lo hi (.slice A l.length c) l) (hl : l.length ≤ 1099511627776) (hR : ∀ v w, Ext u w → Own u.heap.size l v w → R v w) {Z : Prop} [Decidable Z] (hZ : Z) :
    if Z then GivesR Try.prog ((execOp a.eval o).run Try.prog u) (fun v u' => Ext u u' ∧ R (kept o v) u') else X := by
  rw [if_pos hZ]
  obtain ⟨v, w, hr, h1, h2⟩ := clone_run hb hl
  have h0 : (execOp a.eval o).run Try.prog u = .ok (.value v) w := by
    have hc : a.eval (.const (.slice none 0 0)) = .slice none 0 0 := rfl
    unfold execOp
    simp only [ho, ht, resolve, invoke, builtin, Sem.run_bind, Sem.run_pure, Result.andThen_ok, List.map_toArray, List.map_cons, List.map_nil, hc, hx, hr]
  rw [h0]
  have hk : kept o v = v := by unfold kept; rw [hd]
  show Ext u w ∧ R (kept o v) w
  rw [hk]
  exact ⟨h1, hR _ _ h1 h2⟩

end Go.Proofs.Ytddfelahpiokjaa

/- From: over a block's entries whose keys are not below. -/
namespace Go.Proofs.Ytddfelahpiokjaa
open Go.ChangeShapes Go.WideShapes Go.ChangeAt Go.RowKit Go.Shelf

theorem bcut_is {L : List Ent} {key : List Nat} {n : Nat} (hm : ∀ e ∈ L, e.seq ≤ 2147483647) (h : Cut L ⟨key, 2147483647, 0, []⟩ n) : n = cutOf (belowK key) L := by
  have h1 : ∀ e ∈ L, (cmpE e ⟨key, 2147483647, 0, []⟩ < 0 ↔ belowK key e = true) := fun e he => by
    have hs := hm e he
    unfold cmpE belowK
    rw [decide_eq_true_eq]
    split
    · rename_i h0
      unfold cmpS
      dsimp only at h0 ⊢
      rw [if_neg (by omega)]
      split <;> omega
    · exact Iff.rfl
  unfold cutOf
  have e1 : L = L.take n ++ L.drop n := (List.take_append_drop n L).symm
  have h2 : ∀ a ∈ L.take n, belowK key a = true := fun a ha => by
    obtain ⟨j, hj, rfl⟩ := List.getElem_of_mem ha
    rw [List.length_take] at hj
    rw [List.getElem_take]
    exact (h1 _ (List.getElem_mem _)).1 (h.lo j _ (by omega) (List.getElem?_eq_getElem (by omega)))
  have h3 : (L.drop n).takeWhile (belowK key) = [] := by
    rcases Nat.lt_or_ge n L.length with hn | hn
    · rw [List.drop_eq_getElem_cons hn, List.takeWhile_cons]
      have h4 := h.hi n _ (Nat.le_refl _) (List.getElem?_eq_getElem hn)
      have h5 : ¬ belowK key L[n] = true := fun hb => by have := (h1 _ (List.getElem_mem _)).2 hb; omega
      rw [if_neg h5]
    · rw [List.drop_eq_nil_of_le hn]; rfl
  conv => rhs; rw [e1]
  rw [List.takeWhile_append_of_pos h2, h3, List.append_nil, List.length_take]
  have := h.le
  omega

/-- What From answers: a function that goes over these. -/
def FromAns (w : World) (b key : List Nat) (x : Ending) (w' : World) : Prop :=
  Ext w w' ∧ ∃ (bd : Nat) (X : Option Addr) (c : Nat) (S : List (Ent × Hd)), x = .returned (.func (.func 32) #[] #[.pointer (some ⟨bd, 0, none⟩)]) ∧ Boxed w' bd 24 (.slice X S.length c) ∧ Es w' 0 w'.heap.size X S ∧ S.length ≤ 1024 ∧ (∀ p ∈ S, InE p.1) ∧
    ((∃ L, IsB b L ∧ S.map Prod.fst = L.drop (cutOf (belowK key) L)) ∨ ((∀ L, ¬ IsB b L) ∧ S = []))
/-- What Read answers, for From. -/
theorem ReadBAns.all {w w' : World} {b : List Nat} {x : Ending} (h : ReadBAns w b x w') : Ext w w' ∧ ∃ (R : List (Ent × Hd)) (A : Option Addr) (c : Nat) (k : Int), x = .returned (.tuple #[.slice A R.length c, .int .i64 k]) ∧ Got w.heap.size (.slice A R.length c) R w' ∧ R.length ≤ 1024 ∧ Rise (R.map Prod.fst) ∧ (∀ p ∈ R, InE p.1) ∧ (IsB b (R.map Prod.fst) ∨ ((∀ L, ¬ IsB b L) ∧ R = [])) := by
  obtain ⟨hx, (⟨R, A, c, his, rfl, hg⟩ | ⟨hno, rfl⟩)⟩ := h
  · refine ⟨hx, R, A, c, 0, rfl, hg, ?_, his.1.2.2.1, fun p hp => ⟨(hg.each p hp).good.bk, (hg.each p hp).good.bv, his.1.2.2.2 _ (List.mem_map_of_mem hp)⟩, .inl his⟩
    have := his.1.2.1; rw [List.length_map] at this; exact this
  · exact ⟨hx, [], none, 0, 4, rfl, Got.nil _ _, by simp, fun j a b h => by simp at h, fun p hp => (by cases hp), .inr ⟨hno, rfl⟩⟩

def CutV (L : List Ent) (key : List Nat) (v : Value) (_ : World) : Prop := ∃ n : Nat, Cut L ⟨key, 2147483647, 0, []⟩ n ∧ v = .int .i64 (n : Int)
theorem CutV.mono (L : List Ent) (key : List Nat) : Mono (CutV L key) := fun _ _ _ h _ => h
def CutS (L : List Ent) (key : List Nat) (X : Option Addr) (m c : Nat) (v : Value) (_ : World) : Prop := ∃ n : Nat, Cut L ⟨key, 2147483647, 0, []⟩ n ∧ v = .slice (if c = n then X else X.map (·.add (n * 4))) (m - n) (c - n)
theorem CutS.mono (L : List Ent) (key : List Nat) (X : Option Addr) (m c : Nat) : Mono (CutS L key X m c) := fun _ _ _ h _ => h

set_option maxRecDepth 100000 in
set_option maxHeartbeats 8000000 in
theorem bfrom_any {w : World} {lo hi lo2 hi2 kc : Nat} {v : Value} {kA : Option Addr} {b key : List Nat} (hv : Bs w lo hi v b) (hhi : hi ≤ w.heap.size) (hb : ∀ x ∈ b, x < 256) (hl : b.length ≤ 1000000000) (hk : Bs w lo2 hi2 (.slice kA key.length kc) key) (hhi2 : hi2 ≤ w.heap.size) (bk : ∀ x ∈ key, x < 256) :
    Calls Try.prog 17 #[v, .slice kA key.length kc] w (FromAns w b key) := by
  have HR := Lib.hid (bread_any hv hhi hb hl)
  have HK := Lib.hid hk
  have HH := Lib.hid hhi2
  have HBK := Lib.hid bk
  have hmf := mkf
  obtain ⟨A, c, rfl, _, _, _, _⟩ := hv
  clear hhi hb hl hk hhi2 bk
  go_enter Try.func17, Try.ntmps17
  go_wp2_with fail
  refine HR.out.mono ?_
  intro x w2 hra
  obtain ⟨hx2, R, X, cR, k, rfl, hgot, hrl, hri, hin, hor⟩ := hra.all
  obtain ⟨w3, hw3⟩ : ∃ w3, w3 = w2.alloc (.cells #[.slice X R.length cR] 24) := ⟨_, rfl⟩
  have HX3 : Hid (Ext w2 w3) := by rw [hw3]; exact ext_alloc _ _
  have HXW : Hid (Ext w w3) := Ext.trans hx2 HX3.out
  have HB3 : Hid (Boxed w3 w2.heap.size 24 (.slice X R.length cR)) := by rw [hw3]; exact heap_at _ _ rfl
  have HG3 := Lib.hid (hgot.below HX3.out)
  have HRL := Lib.hid hrl
  have HRI := Lib.hid hri
  have HIN := Lib.hid hin
  have HOR := Lib.hid hor
  have HLO : Hid (w.heap.size ≤ w2.heap.size) := hx2.size
  clear hx2 hgot hrl hri hin hor hra
  go_upto_region 2 with (fail)
  rw [← hw3]
  clear hw3
  have b0 := HB3.out.cell
  have HCAP := Lib.hid HG3.out.capd
  have HFI : Hid (∀ u, Ext w3 u → Calls Try.prog 30 #[.slice X R.length cR, .agg #[.slice kA key.length kc, .int .i64 2147483647, .int .i64 0, .slice none 0 0]] u fun e w' => ∃ n : Nat, Cut (R.map Prod.fst) ⟨key, 2147483647, 0, []⟩ n ∧ e = .returned (.int .i64 (n : Int)) ∧ Ext u w') := fun u hu =>
    first_any (c := cR) (x := ⟨key, 2147483647, 0, []⟩) (g := ⟨kA, kc, none, 0⟩) (lo2 := 0) (hi2 := u.heap.size) (HG3.out.below hu).rs (Nat.le_refl _) HRL.out HRI.out ⟨(HK.out.below (Ext.trans HXW.out hu) HH.out).wide (Nat.zero_le _) (Nat.le_trans HH.out (Ext.trans HXW.out hu).size), Bs.nil _ _ _, HBK.out, by simp, (by show (-9223372036854775808 : Int) ≤ 2147483647; decide), (by show (2147483647 : Int) ≤ 9223372036854775807; decide), (by show (-9223372036854775808 : Int) ≤ 0; decide), (by show (0 : Int) ≤ 9223372036854775807; decide)⟩ (Nat.le_refl _)
  refine flow_tail (by kernel_rfl) [Is (.slice X R.length cR), Is (.slice X R.length cR), Is (.slice kA key.length kc), Is (.agg #[.slice kA key.length kc, .int .i64 2147483647, .int .i64 0, .slice none 0 0]), CutV (R.map Prod.fst) key, CutS (R.map Prod.fst) key X R.length cR] 6 (by kernel_rfl) (by kernel_rfl) (by kernel_rfl) (by kernel_rfl) ?mono (fun f1 => ?obl) ?fin
  case mono =>
    simp only [List.forall_mem_cons, List.not_mem_nil, false_imp_iff, implies_true, and_true]
    exact ⟨.is _, .is _, .is _, .is _, CutV.mono _ _, CutS.mono _ _ _ _ _⟩
  case fin =>
    intro g1 u hu hg
    simp only [List.take_succ_cons, List.take_zero, List.drop_succ_cons, List.drop_zero, puts, Act.put, List.setIfInBounds_toArray, List.set_cons_zero, List.set_cons_succ]
    obtain ⟨n, hc, hn⟩ := (show CutS (R.map Prod.fst) key X R.length cR (g1 5) u from hg 5 (by decide))
    rw [hn]
    have hxu := Ext.trans (Ext.drew w3) hu
    have HXU : Hid (Ext w3 u) := hxu
    have HCU := Lib.hid hc
    have hb : Boxed u w2.heap.size 24 (.slice X R.length cR) := ext_heap hxu HB3.out
    have HBU := Lib.hid hb
    have q0 := hb.cell
    have q1 := hb.frozen
    obtain ⟨Y, hY⟩ : ∃ Y, Y = (if cR = n then X else X.map (·.add (n * 4))) := ⟨_, rfl⟩
    rw [← hY]
    have HY := Lib.hid hY
    clear hc hn hxu hu hg hb b0 hY
    go_wp2_with fail
    go_ret
    have hle : n ≤ R.length := by have := HCU.out.le; rw [List.length_map] at this; exact this
    have hes : Es u 0 u.heap.size Y (R.drop n) := by rw [HY.out]; exact (HG3.out.below HXU.out).rs.drop hle HCAP.out.1
    have hl : (R.drop n).length = R.length - n := List.length_drop ..
    have hcg : Chg (fun i => i = w2.heap.size) u (u.setCell ⟨w2.heap.size, 0, none⟩ (.slice Y (R.length - n) (cR - n))) := Chg.setCell _ _ _ rfl
    have hgot := (HG3.out.below HXU.out)
    refine ⟨Below.trans (Ext.trans HXW.out HXU.out) (hcg.below (fun i e => by have := HLO.out; omega) (Ext.trans HXW.out HXU.out).size), w2.heap.size, Y, cR - n, R.drop n, rfl, by rw [hl]; exact HBU.out.set _, ?_, by rw [hl]; have := HRL.out; omega, fun p hp => HIN.out p (List.mem_of_mem_drop hp), ?_⟩
    · have h2 := (hgot.keepS hcg (fun bb hbb e => blk_box HBU.out hgot bb hbb e)).rs.drop hle HCAP.out.1
      rw [← HY.out] at h2
      exact h2
    · rcases HOR.out with h | ⟨h, rfl⟩
      · refine .inl ⟨_, h, ?_⟩
        have := bcut_is (fun e he => by obtain ⟨p, hp, rfl⟩ := List.mem_map.1 he; exact (HIN.out p hp).s.2.2.2.1) HCU.out
        rw [← this, List.map_drop]
      · exact .inr ⟨h, by simp⟩
  case obl =>
    refine ⟨fun u hu hd => ?_, ?_⟩
    · have hu2 := Ext.trans (Ext.drew w3) hu
      have q0 := ext_cell hu2 b0
      go_simp
      exact ⟨Ext.refl _, rfl⟩
    refine ⟨fun u hu hd => ?_, ?_⟩
    · simp only [Act.put, List.setIfInBounds_toArray, List.set_cons_zero, List.set_cons_succ]
      have hu2 := Ext.trans (Ext.drew w3) hu
      have q0 := ext_cell hu2 b0
      go_simp
      exact ⟨Ext.refl _, rfl⟩
    refine ⟨fun u hu hd => ?_, ?_⟩
    · simp only [Act.put, List.setIfInBounds_toArray, List.set_cons_zero, List.set_cons_succ]
      go_simp
      exact ⟨Ext.refl _, rfl⟩
    refine ⟨fun u hu hd => ?_, ?_⟩
    · simp only [Act.put, List.setIfInBounds_toArray, List.set_cons_zero, List.set_cons_succ]
      have e2 : f1 2 = .slice kA key.length kc := hd 2 (by kernel_rfl)
      go_simp
      exact ⟨Ext.refl _, rfl⟩
    refine ⟨fun u hu hd => ?_, ?_⟩
    · simp only [Act.put, List.setIfInBounds_toArray, List.set_cons_zero, List.set_cons_succ]
      have e1 : f1 1 = .slice X R.length cR := hd 1 (by kernel_rfl)
      have e3 : f1 3 = .agg #[.slice kA key.length kc, .int .i64 2147483647, .int .i64 0, .slice none 0 0] := hd 3 (by kernel_rfl)
      have hu2 := Ext.trans (Ext.drew w3) hu
      go_simp
      refine (HFI.out _ hu2).mono ?_
      rintro y w9 ⟨n, hc, rfl, hx9⟩
      exact ⟨_, rfl, hx9, n, hc, rfl⟩
    refine ⟨fun u hu hd => ?_, ?_⟩
    · simp only [Act.put, List.setIfInBounds_toArray, List.set_cons_zero, List.set_cons_succ]
      have e0 : f1 0 = .slice X R.length cR := hd 0 (by kernel_rfl)
      obtain ⟨n, hc, hn⟩ := (show CutV (R.map Prod.fst) key (f1 4) u from hd 4 (by kernel_rfl))
      have HN := Lib.hid hc
      have hle : n ≤ R.length := by have := hc.le; rw [List.length_map] at this; exact this
      have hsl := eslice_from X R.length cR n hle HCAP.out.1
      rw [hn]
      clear hc hn
      go_simp
      exact ⟨Ext.refl _, n, HN.out, rfl⟩
    trivial
end Go.Proofs.Ytddfelahpiokjaa

/- From's function: over entries, copies of them. -/
namespace Go.Proofs.Ytddfelahpiokjaa
open Go.ChangeShapes Go.WideShapes Go.ChangeAt Go.RowKit Go.Shelf
attribute [local go_sem] Oper.semAt_some

theorem enters_from1 : ∀ args w, (callFunc 32 args).run Try.prog w = .ok (.enter 32 args) w := enters_of Try.func32 (by kernel_rfl) rfl
theorem Iter.ext {P : Program} {α : Type} {gf : Nat} {lb : Array Value} {len : Nat} {encs : α → Array Value} {Ok : Nat → Nat → α → World → Prop} {C : World → Prop} {w w' : World} (h : Iter P gf lb len encs Ok C w) (hx : Ext w w') : Iter P gf lb len encs Ok C w' :=
  fun m l J Jx W hW => h m l J Jx W (Ext.trans hx hW)
def rowV (x : Ent × Hd) : Array Value := #[x.1.at_ x.2]
/-- The k-th that is handed over: a copy, in memory of its own. -/
def CopOk (L : List Tw) (n₁ k : Nat) (x : Ent × Hd) (A : World) : Prop := ∃ t, L[k]? = some t ∧ x.1 = t.e ∧ Own n₁ x.1.key (.slice x.2.kA x.1.key.length x.2.kc) A ∧ Own n₁ x.1.val (.slice x.2.vA x.1.val.length x.2.vc) A
/-- These entries as that list. -/
def tws (S : List (Ent × Hd)) : List Tw := S.map fun p => ⟨p.1, 0, 0⟩
theorem tws_e (S : List (Ent × Hd)) : (tws S).map Tw.e = S.map Prod.fst := by unfold tws; rw [List.map_map]; rfl
/-- What stays. -/
def FrmC (w : World) (A : World) : Prop := ∀ k, k < w.heap.size → A.heap[k]? = w.heap[k]?

set_option maxRecDepth 100000 in
set_option maxHeartbeats 8000000 in
theorem from_iter {w : World} {bd c : Nat} {X : Option Addr} {S : List (Ent × Hd)} (hbd : Boxed w bd 24 (.slice X S.length c)) (h : Es w 0 w.heap.size X S) (hl : S.length ≤ 1024) (hin : ∀ p ∈ S, InE p.1) :
    Iter Try.prog 32 #[.pointer (some ⟨bd, 0, none⟩)] S.length rowV (CopOk (tws S)) (FrmC w) w := by
  intro mm lab J Jx W hx hC hJ hJx h0 hY
  have HBD := Lib.hid hbd
  have HE := Lib.hid h
  have HL := Lib.hid hl
  have HIN := Lib.hid hin
  have HC := Lib.hid hC
  have HJ := Lib.hid hJ
  have HJ0 := Lib.hid (h0 W (Ext.refl _))
  have HY := Lib.hid hY
  have HXW := Lib.hid hx
  have b0 : W.cell? ⟨bd, 0, none⟩ = _ := Boxed.cell (ext_heap hx hbd)
  clear hbd h hl hin hC hJ hJx h0 hY hx
  refine (callsIn_wide (n := 6)).1 ?_
  refine callsIn_of_wp Try.func32 rfl trivial ?_ rfl
  simp only [Try.ntmps32, List.size_toArray, List.length_cons, List.length_nil, Nat.reduceAdd, Nat.reduceSub, Array.replicate_succ, Array.replicate_zero, List.push_toArray, List.append_toArray, List.nil_append, List.cons_append]
  gi_wp2
  gi_loopw [7] (fun x wr => ∃ k : Nat, k ≤ S.length ∧ x = .int .i64 (k : Int) ∧ Hid (J W.heap.size k wr) ∧ Hid (Step W.heap.size W.heap.size W wr))
    (fun x _ => S.length - (intOf x).toNat)
  case atStart => exact ⟨0, Nat.zero_le _, rfl, HJ0, Step.refl _ _ _⟩
  case round =>
    obtain ⟨k, hk, rfl, HJK, HST⟩ := hrel
    by_cases hlt : k < S.length
    · have d : decide ((k : Int) < (S.length : Int)) = true := by rw [decide_eq_true_eq]; exact Int.ofNat_lt.2 hlt
      have dn : decide (k < S.length) = true := by rw [decide_eq_true_eq]; exact hlt
      have hfr := HC.out _ _ _ HJK.out
      have HEr : Hid (Es wr 0 w.heap.size X S) := HE.out.keep fun p _ hp => World.cell?_of_block (hfr p.block hp)
      obtain ⟨p, hp⟩ : ∃ p, S[k]? = some p := ⟨_, List.getElem?_eq_getElem hlt⟩
      obtain ⟨b, o, rfl⟩ := HE.out.base (by omega)
      obtain ⟨c0, c1, c2, c3⟩ := HEr.out.get hp
      have n1 : (0 : Int) ≤ (k : Int) := Int.natCast_nonneg _
      have n2 : (k : Int) < (S.length : Int) := Int.ofNat_lt.2 hlt
      have HP := Lib.hid hp
      have HLT := Lib.hid hlt
      have HIP := Lib.hid (HIN.out p (List.mem_of_getElem? hp))
      obtain ⟨w4, hw4⟩ : ∃ w4, w4 = wr.alloc (.cells #[.slice p.2.kA p.1.key.length p.2.kc, .int .i64 p.1.seq, .int .i64 p.1.kind, .slice p.2.vA p.1.val.length p.2.vc] 37) := ⟨_, rfl⟩
      have HX4 : Hid (Ext wr w4) := by rw [hw4]; exact ext_alloc _ _
      have HE4 : Hid (w4.heap[wr.heap.size]? = some (.cells #[.slice p.2.kA p.1.key.length p.2.kc, .int .i64 p.1.seq, .int .i64 p.1.kind, .slice p.2.vA p.1.val.length p.2.vc] 37 (0, 0))) := by rw [hw4]; exact heap_at _ _ rfl
      have hwz : w.heap.size ≤ wr.heap.size := Nat.le_trans HXW.out.size HST.out.size
      have HCY := Lib.hid (copy_any (w := w4) (lo := 0) (hi := w.heap.size) (e := p.1) (g := p.2) ((HEr.out.each p (List.mem_of_getElem? hp)).below HX4.out hwz) (Nat.le_trans hwz HX4.out.size) (by have := HIP.out.s; omega) (by have := HIP.out.s; omega))
      have e0 := cell_of HE4.out (k := 0) rfl
      have e1 := cell_of HE4.out (k := 1) rfl
      have e2 := cell_of HE4.out (k := 2) rfl
      have e3 := cell_of HE4.out (k := 3) rfl
      unfold Ent.at_ at HCY
      clear hfr hlt hp hwz hk
      refine wpIn_wide.2 ?_
      go_upto_region 3 with (fail)
      rw [← hw4]
      clear hw4 c0 c1 c2 c3
      refine (wpIn_wide (n := 6)).1 ?_
      gi_wp2
      refine ⟨trivial, (callsIn_wide.2 HCY.out).mono ?_⟩
      rintro e A3 ⟨hx3, g3, rfl, ok, ov⟩
      have HX3 : Hid (Ext wr A3) := Ext.trans HX4.out hx3
      have hj1 := HJ.out _ _ _ _ (Nat.le_refl _) HJK.out (Chg.of_ext HX3.out)
      have hz4 : W.heap.size ≤ w4.heap.size := Nat.le_trans HST.out.size HX4.out.size
      obtain ⟨fn, tmps, assign, body, hy, hR⟩ := HY.out W.heap.size k (p.1, g3) A3 (Nat.le_refl _) (Nat.le_trans HST.out.size HX3.out.size) hj1 HLT.out ⟨⟨p.1, 0, 0⟩, by unfold tws; rw [List.getElem?_map, HP.out]; rfl, rfl, ok.base hz4, ov.base hz4⟩
      dsimp only [rowV, Ent.at_] at hy
      unfold Ent.at_
      have HR := Lib.hid (roundIn_any (m' := 5) hR)
      have hw1 := wrap_succ (n := k) (by have := HL.out; have := HLT.out; omega)
      have HW1 := Lib.hid hw1
      clear hR hj1 hz4 hx3 ok ov e0 e1 e2 e3 hw1
      gi_wp2
      refine RoundIn.mono HR.out ?_
      rintro e W3 ⟨hst, (⟨rfl, hj⟩ | ⟨rfl, hjx⟩)⟩
      · have HST3 := Lib.hid ((HST.out.trans (Step.of_chg (S := fun _ => False) (Chg.of_ext HX3.out) HST.out.size (fun _ _ _ h => h))).trans hst)
        have HJ3 := Lib.hid hj
        clear hst hj hy
        gi_wp2
        go_wp2_with fail
        refine ⟨⟨k + 1, HLT.out, by rw [HW1.out], HJ3, HST3⟩, ?_⟩
        rw [HW1.out]
        have := HLT.out
        simp [intOf]; omega
      · have HX9 := Lib.hid hjx
        clear hst hjx hy
        gi_wp2
        go_wp2_with fail
        refine bodyPost_ret (results_none rfl _ _ _) rfl ?_
        exact ⟨⟨_, rfl⟩, .inr HX9.out⟩
    · have d : decide ((k : Int) < (S.length : Int)) = false := by rw [decide_eq_false_iff_not]; exact fun h => hlt (Int.ofNat_lt.1 h)
      have dn : decide (k < S.length) = false := by rw [decide_eq_false_iff_not]; exact hlt
      have HLT : Hid (k = S.length) := by unfold Hid; omega
      clear hlt hk
      gi_wp2
      refine ⟨rfl, _, results_none rfl _ _ _, ⟨_, rfl⟩, .inl ⟨W.heap.size, Nat.le_refl _, ?_⟩⟩
      rw [← HLT.out]
      exact HJK.out
end Go.Proofs.Ytddfelahpiokjaa

/- goes: a law goes over entries. -/
namespace Go.Proofs.Ytddfelahpiokjaa
open Go.ChangeShapes Go.WideShapes Go.ChangeAt Go.RowKit Go.Shelf
attribute [local go_sem] Oper.semAt_some

theorem from_some (g : Nat) (w : World) : (binOp .eql 47 (.func (.func 32) #[] #[.pointer (some ⟨g, 0, none⟩)]) .nilFunc).run Try.prog w = .ok (.bool false) w := by kernel_rfl
/-- Between two rounds. -/
structure GoesI (w : World) (X : Option Addr) (N c : Nat) (most : Int) (n₁ k : Nat) (A : World) : Prop where
  below : Below w.heap.size w A
  num : Boxed A (w.heap.size + 3) 3 (.int .i64 (k : Int))
  res : Boxed A (w.heap.size + 2) 4 (.bool false)
  most : Boxed A (w.heap.size + 1) 3 (.int .i64 most)
  want : Boxed A w.heap.size 24 (.slice X N c)
  z1 : n₁ ≤ A.heap.size

set_option maxRecDepth 100000 in
set_option maxHeartbeats 8000000 in
theorem goes_any {w : World} {bd lo2 hi2 c2 : Nat} {X : Option Addr} {L2 : List (Ent × Hd)} {L : List Tw} {C : World → Prop} {most : Int} (hseq : Iter Try.prog 32 #[.pointer (some ⟨bd, 0, none⟩)] L.length rowV (CopOk L) C w) (hC : ∀ A, Below w.heap.size w A → C A) (hins : ∀ t ∈ L, InE t.e)
    (h2 : Es w lo2 hi2 X L2) (hhi2 : hi2 ≤ w.heap.size) (hl2 : L2.length ≤ 1000000000000) (hfit : L.map Tw.e = L2.map Prod.fst) :
    Calls Try.prog 16 #[.func (.func 32) #[] #[.pointer (some ⟨bd, 0, none⟩)], .slice X L2.length c2, .int .i64 most] w fun e w' => e = .returned (.bool true) ∧ Below w.heap.size w w' := by
  obtain ⟨w1, hw1⟩ : ∃ w1, w1 = (((w.alloc (.cells #[.slice X L2.length c2] 24)).alloc (.cells #[.int .i64 most] 3)).alloc (.cells #[.bool false] 4)).alloc (.cells #[.int .i64 0] 3) := ⟨_, rfl⟩
  have HX1 : Hid (Ext w w1) := by rw [hw1]; exact Ext.trans (Ext.trans (Ext.trans (ext_alloc _ _) (ext_alloc _ _)) (ext_alloc _ _)) (ext_alloc _ _)
  have HZ1 : Hid (w1.heap.size = w.heap.size + 4) := by rw [hw1]; simp [Hid]
  have HB0 : Hid (Boxed w1 w.heap.size 24 (.slice X L2.length c2)) := by rw [hw1]; exact ext_heap (Ext.trans (Ext.trans (ext_alloc _ _) (ext_alloc _ _)) (ext_alloc _ _)) (heap_at _ _ rfl)
  have HB1 : Hid (Boxed w1 (w.heap.size + 1) 3 (.int .i64 most)) := by rw [hw1]; exact ext_heap (Ext.trans (ext_alloc _ _) (ext_alloc _ _)) (heap_at _ _ (by simp))
  have HB2 : Hid (Boxed w1 (w.heap.size + 2) 4 (.bool false)) := by rw [hw1]; exact ext_heap (ext_alloc _ _) (heap_at _ _ (by simp))
  have HB3 : Hid (Boxed w1 (w.heap.size + 3) 3 (.int .i64 0)) := by rw [hw1]; exact heap_at _ _ (by simp)
  have HSEQ := Lib.hid hseq
  have HC := Lib.hid hC
  have HINS := Lib.hid hins
  have HE2 := Lib.hid h2
  have HHI2 := Lib.hid hhi2
  have HL2 := Lib.hid hl2
  have HFIT := Lib.hid hfit
  have hlen : L.length = L2.length := by have := congrArg List.length hfit; simpa using this
  have HLEN := Lib.hid hlen
  have hlI : (L2.length : Int) ≤ 1000000000000 := by omega
  have hfn := from_some bd
  clear hseq hC hins h2 hhi2 hl2 hfit hlen
  have hf2 : Fence.wide.fn 15 := trivial
  refine (callsIn_wide (n := 6)).1 ?_
  refine callsIn_of_wp_marks Try.func16 rfl trivial ?_
  simp only [Try.ntmps16, List.size_toArray, List.length_cons, List.length_nil, Nat.reduceAdd, Nat.reduceSub, Array.replicate_succ, Array.replicate_zero, List.push_toArray, List.append_toArray, List.nil_append, List.cons_append]
  gi_wp2_with fail
  rw [← hw1]
  clear hw1 hfn
  refine wpIn_over rfl enters_from1 (Iter.ext HSEQ.out HX1.out) (fun _ => rfl) (GoesI w X L2.length c2 most) (fun c A => c = .ret ∧ Boxed A (w.heap.size + 2) 4 (.bool true) ∧ Below w.heap.size w A) (fun _ _ _ h => HC.out _ h.below) ?hI ?hIx ?h0 ?round ?done ?stop
  case hI =>
    intro n₁ k A1 A2 hn hi hc
    have z1 := HZ1.out
    exact ⟨hi.below.trans (hc.below (fun i hb => by have := hb.1; omega) hi.below.size), boxed_chg hi.num hc (fun hb => by have := hb.1; omega), boxed_chg hi.res hc (fun hb => by have := hb.1; omega),
      boxed_chg hi.most hc (fun hb => by have := hb.1; omega), boxed_chg hi.want hc (fun hb => by have := hb.1; omega), Nat.le_trans hi.z1 hc.size⟩
  case hIx =>
    rintro c A1 A2 ⟨rfl, hb, hbl⟩ hc
    have z1 := HZ1.out
    exact ⟨rfl, boxed_chg hb hc (fun h => by have h : w1.heap.size ≤ _ := h; omega), hbl.trans (hc.below (fun i h => by have h : w1.heap.size ≤ i := h; omega) hbl.size)⟩
  case h0 =>
    intro A1 hx
    exact ⟨Ext.trans HX1.out hx, ext_heap hx HB3.out, ext_heap hx HB2.out, ext_heap hx HB1.out, ext_heap hx HB0.out, Nat.le_refl _⟩
  case round =>
    rintro l2 n₁ k ⟨e, g⟩ A1 hl1 hl2 hn hnA hi hk ⟨p, hp, he, hmk, hmv⟩
    have he' : e = p.e := he
    subst he'
    have HINE := Lib.hid (HINS.out p (List.mem_of_getElem? hp))
    have HMK := Lib.hid hmk
    have HMV := Lib.hid hmv
    have HI1 := Lib.hid hi
    have HN1 := Lib.hid hn
    have HL12 := Lib.hid (And.intro hl1 hl2)
    have HK1 := Lib.hid hk
    obtain ⟨q, hq⟩ : ∃ q, L2[k]? = some q := ⟨_, List.getElem?_eq_getElem (by have := HLEN.out; omega)⟩
    have heq : p.e = q.1 := by
      have h1 := congrArg (fun l => l[k]?) HFIT.out
      simp only [List.getElem?_map, hp, hq, Option.map_some] at h1
      injection h1 with h1
    have HQ := Lib.hid hq
    have HEQ := Lib.hid heq
    obtain ⟨e, he⟩ : ∃ e, e = p.e := ⟨_, rfl⟩
    rw [← he] at HINE HMK HMV HEQ ⊢
    clear hl1 hl2 hn hnA hi hk hp hmk hmv hq heq he
    dsimp only at HMK HMV
    dsimp only [rowV, Ent.at_]
    gi_wp2
    obtain ⟨A2, hA2⟩ : ∃ A2, A2 = A1.alloc (.cells #[.slice g.kA e.key.length g.kc, .int .i64 e.seq, .int .i64 e.kind, .slice g.vA e.val.length g.vc] 37) := ⟨_, rfl⟩
    rw [← hA2]
    have HX2 : Hid (Ext A1 A2) := by rw [hA2]; exact ext_alloc _ _
    have HBE : Hid (A2.heap[A1.heap.size]? = some (.cells #[.slice g.kA e.key.length g.kc, .int .i64 e.seq, .int .i64 e.kind, .slice g.vA e.val.length g.vc] 37 (0, 0))) := by rw [hA2]; exact heap_at _ _ rfl
    clear hA2
    refine ⟨Step.of_chg (S := fun _ => False) (Chg.of_ext HX2.out) HI1.out.z1 (fun _ _ _ h => h), fun A3 hc => ?_⟩
    have HCH : Hid (Chg (fun i => i = l2) A1 A3) := (Chg.of_ext HX2.out).trans hc
    have HI3 : Hid (GoesI w X L2.length c2 most n₁ k A3) := by
      have hi := HI1.out
      have h12 := HL12.out
      have hc := HCH.out
      have z1 := HZ1.out
      exact ⟨hi.below.trans (hc.below (fun i hb => by omega) hi.below.size), boxed_chg hi.num hc (fun hb => by omega), boxed_chg hi.res hc (fun hb => by omega),
        boxed_chg hi.most hc (fun hb => by omega), boxed_chg hi.want hc (fun hb => by omega), Nat.le_trans hi.z1 hc.size⟩
    have HM3 : Hid (Em A3 0 A3.heap.size e g) := by
      obtain ⟨a1, a2, a3, a4, a5⟩ := HINE.out.s
      have k3 : Own n₁ e.key (.slice g.kA e.key.length g.kc) A3 := row_chg HMK.out HCH.out (fun i h1 h2 => by have := HL12.out.2; omega)
      have v3 : Own n₁ e.val (.slice g.vA e.val.length g.vc) A3 := row_chg HMV.out HCH.out (fun i h1 h2 => by have := HL12.out.2; omega)
      exact k3.em v3 HINE.out.bk HINE.out.bv (by omega) (by omega) (by rcases a5 with ⟨a, _⟩ | ⟨a, _⟩ <;> omega) (by rcases a5 with ⟨a, _⟩ | ⟨a, _⟩ <;> omega)
    have HB3' : Hid (A3.heap[A1.heap.size]? = some (.cells #[.slice g.kA e.key.length g.kc, .int .i64 e.seq, .int .i64 e.kind, .slice g.vA e.val.length g.vc] 37 (0, 0))) :=
      (hc.block _ (Array.getElem?_eq_some_iff.1 HBE.out).1 (fun e => by have := HI1.out.z1; have := HL12.out.2; omega)).trans HBE.out
    have HE3 := Lib.hid (HE2.out.below HI3.out.below HHI2.out)
    obtain ⟨b, o, rfl⟩ := HE3.out.base (by have := (List.getElem?_eq_some_iff.1 HQ.out).1; omega)
    obtain ⟨d0, d1, d2, d3⟩ := HE3.out.get HQ.out
    have HRS : Hid (∀ u, Ext A3 u → Calls Try.prog 15 #[.agg #[.slice g.kA e.key.length g.kc, .int .i64 e.seq, .int .i64 e.kind, .slice g.vA e.val.length g.vc], .agg #[.slice q.2.kA q.1.key.length q.2.kc, .int .i64 q.1.seq, .int .i64 q.1.kind, .slice q.2.vA q.1.val.length q.2.vc]] u fun x w' => x = .returned (.bool true) ∧ Ext u w') := fun u hu => by
      refine (rsame_any (HM3.out.below hu (Nat.le_refl _)) (((HE3.out.below hu (Nat.le_trans HHI2.out HI3.out.below.size)).each q (List.mem_of_getElem? HQ.out))) hu.size (Nat.le_trans (Nat.le_trans HHI2.out HI3.out.below.size) hu.size)).mono ?_
      rintro x w' ⟨z, hz, rfl, hx⟩
      have : z = true := hz.2 HEQ.out
      subst this
      exact ⟨rfl, hx⟩
    have b0 := HI3.out.num.cell
    have f0 := HI3.out.num.frozen
    have b1 := HI3.out.want.cell
    have b2 := HI3.out.most.cell
    have e0 := cell_of HB3'.out (k := 0) rfl
    have e1 := cell_of HB3'.out (k := 1) rfl
    have e2 := cell_of HB3'.out (k := 2) rfl
    have e3 := cell_of HB3'.out (k := 3) rfl
    have hkl : k < L2.length := (List.getElem?_eq_some_iff.1 HQ.out).1
    have dk : decide ((L2.length : Int) ≤ (k : Int)) = false := by simp; omega
    have dkn : decide (L2.length ≤ k) = false := by simp; omega
    have n1 : (0 : Int) ≤ (k : Int) := by omega
    have n2 : (k : Int) < (L2.length : Int) := by omega
    have HKL := Lib.hid hkl
    have HMIX : Try.prog.follows .mixedOrders = true := by kernel_rfl
    clear hc hkl
    gi_wp2
    refine flow_in HMIX (by kernel_rfl) (fun _ _ h => h) [Is (.int .i64 (k : Int)), Is (.slice (some ⟨b, o, none⟩) L2.length c2), Is (.int .i64 (L2.length : Int)), Is (.bool false), Is (.bool false), Is (.agg #[.slice g.kA e.key.length g.kc, .int .i64 e.seq, .int .i64 e.kind, .slice g.vA e.val.length g.vc]), Is (.slice (some ⟨b, o, none⟩) L2.length c2), Is (.int .i64 (k : Int)), Is (.pointer (some ⟨b, o + k * 4, none⟩)), Is (.agg #[.slice q.2.kA q.1.key.length q.2.kc, .int .i64 q.1.seq, .int .i64 q.1.kind, .slice q.2.vA q.1.val.length q.2.vc]), Is (.bool true), Is (.bool false), Is (.bool false)] (by kernel_rfl) (by kernel_rfl) ?mono (fun f1 => ?obl) ?fin
    case mono =>
      simp only [List.forall_mem_cons, List.not_mem_nil, false_imp_iff, implies_true, and_true]
      exact ⟨.is _, .is _, .is _, .is _, .is _, .is _, .is _, .is _, .is _, .is _, .is _, .is _, .is _⟩
    case fin =>
      intro g1 u hu hg
      simp only [puts, Act.put, List.setIfInBounds_toArray, List.set_cons_zero, List.set_cons_succ]
      have h12 : g1 12 = .bool false := hg 12 (by decide)
      rw [h12]
      have HU : Hid (Ext A3 u) := Ext.trans (Ext.drew A3) hu
      have b0 := ext_cell HU.out b0
      have b2 := ext_cell HU.out b2
      have f0 : u.frozen? ⟨w.heap.size + 3, 0, none⟩ = false := Boxed.frozen (ext_heap HU.out HI3.out.num)
      have hres := ext_heap HU.out HI3.out.res
      have r0 := Boxed.cell hres
      have rf := Boxed.frozen hres
      have HRES := Lib.hid hres
      clear h12 hg hu e0 e1 e2 e3 d0 d1 d2 d3 hres
      have hi := HI3.out
      have hnum : Boxed u (w.heap.size + 3) 3 (.int .i64 (k : Int)) := ext_heap HU.out hi.num
      have HNUM := Lib.hid hnum
      clear hi hnum
      by_cases hm : (k : Int) + 1 = most
      · have dm : ((k : Int) + 1 == most) = true := by simpa using hm
        clear hm
        gi_wp2
        have hi := HI3.out
        have z1 := HZ1.out
        have hS : Chg (fun i => i = w.heap.size + 3 ∨ i = w.heap.size + 2) A3 ((u.setCell ⟨w.heap.size + 3, 0, none⟩ (.int .i64 ((k : Int) + 1))).setCell ⟨w.heap.size + 2, 0, none⟩ (.bool true)) := ((Chg.of_ext HU.out).trans (Chg.setCell _ _ _ (.inl rfl))).trans (Chg.setCell _ _ _ (.inr rfl))
        have hb2 : Boxed (u.setCell ⟨w.heap.size + 3, 0, none⟩ (.int .i64 ((k : Int) + 1))) (w.heap.size + 2) 4 (.bool false) := (Below.heap_setCell _ _ _ _ (by show w.heap.size + 2 ≠ w.heap.size + 3; omega)).trans HRES.out
        exact ⟨Step.of_chg hS hi.z1 (fun i h1 h2 h3 => by omega), rfl, hb2.set _, hi.below.trans (hS.below (fun i hb => by omega) hi.below.size)⟩
      · have dm : ((k : Int) + 1 == most) = false := by simpa using hm
        clear hm
        gi_wp2
        have hi := HI3.out
        have hS : Chg (fun i => i = w.heap.size + 3) A3 (u.setCell ⟨w.heap.size + 3, 0, none⟩ (.int .i64 ((k : Int) + 1))) := (Chg.of_ext HU.out).trans (Chg.setCell _ _ _ rfl)
        have z1 := HZ1.out
        exact ⟨Step.of_chg hS hi.z1 (fun i h1 h2 h3 => by omega), hi.below.trans (hS.below (fun i hb => by omega) hi.below.size), HNUM.out.set _, boxed_chg hi.res hS (fun hb => by omega),
          boxed_chg hi.most hS (fun hb => by omega), boxed_chg hi.want hS (fun hb => by omega), Nat.le_trans hi.z1 hS.size⟩
    case obl =>
      refine ⟨fun u hu hd => ?_, ?_⟩
      · have hu2 := Ext.trans (Ext.drew A3) hu
        have q1 := ext_cell hu2 b0
        go_simp
        exact ⟨Ext.refl _, rfl⟩
      refine ⟨fun u hu hd => ?_, ?_⟩
      · simp only [Act.put, List.setIfInBounds_toArray, List.set_cons_zero, List.set_cons_succ]
        have hu2 := Ext.trans (Ext.drew A3) hu
        have q1 := ext_cell hu2 b1
        go_simp
        exact ⟨Ext.refl _, rfl⟩
      refine ⟨fun u hu hd => ?_, ?_⟩
      · simp only [Act.put, List.setIfInBounds_toArray, List.set_cons_zero, List.set_cons_succ]
        have e1 : f1 1 = (.slice (some ⟨b, o, none⟩) L2.length c2) := hd 1 (by kernel_rfl)
        go_simp
        exact ⟨Ext.refl _, rfl⟩
      refine ⟨fun u hu hd => ?_, ?_⟩
      · simp only [Act.put, List.setIfInBounds_toArray, List.set_cons_zero, List.set_cons_succ]
        have e0 : f1 0 = (.int .i64 (k : Int)) := hd 0 (by kernel_rfl)
        have e2 : f1 2 = (.int .i64 (L2.length : Int)) := hd 2 (by kernel_rfl)
        go_simp
        exact ⟨Ext.refl _, rfl⟩
      refine ⟨fun u hu hd => ?_, ?_⟩
      · simp only [Act.put, List.setIfInBounds_toArray, List.set_cons_zero, List.set_cons_succ]
        have e3 : f1 3 = (.bool false) := hd 3 (by kernel_rfl)
        go_simp
        exact ⟨Ext.refl _, rfl⟩
      refine ⟨fun u hu hd => ?_, ?_⟩
      · simp only [Act.put, List.setIfInBounds_toArray, List.set_cons_zero, List.set_cons_succ]
        have e4' : f1 4 = .bool false := hd 4 (by kernel_rfl)
        have hu2 := Ext.trans (Ext.drew A3) hu
        have q0 := ext_cell hu2 e0
        have q1 := ext_cell hu2 e1
        have q2 := ext_cell hu2 e2
        have q3 := ext_cell hu2 e3
        go_simp
        exact ⟨Ext.refl _, rfl⟩
      refine ⟨fun u hu hd => ?_, ?_⟩
      · simp only [Act.put, List.setIfInBounds_toArray, List.set_cons_zero, List.set_cons_succ]
        have e4' : f1 4 = .bool false := hd 4 (by kernel_rfl)
        have hu2 := Ext.trans (Ext.drew A3) hu
        have q1 := ext_cell hu2 b1
        go_simp
        exact ⟨Ext.refl _, rfl⟩
      refine ⟨fun u hu hd => ?_, ?_⟩
      · simp only [Act.put, List.setIfInBounds_toArray, List.set_cons_zero, List.set_cons_succ]
        have e4' : f1 4 = .bool false := hd 4 (by kernel_rfl)
        have hu2 := Ext.trans (Ext.drew A3) hu
        have q1 := ext_cell hu2 b0
        go_simp
        exact ⟨Ext.refl _, rfl⟩
      refine ⟨fun u hu hd => ?_, ?_⟩
      · simp only [Act.put, List.setIfInBounds_toArray, List.set_cons_zero, List.set_cons_succ]
        have e4' : f1 4 = .bool false := hd 4 (by kernel_rfl)
        have e6 : f1 6 = (.slice (some ⟨b, o, none⟩) L2.length c2) := hd 6 (by kernel_rfl)
        have e7 : f1 7 = (.int .i64 (k : Int)) := hd 7 (by kernel_rfl)
        go_simp
        exact ⟨Ext.refl _, rfl⟩
      refine ⟨fun u hu hd => ?_, ?_⟩
      · simp only [Act.put, List.setIfInBounds_toArray, List.set_cons_zero, List.set_cons_succ]
        have e4' : f1 4 = .bool false := hd 4 (by kernel_rfl)
        have e8 : f1 8 = (.pointer (some ⟨b, o + k * 4, none⟩)) := hd 8 (by kernel_rfl)
        have hu2 := Ext.trans (Ext.drew A3) hu
        have q0 := ext_cell hu2 d0
        have q1 := ext_cell hu2 d1
        have q2 := ext_cell hu2 d2
        have q3 := ext_cell hu2 d3
        go_simp
        exact ⟨Ext.refl _, rfl⟩
      refine ⟨fun u hu hd => ?_, ?_⟩
      · simp only [Act.put, List.setIfInBounds_toArray, List.set_cons_zero, List.set_cons_succ]
        have e4' : f1 4 = .bool false := hd 4 (by kernel_rfl)
        have e5 : f1 5 = (.agg #[.slice g.kA e.key.length g.kc, .int .i64 e.seq, .int .i64 e.kind, .slice g.vA e.val.length g.vc]) := hd 5 (by kernel_rfl)
        have e9 : f1 9 = (.agg #[.slice q.2.kA q.1.key.length q.2.kc, .int .i64 q.1.seq, .int .i64 q.1.kind, .slice q.2.vA q.1.val.length q.2.vc]) := hd 9 (by kernel_rfl)
        have hu2 := Ext.trans (Ext.drew A3) hu
        go_simp
        refine (HRS.out u hu2).mono ?_
        rintro x w9 ⟨rfl, hx9⟩
        exact ⟨_, rfl, hx9, rfl⟩
      refine ⟨fun u hu hd => ?_, ?_⟩
      · simp only [Act.put, List.setIfInBounds_toArray, List.set_cons_zero, List.set_cons_succ]
        have e4' : f1 4 = .bool false := hd 4 (by kernel_rfl)
        have e10 : f1 10 = (.bool true) := hd 10 (by kernel_rfl)
        go_simp
        exact ⟨Ext.refl _, rfl⟩
      refine ⟨fun u hu hd => ?_, ?_⟩
      · simp only [Act.put, List.setIfInBounds_toArray, List.set_cons_zero, List.set_cons_succ]
        have e4' : f1 4 = .bool false := hd 4 (by kernel_rfl)
        have e11 : f1 11 = (.bool false) := hd 11 (by kernel_rfl)
        go_simp
        exact ⟨Ext.refl _, rfl⟩
      trivial
  case done =>
    rintro D' n₁ W' hDl hDn hn hi hD
    rw [HLEN.out] at hi
    have HDL := Lib.hid (And.intro hDl hDn)
    have HDD := Lib.hid hD
    have HI := Lib.hid hi
    have q0 := hi.num.cell
    have q1 := hi.want.cell
    have q2 := hi.res.cell
    have f2 := hi.res.frozen
    clear hDl hDn hn hi hD
    gi_wp2
    have hne : D' ≠ w.heap.size + 2 := by have h1 := HDL.out; have h2 := HZ1.out; omega
    have HD2 : Hid ((W'.setCell ⟨w.heap.size + 2, 0, none⟩ (.bool true)).heap[D']? = some (.deferred (some []))) := (Below.heap_setCell _ _ _ _ hne).trans HDD.out
    have HBR : Hid (Boxed (W'.setCell ⟨w.heap.size + 2, 0, none⟩ (.bool true)) (w.heap.size + 2) 4 (.bool true)) := HI.out.res.set _
    have HBW : Hid (Below w.heap.size w (W'.setCell ⟨w.heap.size + 2, 0, none⟩ (.bool true))) := Below.setCell HI.out.below (show w.heap.size ≤ w.heap.size + 2 by omega) _
    refine ⟨by simp, .inl ⟨_, _, rfl, run_takeDeferred HD2.out, ?_⟩⟩
    refine ⟨_, results_cell_bool Try.results16 _ _ (w.heap.size + 2) true rfl (Boxed.cell (boxed_chg HBR.out (putObj_chg _ D' _) (fun e => hne e.symm))), ⟨rfl, ?_⟩⟩
    exact HBW.out.trans ((putObj_chg _ D' _).below (fun i e => by have h1 := HDL.out; have h2 := HZ1.out; omega) HBW.out.size)
  case stop =>
    rintro D' c W' hDl ⟨rfl, hbr, hbl⟩ hD
    have HDL := Lib.hid hDl
    have HBR := Lib.hid hbr
    have HBW := Lib.hid hbl
    have HDD := Lib.hid hD
    clear hDl hbr hbl hD
    gi_wp2
    have hne : D' ≠ w.heap.size + 2 := by have h1 := HDL.out; have h2 := HZ1.out; omega
    refine ⟨by simp, .inl ⟨_, _, rfl, run_takeDeferred HDD.out, ?_⟩⟩
    refine ⟨_, results_cell_bool Try.results16 _ _ (w.heap.size + 2) true rfl (Boxed.cell (boxed_chg HBR.out (putObj_chg _ D' _) (fun e => hne e.symm))), ⟨rfl, ?_⟩⟩
    exact HBW.out.trans ((putObj_chg _ D' _).below (fun i e => by have h1 := HDL.out; have h2 := HZ1.out; omega) HBW.out.size)
end Go.Proofs.Ytddfelahpiokjaa

/- A region that draws its order, by facts: as XFlow, but over any relation of worlds that is a preorder (a later operation may change what an earlier one made). -/
namespace Go.Proofs.Ytddfelahpiokjaa.Fr
open Go.RowKit

/-- What a later world keeps of an earlier one. -/
structure Rel where
  r : World → World → Prop
  refl : ∀ w, r w w
  trans : ∀ {a b c}, r a b → r b c → r a c
/-- A fact that later worlds keep. -/
def Mono (R : Rel) (p : Value → World → Prop) : Prop := ∀ v u u', p v u → R.r u u' → p v u'
theorem Mono.is {R : Rel} (c : Value) : Mono R (Is c) := fun _ _ _ h _ => h
theorem fact_mono {R : Rel} {φ : List (Value → World → Prop)} (h : ∀ p ∈ φ, Mono R p) (j : Nat) {v : Value} {u u' : World} (hf : fact φ j v u) (hu : R.r u u') : fact φ j v u' := by
  unfold fact at *
  by_cases hj : j < φ.length
  · have e : φ.getD j (fun _ _ => True) = φ[j] := by simp [List.getD, List.getElem?_eq_getElem hj]
    rw [e] at hf ⊢
    exact h _ (List.getElem_mem hj) _ _ _ hf hu
  · have e : φ.getD j (fun _ _ => True) = fun _ _ => True := by simp [List.getD, List.getElem?_eq_none (Nat.le_of_not_lt hj)]
    rw [e]; trivial

/-- Each operation gives its fact. -/
def Obls (R : Rel) (P : Program) (ops : Array Oper) (φ : List (Value → World → Prop)) (w0 : World) (f : Nat → Value) : Nat → List Oper → Act → Prop
  | _, [], _ => True
  | k, o :: rest, a => (∀ u, R.r w0 u → (∀ j, aft o j = true → fact φ j (f j) u) →
      if Region.wanted o (yielded ops a.tmps) = true then GivesR P ((execOp a.eval o).run P u) (fun v u' => R.r u u' ∧ fact φ k (kept o v) u') else fact φ k undef u) ∧ Obls R P ops φ w0 f (k + 1) rest (a.put o.dst (f k))
theorem Obls.at {R : Rel} {P : Program} {ops : Array Oper} {φ : List (Value → World → Prop)} {w0 : World} {f : Nat → Value} : ∀ (l : List Oper) (k : Nat) (a : Act), Obls R P ops φ w0 f k l a → ∀ (i : Nat) (o : Oper), l[i]? = some o →
    ∀ u, R.r w0 u → (∀ j, aft o j = true → fact φ j (f j) u) →
      if Region.wanted o (yielded ops (puts f k (l.take i) a).tmps) = true then GivesR P ((execOp (puts f k (l.take i) a).eval o).run P u) (fun v u' => R.r u u' ∧ fact φ (k + i) (kept o v) u') else fact φ (k + i) undef u := by
  intro l
  induction l with
  | nil => intro k a _ i o h; simp at h
  | cons o l ih =>
    intro k a h i oi hi
    cases i with
    | zero => simp at hi; subst hi; exact h.1
    | succ i =>
      have := ih (k + 1) _ h.2 i oi (by simpa using hi)
      simp only [List.take_succ_cons, puts]
      rw [show k + (i + 1) = k + 1 + i by omega]
      exact this

structure Inv (R : Rel) (ops : Array Oper) (φ : List (Value → World → Prop)) (a0 : Act) (w0 : World) (seen : Array Bool) (a : Act) (u : World) : Prop where
  ext : R.r w0 u
  size : seen.size = ops.size
  defs : a.defers = a0.defers
  tsz : a.tmps.size = a0.tmps.size
  old : ∀ s, (∀ (j : Nat) (oj : Oper), ops[j]? = some oj → seen.getD j false = true → oj.dst ≠ some s) → a.tmps[s]? = a0.tmps[s]?
  facts : ∀ (j : Nat) (oj : Oper), ops[j]? = some oj → seen.getD j false = true → fact φ j (slot a oj) u
  closed : ∀ (j : Nat) (oj : Oper), ops[j]? = some oj → seen.getD j false = true → ∀ k, aft oj k = true → seen.getD k false = true

section
variable {P : Program} {ops : Array Oper} {Q : Exit → Act → World → Prop} {φ : List (Value → World → Prop)} {a0 : Act} {w0 : World} {R : Rel}

theorem look_same {seen : Array Bool} {a : Act} {u : World} (hok : flowOk ops a0.tmps.size = true) (hI : Inv R ops φ a0 w0 seen a u) {i : Nat} {oi : Oper} (hi : ops[i]? = some oi) (hn : seen.getD i false = false)
    {t : Nat} (ht : t ∈ oi.looksAt ops) : a.tmps[t]? = (puts (held ops a) 0 (ops.toList.take i) a0).tmps[t]? := by
  by_cases hsz : t < a0.tmps.size
  · have hlen : i < ops.toList.length := by simpa using (Array.getElem?_eq_some_iff.1 hi).1
    have conv : ∀ (j : Nat) (o : Oper), (ops.toList.take i)[j]? = some o → j < i ∧ ops[j]? = some o := fun j o h => by
      rw [List.getElem?_take] at h
      split at h
      · rename_i hj; exact ⟨hj, by rw [← Array.getElem?_toList]; exact h⟩
      · cases h
    have huniq : ∀ (x y : Nat) (ox oy : Oper), (ops.toList.take i)[x]? = some ox → (ops.toList.take i)[y]? = some oy → ox.dst = some t → oy.dst = some t → x = y := fun x y ox oy hx hy h1 h2 => by
      rcases Nat.decEq x y with hne | he
      · exact absurd h1 (((flowOk_at hok (conv x ox hx).2).2.2.2 y oy t (conv y oy hy).2 h2).1 (fun e => hne e.symm))
      · exact he
    obtain ⟨h1, h2⟩ := puts_get (held ops a) (ops.toList.take i) 0 a0 t hsz huniq
    by_cases hex : ∃ (j : Nat) (oj : Oper), (ops.toList.take i)[j]? = some oj ∧ oj.dst = some t
    · obtain ⟨j, oj, hj, hd⟩ := hex
      rw [h2 j oj hj hd, Nat.zero_add]
      have hj' := (conv j oj hj).2
      have hlt := (conv j oj hj).1
      simp only [held, hj', slot, hd]
      have hts : t < a.tmps.size := by rw [hI.tsz]; exact hsz
      simp [Array.getD, hts]
    · have hex' : ∀ (j : Nat) (o : Oper), (ops.toList.take i)[j]? = some o → o.dst ≠ some t := fun j o hj hd => hex ⟨j, o, hj, hd⟩
      rw [h1 hex']
      refine hI.old t fun j oj hj hsj hd => ?_
      rcases ((flowOk_at hok hi).2.2.2 j oj t hj hd).2 ht with h | h
      · have hlt := aft_lt hok hi h
        refine hex' j oj ?_ hd
        rw [List.getElem?_take, if_pos hlt, Array.getElem?_toList]; exact hj
      · have := hI.closed j oj hj hsj i h
        rw [hn] at this; cases this
  · have e1 : a.tmps[t]? = none := Array.getElem?_eq_none (by rw [hI.tsz]; omega)
    have e2 : (puts (held ops a) 0 (ops.toList.take i) a0).tmps[t]? = none := Array.getElem?_eq_none (by rw [puts_size]; omega)
    rw [e1, e2]

theorem Inv.next {seen : Array Bool} {a : Act} {u u' : World} (hok : flowOk ops a0.tmps.size = true) (hmono : ∀ p ∈ φ, Mono R p) (hI : Inv R ops φ a0 w0 seen a u) {i : Nat} {oi : Oper} (hi : ops[i]? = some oi)
    (hs : ∀ k, aft oi k = true → seen.getD k false = true) {v : Value} (hu : R.r u u') (hf : fact φ i (kept oi v) u') : Inv R ops φ a0 w0 (seen.setIfInBounds i true) (a.put oi.dst v) u' := by
  refine ⟨R.trans hI.ext hu, by simp [hI.size], by rw [put_defers']; exact hI.defs, by rw [put_size]; exact hI.tsz, fun s h => ?_, fun j oj hj hsj => ?_, fun j oj hj hsj k hk => ?_⟩
  · have hlt : i < seen.size := by rw [hI.size]; exact (Array.getElem?_eq_some_iff.1 hi).1
    have hne : oi.dst ≠ some s := h i oi hi (by rw [set_getD, if_pos ⟨rfl, hlt⟩])
    rw [put_get, if_neg (fun h => hne h.1)]
    refine hI.old s fun j oj hj hsj => h j oj hj ?_
    rw [set_getD]
    split
    · rfl
    · exact hsj
  · rw [set_getD] at hsj
    by_cases hij : i = j
    · subst hij
      rw [hi] at hj
      injection hj with hj
      subst hj
      have e : slot (a.put oi.dst v) oi = kept oi v := by
        unfold slot kept
        cases hd : oi.dst with
        | none => rfl
        | some d =>
          have hds := (flowOk_at hok hi).2.2.1 d hd
          have hd2 : d < a.tmps.size := by rw [hI.tsz]; exact hds
          simp [Act.put, Array.getD, hd2]
      rw [e]; exact hf
    · rw [if_neg (fun h => hij h.1)] at hsj
      have e : slot (a.put oi.dst v) oj = slot a oj := by
        unfold slot
        cases hd : oj.dst with
        | none => rfl
        | some d =>
          have hne := ((flowOk_at hok hi).2.2.2 j oj d hj hd).1 (fun e => hij e.symm)
          have := put_get a oi.dst v d
          rw [if_neg (fun h => hne h.1)] at this
          show (a.put oi.dst v).tmps.getD d undef = a.tmps.getD d undef
          rw [Array.getD_eq_getD_getElem?, this, ← Array.getD_eq_getD_getElem?]
      rw [e]
      exact fact_mono hmono j (hI.facts j oj hj hsj) hu
  · rw [set_getD] at hsj ⊢
    split
    · rfl
    · rename_i hk2
      by_cases hij : i = j
      · subst hij
        rw [hi] at hj
        injection hj with hj
        subst hj
        exact hs k hk
      · rw [if_neg (fun h => hij h.1)] at hsj
        exact hI.closed j oj hj hsj k hk

theorem flow_step {seen : Array Bool} {a : Act} {u : World} {m : Nat} (hok : flowOk ops a0.tmps.size = true) (hsel : Region.noSelect ops = true) (hmono : ∀ p ∈ φ, Mono R p) (hobl : ∀ f, Obls R P ops φ w0 f 0 (ops.toList.take m) a0)
    (hI : Inv R ops φ a0 w0 seen a u) {i : Nat} (him : i < m) (hr : i ∈ Region.ready .any ops seen) : wpOp P ops Q i (fun b u' => Inv R ops φ a0 w0 (seen.setIfInBounds i true) b u') a u := by
  obtain ⟨hun, oi, hi, hall⟩ := mem_ready.1 hr
  have hlt : i < ops.size := (Array.getElem?_eq_some_iff.1 hi).1
  have hn : seen.getD i false = false := by rw [← getD_both seen (by rw [hI.size]; exact hlt)]; simpa using hun
  have hs : ∀ k, aft oi k = true → seen.getD k false = true := fun k hk => by
    unfold aft at hk
    obtain ⟨e, he, hb⟩ := Array.any_eq_true'.1 hk
    simp only [Bool.and_eq_true, beq_iff_eq] at hb
    rw [← hb.2]
    exact hall e he hb.1
  have hlook := fun {t : Nat} (ht : t ∈ oi.looksAt ops) => look_same hok hI hi hn ht
  have hfacts : ∀ j, aft oi j = true → fact φ j (held ops a j) u := fun j hj => by
    have hjl := aft_lt hok hi hj
    have hoj : ops[j]? = some ops[j] := Array.getElem?_eq_getElem (by omega)
    have := hI.facts j _ hoj (hs j hj)
    simp only [held, hoj]
    exact this
  have hO := Obls.at (ops.toList.take m) 0 a0 (hobl (held ops a)) i oi (by rw [List.getElem?_take, if_pos him, Array.getElem?_toList]; exact hi) u hI.ext hfacts
  rw [Nat.zero_add, List.take_take, Nat.min_eq_left (Nat.le_of_lt him)] at hO
  have hex : execOp (puts (held ops a) 0 (ops.toList.take i) a0).eval oi = execOp a.eval oi := by
    refine execOp_congr oi (fun cs b => Region.noSelect_spec hsel i oi cs b hi) fun x hx => ?_
    cases x with
    | tmp t =>
      have ht : t ∈ oi.looksAt ops := by
        unfold Oper.looksAt
        refine List.mem_append_left _ (List.mem_filterMap.2 ⟨.tmp t, by simpa using hx, rfl⟩)
      show Array.getD _ t undef = Array.getD _ t undef
      rw [Array.getD_eq_getD_getElem?, Array.getD_eq_getD_getElem?, hlook ht]
    | _ => rfl
  have hwt : Region.wanted oi (yielded ops (puts (held ops a) 0 (ops.toList.take i) a0).tmps) = Region.wanted oi (yielded ops a.tmps) := by
    unfold Region.wanted
    cases hg : oi.guard with
    | none => rfl
    | some gb =>
      obtain ⟨g, b⟩ := gb
      have e : yielded ops (puts (held ops a) 0 (ops.toList.take i) a0).tmps g = yielded ops a.tmps g := by
        unfold yielded
        cases hd : (ops[g]?).bind (·.dst) with
        | none => rfl
        | some d =>
          have ht : d ∈ oi.looksAt ops := by
            unfold Oper.looksAt
            rw [hg]
            refine List.mem_append_right _ ?_
            simp only [hd]
            simp
          show (match (puts (held ops a) 0 (ops.toList.take i) a0).tmps[d]? with | some (Value.bool b) => some b | _ => none) = _
          rw [← hlook ht]
          rfl
      simp only [e]
  rw [hex, hwt] at hO
  unfold wpOp
  simp only [hi]
  split
  · rename_i hw
    rw [if_pos hw] at hO
    exact .inl (gives_wp hO fun v u' h => hI.next hok hmono hi hs h.1 h.2)
  · rename_i hw
    rw [if_neg hw] at hO
    refine hI.next hok hmono hi hs (R.refl u) ?_
    have : kept oi undef = undef := by unfold kept; cases oi.dst <;> rfl
    rw [this]; exact hO

theorem all_seen {seen : Array Bool} {a : Act} {u : World} (hok : flowOk ops a0.tmps.size = true) (hI : Inv R ops φ a0 w0 seen a u) (hr : Region.ready .any ops seen = []) : ∀ i, i < ops.size → seen.getD i false = true := by
  intro i
  induction i using Nat.strongRecOn with
  | ind i ih =>
    intro hlt
    rcases h : seen.getD i false with _ | _
    · have hi : ops[i]? = some ops[i] := Array.getElem?_eq_getElem hlt
      have : i ∈ Region.ready .any ops seen := mem_ready.2 ⟨by rw [getD_both seen (by rw [hI.size]; exact hlt)]; exact h, ops[i], hi, fun e he hb => by
        have := (flowOk_at hok hi).1 e he hb
        exact ih e.on this (by omega)⟩
      rw [hr] at this; cases this
    · rfl

theorem act_is {seen : Array Bool} {a : Act} {u : World} (hok : flowOk ops a0.tmps.size = true) (hI : Inv R ops φ a0 w0 seen a u) : a = puts (held ops a) 0 ops.toList a0 := by
  have hd : a.defers = (puts (held ops a) 0 ops.toList a0).defers := by rw [puts_defers]; exact hI.defs
  have ht : a.tmps = (puts (held ops a) 0 ops.toList a0).tmps := by
    apply Array.ext_getElem?
    intro t
    by_cases hsz : t < a0.tmps.size
    · have conv : ∀ (j : Nat) (o : Oper), ops.toList[j]? = some o → ops[j]? = some o := fun j o h => by rw [← Array.getElem?_toList]; exact h
      have huniq : ∀ (x y : Nat) (ox oy : Oper), ops.toList[x]? = some ox → ops.toList[y]? = some oy → ox.dst = some t → oy.dst = some t → x = y := fun x y ox oy hx hy h1 h2 => by
        rcases Nat.decEq x y with hne | he
        · exact absurd h1 (((flowOk_at hok (conv x ox hx)).2.2.2 y oy t (conv y oy hy) h2).1 (fun e => hne e.symm))
        · exact he
      obtain ⟨h1, h2⟩ := puts_get (held ops a) ops.toList 0 a0 t hsz huniq
      by_cases hex : ∃ (j : Nat) (oj : Oper), ops.toList[j]? = some oj ∧ oj.dst = some t
      · obtain ⟨j, oj, hj, hd⟩ := hex
        rw [h2 j oj hj hd, Nat.zero_add]
        simp only [held, conv j oj hj, slot, hd]
        have hts : t < a.tmps.size := by rw [hI.tsz]; exact hsz
        simp [Array.getD, hts]
      · have hex' : ∀ (j : Nat) (o : Oper), ops.toList[j]? = some o → o.dst ≠ some t := fun j o hj hd => hex ⟨j, o, hj, hd⟩
        rw [h1 hex']
        exact hI.old t fun j oj hj _ => hex' j oj (by rw [Array.getElem?_toList]; exact hj)
    · rw [Array.getElem?_eq_none (by rw [hI.tsz]; omega), Array.getElem?_eq_none (by rw [puts_size]; omega)]
  have ext : ∀ x y : Act, x.tmps = y.tmps → x.defers = y.defers → x = y := by rintro ⟨_, _⟩ ⟨_, _⟩ rfl rfl; rfl
  exact ext _ _ ht hd

theorem flow_any (hok : flowOk ops a0.tmps.size = true) (hsel : Region.noSelect ops = true) (hmono : ∀ p ∈ φ, Mono R p) (hobl : ∀ f, Obls R P ops φ w0 f 0 ops.toList a0)
    (hfin : ∀ (g : Nat → Value) u, R.r w0 u → (∀ j, j < ops.size → fact φ j (g j) u) → Q .normal (puts g 0 ops.toList a0) u) :
    ∀ (n : Nat) (seen : Array Bool) (a : Act) (u : World), Inv R ops φ a0 w0 seen a u → left ops seen = n → wpAny P .any ops Q n seen a u := by
  have done : ∀ (seen : Array Bool) (a : Act) (u : World), Inv R ops φ a0 w0 seen a u → (∀ i, i < ops.size → seen.getD i false = true) → Q .normal a u := fun seen a u hI hall => by
    rw [act_is hok hI]
    refine hfin _ _ hI.ext fun j hj => ?_
    have hoj : ops[j]? = some ops[j] := Array.getElem?_eq_getElem hj
    simp only [held, hoj]
    exact hI.facts j _ hoj (hall j hj)
  intro n
  induction n with
  | zero =>
    intro seen a u hI hl
    have hall : ∀ i, i < ops.size → seen.getD i false = true := fun i hi => by
      have := List.countP_eq_zero.1 hl i (List.mem_range.2 hi)
      simpa using this
    refine ⟨?_, done seen a u hI hall⟩
    refine List.eq_nil_iff_forall_not_mem.2 fun i hi => ?_
    obtain ⟨hun, oi, hio, _⟩ := mem_ready.1 hi
    have hlt := (Array.getElem?_eq_some_iff.1 hio).1
    rw [getD_both seen (by rw [hI.size]; exact hlt), hall i hlt] at hun
    cases hun
  | succ n ih =>
    intro seen a u hI hl
    refine ⟨fun hr => done seen a u hI (all_seen hok hI hr), fun i hi => ?_⟩
    refine wpOp_mono (fun b u' hb => ih _ b u' hb ?_) (flow_step (m := ops.size) hok hsel hmono (fun f => by rw [List.take_of_length_le (by simp)]; exact hobl f) hI (Array.getElem?_eq_some_iff.1 (mem_ready.1 hi).2.choose_spec.1).1 hi)
    obtain ⟨hun, oi, hio, _⟩ := mem_ready.1 hi
    have hlt := (Array.getElem?_eq_some_iff.1 hio).1
    rw [getD_both seen (by rw [hI.size]; exact hlt)] at hun
    have := left_next hI.size hlt hun
    omega

/-- A region that draws its order, by facts. -/
theorem flow {id : Nat} {w : World} (hm : P.follows .mixedOrders = true) (φ : List (Value → World → Prop)) (hok : flowOk ops a0.tmps.size = true) (hsel : Region.noSelect ops = true) (hmono : ∀ p ∈ φ, Mono R p)
    (hobl : ∀ f, Obls R P ops φ w.drew f 0 ops.toList a0)
    (hfin : ∀ (g : Nat → Value) u, R.r w.drew u → (∀ j, j < ops.size → fact φ j (g j) u) → Q .normal (puts g 0 ops.toList a0) u) : (Code.region id ops true).wp P Q a0 w := by
  refine wp_region_any hm (flow_any hok hsel hmono hobl hfin _ _ _ _ ⟨R.refl _, by simp, rfl, rfl, fun _ _ => rfl, fun j oj hj hs => ?_, fun j oj hj hs => ?_⟩ ?_)
  · have hlt := (Array.getElem?_eq_some_iff.1 hj).1
    simp [Array.getD, hlt] at hs
  · have hlt := (Array.getElem?_eq_some_iff.1 hj).1
    simp [Array.getD, hlt] at hs
  · unfold left
    rw [List.countP_eq_length.2]
    · simp
    · intro i hi
      have hlt := List.mem_range.1 hi
      simp [Array.getD, hlt]

end
end Go.Proofs.Ytddfelahpiokjaa.Fr

/- Marks of bytes that are written as constants; the law's entries. -/
namespace Go.Proofs.Ytddfelahpiokjaa
open Go.ChangeShapes Go.WideShapes Go.ChangeAt Go.RowKit Go.Lib Go.Joins

theorem freeze_chg (w : World) (g k : Nat) : Chg (fun i => i = g) w (w.freeze ⟨g, k, none⟩ 1) := by
  unfold World.freeze
  rw [if_neg (by decide)]
  exact ⟨rfl, rfl, rfl, by simp, fun i _ hne => by simp [Array.getElem?_modify, Ne.symm hne]⟩
theorem freeze_at {w : World} {g k : Nat} {C : Array Value} {t : TypeId} {fz : Nat × Nat} (h : w.heap[g]? = some (.cells C t fz)) : ∃ fz', (w.freeze ⟨g, k, none⟩ 1).heap[g]? = some (.cells C t fz') := by
  unfold World.freeze
  rw [if_neg (by decide)]
  exact ⟨_, by simp [Array.getElem?_modify, h]; rfl⟩
/-- Bytes that are written as a constant, wherever their block lies. -/
theorem conv_const {w : World} {g n c : Nat} {C : Array Value} {fz : Nat × Nat} (h : w.heap[g]? = some (.cells C 5 fz)) :
    (convert 22 22 (.slice (some ⟨g, 0, none⟩) n c)).run Try.prog w = .ok (.slice (some ⟨g, 0, none⟩) n c) (w.freeze ⟨g, C.size, none⟩ 1) := by
  have hsh : w.shape? g = some (5, C.size) := by unfold World.shape?; rw [h]
  simp [convert, run_underlying Try.underlying22, run_underlying Try.underlying5, markStringish, hsh]

/-- Nothing but marks of bytes from block B on is other. -/
def MarkR (B : Nat) : Fr.Rel where
  r u u' := u'.os = u.os ∧ u'.tape = u.tape ∧ u'.output = u.output ∧ u.heap.size ≤ u'.heap.size ∧ ∀ k, k < u.heap.size → u'.heap[k]? = u.heap[k]? ∨ (B ≤ k ∧ ∃ c fz fz', u.heap[k]? = some (.cells c 5 fz) ∧ u'.heap[k]? = some (.cells c 5 fz'))
  refl w := ⟨rfl, rfl, rfl, Nat.le_refl _, fun _ _ => .inl rfl⟩
  trans := by
    rintro a b c ⟨h1, h2, h3, h4, h5⟩ ⟨k1, k2, k3, k4, k5⟩
    refine ⟨k1.trans h1, k2.trans h2, k3.trans h3, Nat.le_trans h4 k4, fun k hk => ?_⟩
    rcases h5 k hk with h | ⟨hB, x, f, f', hx, hx'⟩
    · rcases k5 k (Nat.lt_of_lt_of_le hk h4) with h' | ⟨hB, x, f, f', hx, hx'⟩
      · exact .inl (h'.trans h)
      · exact .inr ⟨hB, x, f, f', h ▸ hx, hx'⟩
    · rcases k5 k (Nat.lt_of_lt_of_le hk h4) with h' | ⟨_, y, e, e', hy, hy'⟩
      · exact .inr ⟨hB, x, f, f', hx, h'.trans hx'⟩
      · rw [hx'] at hy
        injection hy with hy
        injection hy with q1 _ _
        subst q1
        exact .inr ⟨hB, x, f, e', hx, hy'⟩
section
variable {B : Nat} {u u' : World}
theorem mark_ext (h : Ext u u') : (MarkR B).r u u' := ⟨h.os, h.tape, h.output, h.size, fun k hk => .inl (h.block k hk)⟩
theorem mark_freeze {g k : Nat} {C : Array Value} {fz : Nat × Nat} (hg : u.heap[g]? = some (.cells C 5 fz)) (hB : B ≤ g) : (MarkR B).r u (u.freeze ⟨g, k, none⟩ 1) := by
  have hc := freeze_chg u g k
  refine ⟨hc.os, hc.tape, hc.output, hc.size, fun i hi => ?_⟩
  by_cases h : i = g
  · subst h
    obtain ⟨fz', h'⟩ := freeze_at (k := k) hg
    exact .inr ⟨hB, C, fz, fz', hg, h'⟩
  · exact .inl (hc.block i hi h)
theorem mark_heap {o : Obj} {k : Nat} (h : (MarkR B).r u u') (hk : u.heap[k]? = some o) (hn : k < B ∨ ∀ c fz, o ≠ .cells c 5 fz) : u'.heap[k]? = some o := by
  rcases h.2.2.2.2 k (Array.getElem?_eq_some_iff.1 hk).1 with h' | ⟨hB, x, f, f', hx, hx'⟩
  · exact h'.trans hk
  · rcases hn with hn | hn
    · omega
    · rw [hk] at hx; injection hx with hx; exact absurd hx (hn _ _)
theorem mark_cell {p : Addr} {v : Value} (h : (MarkR B).r u u') (hc : u.cell? p = some v) : u'.cell? p = some v := by
  rcases h.2.2.2.2 p.block (World.block_lt_of_cell? _ _ hc) with h' | ⟨hB, x, f, f', hx, hx'⟩
  · exact (World.cell?_of_block h').trans hc
  · unfold World.cell? at hc ⊢
    rw [hx] at hc
    rw [hx']
    exact hc
theorem mark_chg (h : (MarkR B).r u u') : Chg (fun i => B ≤ i) u u' := ⟨h.1, h.2.1, h.2.2.1, h.2.2.2.1, fun k hk hn => by
  rcases h.2.2.2.2 k hk with h' | ⟨hB, _⟩
  · exact h'
  · exact absurd hB hn⟩
theorem mark_bs {lo hi : Nat} {v : Value} {l : List Nat} (h : (MarkR B).r u u') (hb : Bs u lo hi v l) : Bs u' lo hi v l := by
  obtain ⟨A, c, e, h1, h2, h3, h4⟩ := hb
  refine ⟨A, c, e, h1, h2, h3, ?_⟩
  rcases h4 with h4 | ⟨b, o, e, h5, h6, h7⟩
  · exact .inl h4
  · exact .inr ⟨b, o, e, h5, h6, fun i x hx => mark_cell h (h7 i x hx)⟩
theorem mark_em {lo hi : Nat} {e : Ent} {g : Hd} (h : (MarkR B).r u u') (m : Em u lo hi e g) : Em u' lo hi e g := ⟨mark_bs h m.k, mark_bs h m.v, m.bk, m.bv, m.s1, m.s2, m.d1, m.d2⟩
end

theorem bs_mark (w : World) (l : List Nat) (hl : l.length ≤ 100) (fr : Nat × Nat) : Bs (w.alloc (.cells (bv l).toArray 5 fr)) w.heap.size (w.heap.size + 1) (.slice (some ⟨w.heap.size, 0, none⟩) l.length l.length) l := by
  refine ⟨_, _, rfl, Nat.le_refl _, by simp [maxLen]; omega, (fun h => by cases h), .inr ⟨w.heap.size, 0, rfl, Nat.le_refl _, Nat.lt_succ_self _, fun i u hu => ?_⟩⟩
  rw [cell_alloc_mark_at _ _ _ _ _ _ rfl, Nat.zero_add]
  simpa using hu
theorem bl_bs {u : World} {b : Nat} {l : List Nat} {fz : Nat × Nat} (hl : l.length ≤ 100) (h : u.heap[b]? = some (.cells (bv l).toArray 5 fz)) : Bs u 0 u.heap.size (.slice (some ⟨b, 0, none⟩) l.length l.length) l := by
  refine ⟨_, _, rfl, Nat.le_refl _, by simp [maxLen]; omega, (fun h => by cases h), .inr ⟨b, 0, rfl, Nat.zero_le _, (Array.getElem?_eq_some_iff.1 h).1, fun i x hx => ?_⟩⟩
  rw [Nat.zero_add]
  unfold World.cell?
  rw [h]
  simpa using hx
theorem one_es {u : World} {b : Nat} {e : Ent} {g : Hd} (h : u.heap[b]? = some (.cells (ecells (e, g)).toArray 37 (0, 0))) (hm : Em u 0 u.heap.size e g) : Es u 0 u.heap.size (some ⟨b, 0, none⟩) [(e, g)] := by
  refine ⟨.inr ⟨b, 0, rfl, Nat.zero_le _, (Array.getElem?_eq_some_iff.1 h).1, fun i x hx => ?_⟩, fun p hp => by rw [List.mem_singleton] at hp; subst hp; exact hm⟩
  rw [Nat.zero_add]
  exact cell_of h (by simpa [erow] using hx)

/-- Facts of known's last region. -/
def LitF (e : Ent) (v : Value) (u : World) : Prop := ∃ g : Hd, v = e.at_ g ∧ Em u 0 u.heap.size e g
def BlF (B : Nat) (l : List Nat) (v : Value) (u : World) : Prop := ∃ (b : Nat) (fz : Nat × Nat), v = .slice (some ⟨b, 0, none⟩) l.length l.length ∧ B ≤ b ∧ u.heap[b]? = some (.cells (bv l).toArray 5 fz)
def OneF (e : Ent) (v : Value) (u : World) : Prop := ∃ (g : Hd) (b : Nat), v = .slice (some ⟨b, 0, none⟩) 1 1 ∧ u.heap[b]? = some (.cells (ecells (e, g)).toArray 37 (0, 0)) ∧ Em u 0 u.heap.size e g
theorem Fr.Mono.lit (B : Nat) (e : Ent) : Fr.Mono (MarkR B) (LitF e) := fun _ _ _ ⟨g, h, m⟩ hu => ⟨g, h, (mark_em hu m).wide (Nat.le_refl _) hu.2.2.2.1⟩
theorem Fr.Mono.bl (C B : Nat) (l : List Nat) : Fr.Mono (MarkR C) (BlF B l) := fun _ u u' ⟨b, fz, h, hB, hb⟩ hu => by
  rcases hu.2.2.2.2 b (Array.getElem?_eq_some_iff.1 hb).1 with h' | ⟨_, x, f, f', hx, hx'⟩
  · exact ⟨b, fz, h, hB, h'.trans hb⟩
  · rw [hb] at hx
    injection hx with hx
    injection hx with q1 _ _
    subst q1
    exact ⟨b, f', h, hB, hx'⟩
theorem Fr.Mono.one (B : Nat) (e : Ent) : Fr.Mono (MarkR B) (OneF e) := fun _ _ _ ⟨g, b, h, hb, m⟩ hu => ⟨g, b, h, mark_heap hu hb (.inr fun _ _ e => by injection e with _ e _; exact absurd e (by decide)), (mark_em hu m).wide (Nat.le_refl _) hu.2.2.2.1⟩


theorem mark_es {B lo hi : Nat} {u u' : World} {A : Option Addr} {L : List (Ent × Hd)} (h : (MarkR B).r u u') (hE : Es u lo hi A L) : Es u' lo hi A L := by
  refine ⟨?_, fun p hp => mark_em h (hE.each p hp)⟩
  rcases hE.outer with h0 | ⟨b, o, e, h1, h2, h3⟩
  · exact .inl h0
  · exact .inr ⟨b, o, e, h1, h2, fun i x hx => mark_cell h (h3 i x hx)⟩
/-- What From answers, under marks. -/
def FromF (L : List Ent) (v : Value) (u : World) : Prop := ∃ (bd : Nat) (X : Option Addr) (c : Nat) (S : List (Ent × Hd)), v = .func (.func 32) #[] #[.pointer (some ⟨bd, 0, none⟩)] ∧ Boxed u bd 24 (.slice X S.length c) ∧ Es u 0 u.heap.size X S ∧ S.length ≤ 1024 ∧ (∀ p ∈ S, InE p.1) ∧ S.map Prod.fst = L
theorem Fr.Mono.from_ (B : Nat) (L : List Ent) : Fr.Mono (MarkR B) (FromF L) := fun _ _ _ ⟨bd, X, c, S, h, hb, hE, hl, hin, he⟩ hu =>
  ⟨bd, X, c, S, h, mark_heap hu hb (.inr fun _ _ e => by injection e with _ e _; exact absurd e (by decide)), (mark_es hu hE).wide (Nat.le_refl _) hu.2.2.2.1, hl, hin, he⟩
theorem knum (n : Int) (w : World) : Calls Try.prog 11 #[.int .i64 n] w fun e w' => e = .returned (.int .i64 n) ∧ w = w' := by
  go_enter Try.func11, Try.ntmps11
  go_wp2
  go_ret
  exact ⟨rfl, rfl⟩
set_option maxHeartbeats 2000000 in
theorem kdel_any (k : List Nat) (s : Int) (hk : ∀ x ∈ k, x < 256) (hkl : k.length ≤ 1000) (h1 : -9223372036854775808 ≤ s) (h2 : s ≤ 9223372036854775807) (w : World) :
    Calls Try.prog 19 #[.string (tx k), .int .i64 s] w (LitAns w ⟨k, s, 2, []⟩) := by
  obtain ⟨w1, hw1⟩ : ∃ w1, w1 = w.alloc (.cells #[.slice none 0 0, .int .i64 0, .int .i64 0, .slice none 0 0] 37) := ⟨_, rfl⟩
  have HX : Hid (Ext w w1) := by rw [hw1]; exact ext_alloc _ _
  have HBX : Hid (w1.heap[w.heap.size]? = some (.cells #[.slice none 0 0, .int .i64 0, .int .i64 0, .slice none 0 0] 37 (0, 0))) := by rw [hw1]; exact heap_at _ _ rfl
  have HZ : Hid (w1.heap.size = w.heap.size + 1) := by rw [hw1]; simp [Hid]
  obtain ⟨A2, c2, w2, e2, x2, b2⟩ := conv_new w1 k hk hkl
  have hb := ext_heap x2 HBX.out
  have q0 := cell_of hb (k := 0) rfl
  have q1 := cell_of hb (k := 1) rfl
  have q2 := cell_of hb (k := 2) rfl
  have q3 := cell_of hb (k := 3) rfl
  have z0 := frozen_four hb (j := 0)
  have z1 := frozen_four hb (j := 1)
  have z2 := frozen_four hb (j := 2)
  have z3 := frozen_four hb (j := 3)
  have HB := Lib.hid hb
  have HK := Lib.hid b2
  have HX3 : Hid (Ext w w2) := Ext.trans HX.out x2
  have HBY := Lib.hid hk
  have HS := Lib.hid (And.intro h1 h2)
  clear x2 b2 hb hk hkl h1 h2
  go_enter Try.func19, Try.ntmps19
  rw [hw1] at e2
  go_wp2_with fail
  refine entry_ret1 (p := 4) (by kernel_rfl) rfl rfl (set_four HB.out) ?_
  have far : ∀ {l : List Nat} {v : Value} {u : World} {p : Addr} {x : Value}, p.block < w1.heap.size → Bs u w1.heap.size w2.heap.size v l → Bs (u.setCell p x) w1.heap.size w2.heap.size v l := fun hp h => h.setCell (.inl hp) _
  have hlt : w.heap.size < w1.heap.size := by rw [HZ.out]; omega
  refine ⟨Below.setCell (Below.setCell (Below.setCell (Below.setCell HX3.out (Nat.le_refl _) _) (Nat.le_refl _) _) (Nat.le_refl _) _) (Nat.le_refl _) _, ⟨A2, c2, none, 0⟩, rfl, ⟨?_, Bs.nil _ _ _, HBY.out, by simp, HS.out.1, HS.out.2, (by show (-9223372036854775808 : Int) ≤ _; dsimp only; omega), (by dsimp only; omega)⟩⟩
  exact (far hlt (far hlt (far hlt (far hlt HK.out)))).wide HX.out.size (by simp [World.setCell])
theorem lit_any {e : Ent} {k : List Nat} {kb : ByteArray} {s : Int} (he : e = ⟨k, s, 2, []⟩) (hkb : kb = tx k) (hk : ∀ x ∈ k, x < 256) (hkl : k.length ≤ 1000) (h1 : 0 ≤ s) (h2 : s ≤ 9000) (w : World) :
    Calls Try.prog 19 #[.string kb, .int .i64 s] w (LitAns w e) := by
  subst he hkb
  exact kdel_any k s hk hkl (by omega) (by omega) w
theorem two_es {u : World} {b : Nat} {e e' : Ent} {g g' : Hd} (h : u.heap[b]? = some (.cells (ecells (e, g) ++ ecells (e', g')).toArray 37 (0, 0))) (hm : Em u 0 u.heap.size e g) (hm' : Em u 0 u.heap.size e' g') : Es u 0 u.heap.size (some ⟨b, 0, none⟩) [(e, g), (e', g')] := by
  refine ⟨.inr ⟨b, 0, rfl, Nat.zero_le _, (Array.getElem?_eq_some_iff.1 h).1, fun i x hx => ?_⟩, fun p hp => ?_⟩
  · rw [Nat.zero_add]
    exact cell_of h (by simpa [erow] using hx)
  · simp only [List.mem_cons, List.not_mem_nil, or_false] at hp
    rcases hp with rfl | rfl
    · exact hm
    · exact hm'

def kAB : Ent := ⟨[97, 98], 5, 2, []⟩
def kAC : Ent := ⟨[97, 99], 3, 2, []⟩
def kOB : Ent := ⟨[98], 1, 2, []⟩
def kOA : Ent := ⟨[97], 1, 2, []⟩
def kBy : List Nat := [0, 2, 97, 98, 5, 2, 1, 1, 99, 3, 2, 0, 0, 0, 0, 0, 0, 0, 1]
theorem kmay : MayB [kAB, kAC] := by
  refine ⟨by decide, by decide, fun j a b ha hb => ?_, by decide⟩
  rcases j with _ | _ | j
  · simp at ha hb; subst ha hb; decide
  · simp at hb
  · simp at hb
theorem kno : ¬ MayB [kOB, kOA] := fun h => by
  have := h.2.2.1 0 kOB kOA rfl rfl
  exact absurd this (by decide)
theorem kwr : wr [kAB, kAC] = kBy := by
  simp [wr, upto, pieceOf, kform, ahOf, ats, be4, kAB, kAC, kBy, shr, bytesForm, form_lo, List.range, List.range.loop, List.flatMap_cons, List.filter]
theorem kis : IsB kBy [kAB, kAC] := ⟨kmay, kwr⟩
theorem kwrite1 {w : World} {A : Option Addr} {g g' : Hd} (h : Es w 0 w.heap.size A [(kAB, g), (kAC, g')]) : Calls Try.prog 12 #[.slice A 2 2] w fun x w' => Ext w w' ∧ ∃ B c, x = .returned (.tuple #[.slice B 19 c, .int .i64 0]) ∧ Own w.heap.size kBy (.slice B 19 c) w' := by
  refine (write_any (c := 2) h (Nat.le_refl _) (Nat.le_refl _) (by simp)).mono ?_
  rintro x w' ⟨hx, (⟨_, B, c, rfl, ho⟩ | ⟨hno, _⟩)⟩
  · have e : (wr (List.map Prod.fst [(kAB, g), (kAC, g')])) = kBy := kwr
    rw [e] at ho ⊢
    exact ⟨hx, B, c, rfl, ho⟩
  · exact absurd kmay hno
theorem kwrite2 {w : World} {A : Option Addr} {g g' : Hd} (h : Es w 0 w.heap.size A [(kOB, g), (kOA, g')]) : Calls Try.prog 12 #[.slice A 2 2] w fun x w' => Ext w w' ∧ x = .returned (.tuple #[.slice none 0 0, .int .i64 2]) := by
  refine (write_any (c := 2) h (Nat.le_refl _) (Nat.le_refl _) (by simp)).mono ?_
  rintro x w' ⟨hx, (⟨hm, _⟩ | ⟨_, rfl⟩)⟩
  · exact absurd hm kno
  · exact ⟨hx, rfl⟩
theorem kwrite0 (w : World) : Calls Try.prog 12 #[.slice none 0 0] w fun x w' => Ext w w' ∧ x = .returned (.tuple #[.slice none 0 0, .int .i64 2]) := by
  refine (write_any (L := []) (lo := 0) (hi := 0) (c := 0) ⟨Sl.nil _ _ _ _, fun p hp => by cases hp⟩ (Nat.zero_le _) (Nat.le_refl _) (by simp)).mono ?_
  rintro x w' ⟨hx, (⟨hm, _⟩ | ⟨_, rfl⟩)⟩
  · exact absurd hm.1 (by simp)
  · exact ⟨hx, rfl⟩
theorem kread_no {w : World} {lo hi : Nat} {v : Value} {b : List Nat} (hv : Bs w lo hi v b) (hhi : hi ≤ w.heap.size) (hb : ∀ x ∈ b, x < 256) (hl : b.length ≤ 1000000000) (hno : ∀ L, ¬ IsB b L) : Calls Try.prog 7 #[v] w fun x w' => Ext w w' ∧ x = .returned (.tuple #[.slice none 0 0, .int .i64 4]) := by
  refine (bread_any hv hhi hb hl).mono ?_
  rintro x w' ⟨hx, (⟨R, _, _, his, _⟩ | ⟨_, rfl⟩)⟩
  · exact absurd his (hno _)
  · exact ⟨hx, rfl⟩
theorem kno0 (L : List Ent) : ¬ IsB [] L := fun h => by have := h.last.1; simp at this
theorem kno4 (L : List Ent) : ¬ IsB [0, 0, 0, 0] L := fun h => by
  obtain ⟨_, _, h3, _⟩ := h.last
  have h1 := h.1.1
  have e : num4 (List.drop (([0, 0, 0, 0] : List Nat).length - 4) [0, 0, 0, 0]) = 0 := rfl
  rw [e] at h3
  omega
theorem kget1 {w w' : World} {x : Ending} (h : BGetAns w kBy [97, 99] 9 x w') : Ext w w' ∧ ∃ g : Hd, x = .returned (.tuple #[kAC.at_ g, .int .i64 0]) ∧ Em w' 0 w'.heap.size kAC g := by
  obtain ⟨hx, (⟨hno, _⟩ | ⟨L, hL, hm⟩)⟩ := h
  · exact absurd kis (hno _)
  · obtain rfl := hL.unique kis
    have e : [kAB, kAC].find? (seenE [97, 99] 9) = some kAC := rfl
    rw [e] at hm
    exact ⟨hx, hm⟩
theorem kget2 {w w' : World} {x : Ending} (h : BGetAns w kBy [97, 99] 2 x w') : Ext w w' ∧ x = .returned (.tuple #[noE, .int .i64 6]) := by
  obtain ⟨hx, (⟨hno, _⟩ | ⟨L, hL, hm⟩)⟩ := h
  · exact absurd kis (hno _)
  · obtain rfl := hL.unique kis
    have e : [kAB, kAC].find? (seenE [97, 99] 2) = none := rfl
    rw [e] at hm
    exact ⟨hx, hm⟩
theorem kfrom {w w' : World} {x : Ending} (h : FromAns w kBy [97, 98, 0] x w') : ∃ v, x = .returned v ∧ Ext w w' ∧ FromF [kAC] v w' := by
  obtain ⟨hx, bd, X, c, S, rfl, hb, hE, hl, hin, (⟨L, hL, hs⟩ | ⟨hno, _⟩)⟩ := h
  · obtain rfl := hL.unique kis
    exact ⟨_, rfl, hx, bd, X, c, S, rfl, hb, hE, hl, hin, hs.trans rfl⟩
  · exact absurd kis (hno _)
end Go.Proofs.Ytddfelahpiokjaa
