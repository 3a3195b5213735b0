import Derived.Test.YtkdidghfcfcpfaaGreatMc16
import Derived.Test.YtkdidghfcfcpfaaGreatMc6
import Derived.Test.YtkdidghfcfcpfaaGreatMc14
import Derived.Test.YtkdidghfcfcpfaaGreatMc4
import Derived.Test.YtkdidghfcfcpfaaGreatMc2
import Derived.Test.YtkdidghfcfcpfaaGreatMc3
import Derived.Lib.SlBytesConst
import Derived.Lib.SmallJoins
import Derived.BigRegion
import Derived.Test.YtkdidghfcfcpfaaGreatMc0
namespace Go.Proofs.YtkdidghfcfcpfaaGreat
open Go.ChangeShapes Go.WideShapes Go.ChangeAt Go.RowKit
def BGetAns (w : World) (b key : List Nat) (s : Int) (x : Ending) (w' : World) : Prop :=
 Ext w w' ∧ ((∀ L, ¬ IsB b L) ∧ x = .returned (.tuple #[noE, .int .i64 4]) ∨ ∃ L, IsB b L ∧ match L.find? (seenE key s) with
  | some e => ∃ g : Hd, x = .returned (.tuple #[e.at_ g, .int .i64 0]) ∧ Em w' 0 w'.heap.size e g
  | none => x = .returned (.tuple #[noE, .int .i64 6]))
theorem cut_find {L : List Ent} {key : List Nat} {s : Int} {n : Nat} (hr : Rise L) (h : Cut L ⟨key, s, 0, []⟩ n) : L.find? (seenE key s) = if h : n < L.length then (if L[n].key = key then some L[n] else none) else none := by
 have hahead : ∀ j a, j < n → L[j]? = some a → seenE key s a = false := fun j a hj ha => by
  have h1 := h.lo j a hj ha
  unfold seenE
  rw [Bool.and_eq_false_iff]
  by_cases hk : a.key = key
  · right
    rw [decide_eq_false_iff_not]
    intro hs
    unfold cmpE at h1
    rw [if_pos (by rw [hk]; exact cmpK_self _)] at h1
    unfold cmpS at h1
    dsimp only at h1
    split at h1
    · omega
    · split at h1 <;> omega
  · left; exact decide_eq_false hk
 have hsplit : L.find? (seenE key s) = (L.drop n).find? (seenE key s) := by
  conv => lhs; rw [← List.take_append_drop n L]
  rw [List.find?_append]
  have : (L.take n).find? (seenE key s) = none := by
   rw [List.find?_eq_none]
   intro a ha
   obtain ⟨j, hj, rfl⟩ := List.getElem_of_mem ha
   rw [List.length_take] at hj
   rw [List.getElem_take, hahead j _ (by omega) (List.getElem?_eq_getElem (by omega))]
   decide
  rw [this]; rfl
 rw [hsplit]
 split
 · rename_i hn
   rw [List.drop_eq_getElem_cons hn, List.find?_cons]
   have h1 := h.hi n L[n] (zNr _) (List.getElem?_eq_getElem hn)
   by_cases hk : L[n].key = key
   · rw [if_pos hk]
     have : seenE key s L[n] = true := by
      unfold seenE
      rw [Bool.and_eq_true, decide_eq_true_eq, decide_eq_true_eq]
      refine ⟨hk, ?_⟩
      unfold cmpE at h1
      rw [if_pos (by rw [hk]; exact cmpK_self _)] at h1
      unfold cmpS at h1
      dsimp only at h1
      split at h1
      · omega
      · split at h1 <;> omega
     rw [this]
   · rw [if_neg hk]
     have h0 : seenE key s L[n] = false := by
      unfold seenE
      rw [Bool.and_eq_false_iff]; left; exact decide_eq_false hk
     rw [h0]
     show (L.drop (n + 1)).find? (seenE key s) = none
     rw [List.find?_eq_none]
     intro a ha hs
     obtain ⟨j, hj, rfl⟩ := List.getElem_of_mem ha
     rw [List.length_drop] at hj
     rw [List.getElem_drop] at hs
     have h2 := rise_at hr (show n < n + 1 + j by omega) (List.getElem?_eq_getElem hn) (List.getElem?_eq_getElem (show n + 1 + j < L.length by omega))
     unfold seenE at hs
     rw [Bool.and_eq_true, decide_eq_true_eq] at hs
     unfold cmpE at h1 h2
     dsimp only at h1
     rw [hs.1] at h2
     split at h1
     · rename_i h3; exact hk (cmpK_zero h3)
     · rename_i h3
       rw [if_neg h3] at h2
       omega
 · rename_i hn
   rw [List.drop_eq_nil_of_le (by omega)]; rfl
theorem chg_four (g : Nat) (w1 : World) (a b c d : Value) : Chg (fun i => i = g) w1 ((((w1.setCell ⟨g, 0, none⟩ a).setCell ⟨g, 1, none⟩ b).setCell ⟨g, 2, none⟩ c).setCell ⟨g, 3, none⟩ d) :=
 (((Chg.setCell (S := fun i => i = g) w1 ⟨g, 0, none⟩ a rfl).trans (Chg.setCell _ ⟨g, 1, none⟩ b rfl)).trans (Chg.setCell _ ⟨g, 2, none⟩ c rfl)).trans (Chg.setCell _ ⟨g, 3, none⟩ d rfl)
theorem get_four {w w1 : World} (h : Ext w w1) (a b c d : Value) : Ext w ((((w1.setCell ⟨w.heap.size, 0, none⟩ a).setCell ⟨w.heap.size, 1, none⟩ b).setCell ⟨w.heap.size, 2, none⟩ c).setCell ⟨w.heap.size, 3, none⟩ d) :=
 Below.trans h ((((Chg.setCell (S := fun i => i = w.heap.size) w1 ⟨w.heap.size, 0, none⟩ a rfl).trans (Chg.setCell _ ⟨w.heap.size, 1, none⟩ b rfl)).trans (Chg.setCell _ ⟨w.heap.size, 2, none⟩ c rfl)).trans (Chg.setCell _ ⟨w.heap.size, 3, none⟩ d rfl) |>.below (fun i e => by omega) h.size)
set_option maxRecDepth 100000 in
set_option maxHeartbeats 8000000 in
theorem bget_any {w : World} {lo hi lo2 hi2 kc : Nat} {v : Value} {kA : Option Addr} {b key : List Nat} {s : Int} (hv : Bs w lo hi v b) (hhi : hi ≤ w.heap.size) (hb : ∀ x ∈ b, x < 256) (hl : b.length ≤ 1000000000) (hk : Bs w lo2 hi2 (.slice kA key.length kc) key) (hhi2 : hi2 ≤ w.heap.size) (bk : ∀ x ∈ key, x < 256) (hs1 : -9223372036854775808 ≤ s) (hs2 : s ≤ 9223372036854775807) :
    Calls Tryz.prog 52 #[v, .slice kA key.length kc, .int .i64 s] w (BGetAns w b key s) := by
 obtain ⟨w1, hw1⟩ : ∃ w1, w1 = w.alloc (.cells #[.slice none 0 0, .int .i64 0, .int .i64 0, .slice none 0 0] 50) := ⟨_, rfl⟩
 have HX1 : Hid (Ext w w1) := by rw [hw1]; exact ext_alloc _ _
 have HB1 : Hid (w1.heap[w.heap.size]? = some (.cells #[.slice none 0 0, .int .i64 0, .int .i64 0, .slice none 0 0] 50 (0, 0))) := by rw [hw1]; exact heap_at _ _ rfl
 have HZ1 : Hid (w1.heap.size = w.heap.size + 1) := by rw [hw1]; simp [Hid]
 have HR := zHd (bread_any (hv.below HX1.out hhi) (zNt hhi HX1.out.size) hb hl)
 have HK := zHd hk
 have HH := zHd hhi2
 have HBK := zHd bk
 have HS := zHd (And.intro hs1 hs2)
 obtain ⟨A, c, rfl, _, _, _, _⟩ := hv
 clear hhi hb hl hk hhi2 bk hs1 hs2
 go_enter Tryz.func52, Tryz.ntmps52
 go_wp2_with fail
 rw [← hw1]
 clear hw1
 refine HR.out.mono ?_
 rintro x w2 ⟨hx2, (⟨R, X, cR, his, rfl, hgot⟩ | ⟨hno, rfl⟩)⟩
 rotate_left
 · have HX2 := zHd (zEt HX1.out hx2)
   have HB2 : Hid (w2.heap[w.heap.size]? = some (.cells #[.slice none 0 0, .int .i64 0, .int .i64 0, .slice none 0 0] 50 (0, 0))) := ext_heap hx2 HB1.out
   have HNO := zHd hno
   clear hx2 hno
   have c0 := cell_of HB2.out (k := 0) rfl
   have c1 := cell_of HB2.out (k := 1) rfl
   have c2 := cell_of HB2.out (k := 2) rfl
   have c3 := cell_of HB2.out (k := 3) rfl
   have z0 := frozen_four (j := 0) HB2.out
   have z1 := frozen_four (j := 1) HB2.out
   have z2 := frozen_four (j := 2) HB2.out
   have z3 := frozen_four (j := 3) HB2.out
   go_wp2_with fail
   refine entry_ret2 rfl rfl rfl rfl (set_four HB2.out) ?_
   exact ⟨get_four HX2.out _ _ _ _, .inl ⟨HNO.out, rfl⟩⟩
 have HX2 := zHd (zEt HX1.out hx2)
 have HX12 := zHd hx2
 have HB2 : Hid (w2.heap[w.heap.size]? = some (.cells #[.slice none 0 0, .int .i64 0, .int .i64 0, .slice none 0 0] 50 (0, 0))) := ext_heap hx2 HB1.out
 have HIS := zHd his
 have HG := zHd hgot
 have HRL : Hid (1 ≤ R.length ∧ R.length ≤ 1024) := by have h1 := his.1.1; have h2 := his.1.2.1; rw [List.length_map] at h1 h2; exact ⟨h1, h2⟩
 have HFI := zHd (first_any (c := cR) (x := ⟨key, s, 0, []⟩) (g := ⟨kA, kc, none, 0⟩) (lo2 := 0) (hi2 := w2.heap.size) hgot.rs (zNr _) HRL.out.2 his.1.2.2.1 ⟨(HK.out.below (zEt HX1.out hx2) HH.out).wide (Nat.zero_le _) (zNt HH.out (zEt HX1.out hx2).size), Bs.nil _ _ _, HBK.out, by simp, HS.out.1, HS.out.2, (by show (-9223372036854775808 : Int) ≤ 0; decide), (by show (0 : Int) ≤ 9223372036854775807; decide)⟩ (zNr _))
 clear hx2 his hgot
 go_wp2_with fail
 refine HFI.out.mono ?_
 rintro x w3 ⟨n, hcut, rfl, hx3⟩
 have HX3 := zHd (zEt HX2.out hx3)
 have HX23 := zHd hx3
 have HB3 : Hid (w3.heap[w.heap.size]? = some (.cells #[.slice none 0 0, .int .i64 0, .int .i64 0, .slice none 0 0] 50 (0, 0))) := ext_heap hx3 HB2.out
 have HG3 := zHd (HG.out.below hx3)
 have HF := zHd (cut_find HIS.out.1.2.2.1 hcut)
 have hnle := hcut.le
 rw [List.length_map] at hnle
 have c0 := cell_of HB3.out (k := 0) rfl
 have c1 := cell_of HB3.out (k := 1) rfl
 have c2 := cell_of HB3.out (k := 2) rfl
 have c3 := cell_of HB3.out (k := 3) rfl
 have z0 := frozen_four (j := 0) HB3.out
 have z1 := frozen_four (j := 1) HB3.out
 have z2 := frozen_four (j := 2) HB3.out
 have z3 := frozen_four (j := 3) HB3.out
 clear hx3 hcut
 by_cases hn : n = R.length
 · have d : ((n : Int) == (R.length : Int)) = true := by rw [beq_iff_eq, hn]
   have dn : (n == R.length) = true := by rw [beq_iff_eq, hn]
   have HN := zHd hn
   clear hn hnle
   go_wp2_with fail
   refine entry_ret2 rfl rfl rfl rfl (set_four HB3.out) ?_
   refine ⟨get_four HX3.out _ _ _ _, .inr ⟨_, HIS.out, ?_⟩⟩
   have h1 := HF.out
   rw [dif_neg (by rw [List.length_map]; have := HN.out; omega)] at h1
   rw [h1]
   rfl
 · have d : ((n : Int) == (R.length : Int)) = false := by rw [beq_eq_false_iff_ne]; omega
   have dn : (n == R.length) = false := by rw [beq_eq_false_iff_ne]; exact hn
   have hlt : n < R.length := by omega
   obtain ⟨p, hp⟩ : ∃ p, R[n]? = some p := ⟨_, List.getElem?_eq_getElem hlt⟩
   have HP := zHd hp
   have HLT := zHd hlt
   obtain ⟨bb, oo, rfl⟩ := HG3.out.rs.base (by omega)
   obtain ⟨p0, p1, p2, p3⟩ := HG3.out.rs.get hp
   have n1 : (0 : Int) ≤ (n : Int) := Int.natCast_nonneg _
   have n2 : (n : Int) < (R.length : Int) := Int.ofNat_lt.2 hlt
   have HKC := zHd (keys_any (HG3.out.rs.each p (List.mem_of_getElem? hp)).k (HK.out.below HX3.out HH.out) (HG3.out.rs.each p (List.mem_of_getElem? hp)).bk HBK.out)
   have HFP : Hid ((R.map Prod.fst).find? (seenE key s) = if p.1.key = key then some p.1 else none) := by
    have h1 := HF.out
    rw [dif_pos (by rw [List.length_map]; exact hlt)] at h1
    have h2 : (R.map Prod.fst)[n]'(by rw [List.length_map]; exact hlt) = p.1 := by rw [List.getElem_map]; rw [List.getElem?_eq_getElem hlt] at hp; injection hp with hp; rw [hp]
    rw [h2] at h1
    exact h1
   clear hn hnle hlt hp
   go_wp2_with fail
   refine HKC.out.mono ?_
   rintro x w4 ⟨rfl, rfl⟩
   by_cases hk : p.1.key = key
   · have dk : (cmpK p.1.key key != 0) = false := by rw [hk, cmpK_self]; rfl
     have HKE := zHd hk
     clear hk
     go_wp2_with fail
     refine entry_ret2 rfl rfl rfl rfl (set_four HB3.out) ?_
     refine ⟨get_four HX3.out _ _ _ _, .inr ⟨_, HIS.out, ?_⟩⟩
     rw [HFP.out, if_pos HKE.out]
     refine ⟨p.2, rfl, ?_⟩
     have hm := HG3.out.each p (List.mem_of_getElem? HP.out)
     exact (hm.chg (chg_four _ _ _ _ _ _) (fun k hk e => by have := HZ1.out; omega)).em
   · have dk : (cmpK p.1.key key != 0) = true := by rw [bne_iff_ne]; exact fun h => hk (cmpK_zero h)
     have HKE := zHd hk
     clear hk
     go_wp2_with fail
     refine entry_ret2 rfl rfl rfl rfl (set_four HB3.out) ?_
     refine ⟨get_four HX3.out _ _ _ _, .inr ⟨_, HIS.out, ?_⟩⟩
     rw [HFP.out, if_neg HKE.out]
     rfl
end Go.Proofs.YtkdidghfcfcpfaaGreat
namespace Go.Proofs.YtkdidghfcfcpfaaGreat
open Go.ChangeShapes Go.WideShapes Go.ChangeAt Go.RowKit Go.Shelf
theorem bcut_is {L : List Ent} {key : List Nat} {n : Nat} (hm : ∀ e ∈ L, e.seq ≤ 2147483647) (h : Cut L ⟨key, 2147483647, 0, []⟩ n) : n = cutOf (belowK key) L := by
 have h1 : ∀ e ∈ L, (cmpE e ⟨key, 2147483647, 0, []⟩ < 0 ↔ belowK key e = true) := fun e he => by
  have hs := hm e he
  unfold cmpE belowK
  rw [decide_eq_true_eq]
  split
  · rename_i h0
    unfold cmpS
    dsimp only at h0 ⊢
    rw [if_neg (by omega)]
    split <;> omega
  · exact Iff.rfl
 unfold cutOf
 have e1 : L = L.take n ++ L.drop n := (List.take_append_drop n L).symm
 have h2 : ∀ a ∈ L.take n, belowK key a = true := fun a ha => by
  obtain ⟨j, hj, rfl⟩ := List.getElem_of_mem ha
  rw [List.length_take] at hj
  rw [List.getElem_take]
  exact (h1 _ (List.getElem_mem _)).1 (h.lo j _ (by omega) (List.getElem?_eq_getElem (by omega)))
 have h3 : (L.drop n).takeWhile (belowK key) = [] := by
  rcases Nat.lt_or_ge n L.length with hn | hn
  · rw [List.drop_eq_getElem_cons hn, List.takeWhile_cons]
    have h4 := h.hi n _ (zNr _) (List.getElem?_eq_getElem hn)
    have h5 : ¬ belowK key L[n] = true := fun hb => by have := (h1 _ (List.getElem_mem _)).2 hb; omega
    rw [if_neg h5]
  · rw [List.drop_eq_nil_of_le hn]; rfl
 conv => rhs; rw [e1]
 rw [List.takeWhile_append_of_pos h2, h3, List.append_nil, List.length_take]
 have := h.le
 omega
theorem ReadBAns.all {w w' : World} {b : List Nat} {x : Ending} (h : ReadBAns w b x w') : Ext w w' ∧ ∃ (R : List (Ent × Hd)) (A : Option Addr) (c : Nat) (k : Int), x = .returned (.tuple #[.slice A R.length c, .int .i64 k]) ∧ Got w.heap.size (.slice A R.length c) R w' ∧ R.length ≤ 1024 ∧ Rise (R.map Prod.fst) ∧ (∀ p ∈ R, InE p.1) ∧ (IsB b (R.map Prod.fst) ∨ ((∀ L, ¬ IsB b L) ∧ R = [])) := by
 obtain ⟨hx, (⟨R, A, c, his, rfl, hg⟩ | ⟨hno, rfl⟩)⟩ := h
 · refine ⟨hx, R, A, c, 0, rfl, hg, ?_, his.1.2.2.1, fun p hp => ⟨(hg.each p hp).good.bk, (hg.each p hp).good.bv, his.1.2.2.2 _ (List.mem_map_of_mem hp)⟩, .inl his⟩
   have := his.1.2.1; rw [List.length_map] at this; exact this
 · exact ⟨hx, [], none, 0, 4, rfl, Got.nil _ _, by simp, fun j a b h => by simp at h, fun p hp => (by cases hp), .inr ⟨hno, rfl⟩⟩
def CutV (L : List Ent) (key : List Nat) (v : Value) (_ : World) : Prop := ∃ n : Nat, Cut L ⟨key, 2147483647, 0, []⟩ n ∧ v = .int .i64 (n : Int)
theorem CutV.mono (L : List Ent) (key : List Nat) : Mono (CutV L key) := fun _ _ _ h _ => h
def CutS (L : List Ent) (key : List Nat) (X : Option Addr) (m c : Nat) (v : Value) (_ : World) : Prop := ∃ n : Nat, Cut L ⟨key, 2147483647, 0, []⟩ n ∧ v = .slice (if c = n then X else X.map (·.add (n * 4))) (m - n) (c - n)
theorem CutS.mono (L : List Ent) (key : List Nat) (X : Option Addr) (m c : Nat) : Mono (CutS L key X m c) := fun _ _ _ h _ => h
end Go.Proofs.YtkdidghfcfcpfaaGreat
namespace Go.Proofs.YtkdidghfcfcpfaaGreat
open Go.ChangeShapes Go.WideShapes Go.ChangeAt Go.RowKit Go.Shelf
attribute [local go_sem] Oper.semAt_some
theorem enters_from1 : ∀ args w, (callFunc 82 args).run Tryz.prog w = .ok (.enter 82 args) w := enters_of Tryz.func82 (by kernel_rfl) rfl
def rowV (x : Ent × Hd) : Array Value := #[x.1.at_ x.2]
end Go.Proofs.YtkdidghfcfcpfaaGreat
namespace Go.Proofs.YtkdidghfcfcpfaaGreat
open Go.ChangeShapes Go.WideShapes Go.ChangeAt Go.RowKit Go.Shelf
attribute [local go_sem] Oper.semAt_some
end Go.Proofs.YtkdidghfcfcpfaaGreat
namespace Go.Proofs.YtkdidghfcfcpfaaGreat.Fr
open Go.RowKit
structure Rel where
 r : World → World → Prop
 refl : ∀ w, r w w
 trans : ∀ {a b c}, r a b → r b c → r a c
def Mono (R : Rel) (p : Value → World → Prop) : Prop := ∀ v u u', p v u → R.r u u' → p v u'
theorem Mono.is {R : Rel} (c : Value) : Mono R (Is c) := fun _ _ _ h _ => h
theorem fact_mono {R : Rel} {φ : List (Value → World → Prop)} (h : ∀ p ∈ φ, Mono R p) (j : Nat) {v : Value} {u u' : World} (hf : fact φ j v u) (hu : R.r u u') : fact φ j v u' := by
 unfold fact at *
 by_cases hj : j < φ.length
 · have e : φ.getD j (fun _ _ => True) = φ[j] := by simp [List.getD, List.getElem?_eq_getElem hj]
   rw [e] at hf ⊢
   exact h _ (List.getElem_mem hj) _ _ _ hf hu
 · have e : φ.getD j (fun _ _ => True) = fun _ _ => True := by simp [List.getD, List.getElem?_eq_none (Nat.le_of_not_lt hj)]
   rw [e]; trivial
def Obls (R : Rel) (P : Program) (ops : Array Oper) (φ : List (Value → World → Prop)) (w0 : World) (f : Nat → Value) : Nat → List Oper → Act → Prop
 | _, [], _ => True
 | k, o :: rest, a => (∀ u, R.r w0 u → (∀ j, aft o j = true → fact φ j (f j) u) →
     if Region.wanted o (yielded ops a.tmps) = true then GivesR P ((execOp a.eval o).run P u) (fun v u' => R.r u u' ∧ fact φ k (kept o v) u') else fact φ k undef u) ∧ Obls R P ops φ w0 f (k + 1) rest (a.put o.dst (f k))
theorem Obls.at {R : Rel} {P : Program} {ops : Array Oper} {φ : List (Value → World → Prop)} {w0 : World} {f : Nat → Value} : ∀ (l : List Oper) (k : Nat) (a : Act), Obls R P ops φ w0 f k l a → ∀ (i : Nat) (o : Oper), l[i]? = some o →
    ∀ u, R.r w0 u → (∀ j, aft o j = true → fact φ j (f j) u) →
     if Region.wanted o (yielded ops (puts f k (l.take i) a).tmps) = true then GivesR P ((execOp (puts f k (l.take i) a).eval o).run P u) (fun v u' => R.r u u' ∧ fact φ (k + i) (kept o v) u') else fact φ (k + i) undef u := by
 intro l
 induction l with
 | nil => intro k a _ i o h; simp at h
 | cons o l ih =>
  intro k a h i oi hi
  cases i with
  | zero => simp at hi; subst hi; exact h.1
  | succ i =>
   have := ih (k + 1) _ h.2 i oi (by simpa using hi)
   simp only [List.take_succ_cons, puts]
   rw [show k + (i + 1) = k + 1 + i by omega]
   exact this
structure Inv (R : Rel) (ops : Array Oper) (φ : List (Value → World → Prop)) (a0 : Act) (w0 : World) (seen : Array Bool) (a : Act) (u : World) : Prop where
 ext : R.r w0 u
 size : seen.size = ops.size
 defs : a.defers = a0.defers
 tsz : a.tmps.size = a0.tmps.size
 old : ∀ s, (∀ (j : Nat) (oj : Oper), ops[j]? = some oj → seen.getD j false = true → oj.dst ≠ some s) → a.tmps[s]? = a0.tmps[s]?
 facts : ∀ (j : Nat) (oj : Oper), ops[j]? = some oj → seen.getD j false = true → fact φ j (slot a oj) u
 closed : ∀ (j : Nat) (oj : Oper), ops[j]? = some oj → seen.getD j false = true → ∀ k, aft oj k = true → seen.getD k false = true
section
variable {P : Program} {ops : Array Oper} {Q : Exit → Act → World → Prop} {φ : List (Value → World → Prop)} {a0 : Act} {w0 : World} {R : Rel}
theorem look_same {seen : Array Bool} {a : Act} {u : World} (hok : flowOk ops a0.tmps.size = true) (hI : Inv R ops φ a0 w0 seen a u) {i : Nat} {oi : Oper} (hi : ops[i]? = some oi) (hn : seen.getD i false = false)
    {t : Nat} (ht : t ∈ oi.looksAt ops) : a.tmps[t]? = (puts (held ops a) 0 (ops.toList.take i) a0).tmps[t]? := by
 by_cases hsz : t < a0.tmps.size
 · have hlen : i < ops.toList.length := by simpa using (zAg.1 hi).1
   have conv : ∀ (j : Nat) (o : Oper), (ops.toList.take i)[j]? = some o → j < i ∧ ops[j]? = some o := fun j o h => by
    rw [List.getElem?_take] at h
    split at h
    · rename_i hj; exact ⟨hj, by rw [← Array.getElem?_toList]; exact h⟩
    · cases h
   have huniq : ∀ (x y : Nat) (ox oy : Oper), (ops.toList.take i)[x]? = some ox → (ops.toList.take i)[y]? = some oy → ox.dst = some t → oy.dst = some t → x = y := fun x y ox oy hx hy h1 h2 => by
    rcases Nat.decEq x y with hne | he
    · exact absurd h1 (((flowOk_at hok (conv x ox hx).2).2.2.2 y oy t (conv y oy hy).2 h2).1 (fun e => hne e.symm))
    · exact he
   obtain ⟨h1, h2⟩ := puts_get (held ops a) (ops.toList.take i) 0 a0 t hsz huniq
   by_cases hex : ∃ (j : Nat) (oj : Oper), (ops.toList.take i)[j]? = some oj ∧ oj.dst = some t
   · obtain ⟨j, oj, hj, hd⟩ := hex
     rw [h2 j oj hj hd, Nat.zero_add]
     have hj' := (conv j oj hj).2
     have hlt := (conv j oj hj).1
     simp only [held, hj', slot, hd]
     have hts : t < a.tmps.size := by rw [hI.tsz]; exact hsz
     simp [Array.getD, hts]
   · have hex' : ∀ (j : Nat) (o : Oper), (ops.toList.take i)[j]? = some o → o.dst ≠ some t := fun j o hj hd => hex ⟨j, o, hj, hd⟩
     rw [h1 hex']
     refine hI.old t fun j oj hj hsj hd => ?_
     rcases ((flowOk_at hok hi).2.2.2 j oj t hj hd).2 ht with h | h
     · have hlt := aft_lt hok hi h
       refine hex' j oj ?_ hd
       rw [List.getElem?_take, if_pos hlt, Array.getElem?_toList]; exact hj
     · have := hI.closed j oj hj hsj i h
       rw [hn] at this; cases this
 · have e1 : a.tmps[t]? = none := Array.getElem?_eq_none (by rw [hI.tsz]; omega)
   have e2 : (puts (held ops a) 0 (ops.toList.take i) a0).tmps[t]? = none := Array.getElem?_eq_none (by rw [puts_size]; omega)
   rw [e1, e2]
theorem Inv.next {seen : Array Bool} {a : Act} {u u' : World} (hok : flowOk ops a0.tmps.size = true) (hmono : ∀ p ∈ φ, Mono R p) (hI : Inv R ops φ a0 w0 seen a u) {i : Nat} {oi : Oper} (hi : ops[i]? = some oi)
    (hs : ∀ k, aft oi k = true → seen.getD k false = true) {v : Value} (hu : R.r u u') (hf : fact φ i (kept oi v) u') : Inv R ops φ a0 w0 (seen.setIfInBounds i true) (a.put oi.dst v) u' := by
 refine ⟨R.trans hI.ext hu, by simp [hI.size], by rw [put_defers']; exact hI.defs, by rw [put_size]; exact hI.tsz, fun s h => ?_, fun j oj hj hsj => ?_, fun j oj hj hsj k hk => ?_⟩
 · have hlt : i < seen.size := by rw [hI.size]; exact (zAg.1 hi).1
   have hne : oi.dst ≠ some s := h i oi hi (by rw [set_getD, if_pos ⟨rfl, hlt⟩])
   rw [put_get, if_neg (fun h => hne h.1)]
   refine hI.old s fun j oj hj hsj => h j oj hj ?_
   rw [set_getD]
   split
   · rfl
   · exact hsj
 · rw [set_getD] at hsj
   by_cases hij : i = j
   · subst hij
     rw [hi] at hj
     injection hj with hj
     subst hj
     have e : slot (a.put oi.dst v) oi = kept oi v := by
      unfold slot kept
      cases hd : oi.dst with
      | none => rfl
      | some d =>
       have hds := (flowOk_at hok hi).2.2.1 d hd
       have hd2 : d < a.tmps.size := by rw [hI.tsz]; exact hds
       simp [Act.put, Array.getD, hd2]
     rw [e]; exact hf
   · rw [if_neg (fun h => hij h.1)] at hsj
     have e : slot (a.put oi.dst v) oj = slot a oj := by
      unfold slot
      cases hd : oj.dst with
      | none => rfl
      | some d =>
       have hne := ((flowOk_at hok hi).2.2.2 j oj d hj hd).1 (fun e => hij e.symm)
       have := put_get a oi.dst v d
       rw [if_neg (fun h => hne h.1)] at this
       show (a.put oi.dst v).tmps.getD d undef = a.tmps.getD d undef
       rw [Array.getD_eq_getD_getElem?, this, ← Array.getD_eq_getD_getElem?]
     rw [e]
     exact fact_mono hmono j (hI.facts j oj hj hsj) hu
 · rw [set_getD] at hsj ⊢
   split
   · rfl
   · rename_i hk2
     by_cases hij : i = j
     · subst hij
       rw [hi] at hj
       injection hj with hj
       subst hj
       exact hs k hk
     · rw [if_neg (fun h => hij h.1)] at hsj
       exact hI.closed j oj hj hsj k hk
theorem flow_step {seen : Array Bool} {a : Act} {u : World} {m : Nat} (hok : flowOk ops a0.tmps.size = true) (hsel : Region.noSelect ops = true) (hmono : ∀ p ∈ φ, Mono R p) (hobl : ∀ f, Obls R P ops φ w0 f 0 (ops.toList.take m) a0)
    (hI : Inv R ops φ a0 w0 seen a u) {i : Nat} (him : i < m) (hr : i ∈ Region.ready .any ops seen) : wpOp P ops Q i (fun b u' => Inv R ops φ a0 w0 (seen.setIfInBounds i true) b u') a u := by
 obtain ⟨hun, oi, hi, hall⟩ := mem_ready.1 hr
 have hlt : i < ops.size := (zAg.1 hi).1
 have hn : seen.getD i false = false := by rw [← getD_both seen (by rw [hI.size]; exact hlt)]; simpa using hun
 have hs : ∀ k, aft oi k = true → seen.getD k false = true := fun k hk => by
  unfold aft at hk
  obtain ⟨e, he, hb⟩ := Array.any_eq_true'.1 hk
  simp only [Bool.and_eq_true, beq_iff_eq] at hb
  rw [← hb.2]
  exact hall e he hb.1
 have hlook := fun {t : Nat} (ht : t ∈ oi.looksAt ops) => look_same hok hI hi hn ht
 have hfacts : ∀ j, aft oi j = true → fact φ j (held ops a j) u := fun j hj => by
  have hjl := aft_lt hok hi hj
  have hoj : ops[j]? = some ops[j] := Array.getElem?_eq_getElem (by omega)
  have := hI.facts j _ hoj (hs j hj)
  simp only [held, hoj]
  exact this
 have hO := Obls.at (ops.toList.take m) 0 a0 (hobl (held ops a)) i oi (by rw [List.getElem?_take, if_pos him, Array.getElem?_toList]; exact hi) u hI.ext hfacts
 rw [Nat.zero_add, List.take_take, Nat.min_eq_left (Nat.le_of_lt him)] at hO
 have hex : execOp (puts (held ops a) 0 (ops.toList.take i) a0).eval oi = execOp a.eval oi := by
  refine execOp_congr oi (fun cs b => Region.noSelect_spec hsel i oi cs b hi) fun x hx => ?_
  cases x with
  | tmp t =>
   have ht : t ∈ oi.looksAt ops := by
    unfold Oper.looksAt
    refine List.mem_append_left _ (List.mem_filterMap.2 ⟨.tmp t, by simpa using hx, rfl⟩)
   show Array.getD _ t undef = Array.getD _ t undef
   rw [Array.getD_eq_getD_getElem?, Array.getD_eq_getD_getElem?, hlook ht]
  | _ => rfl
 have hwt : Region.wanted oi (yielded ops (puts (held ops a) 0 (ops.toList.take i) a0).tmps) = Region.wanted oi (yielded ops a.tmps) := by
  unfold Region.wanted
  cases hg : oi.guard with
  | none => rfl
  | some gb =>
   obtain ⟨g, b⟩ := gb
   have e : yielded ops (puts (held ops a) 0 (ops.toList.take i) a0).tmps g = yielded ops a.tmps g := by
    unfold yielded
    cases hd : (ops[g]?).bind (·.dst) with
    | none => rfl
    | some d =>
     have ht : d ∈ oi.looksAt ops := by
      unfold Oper.looksAt
      rw [hg]
      refine List.mem_append_right _ ?_
      simp only [hd]
      simp
     show (match (puts (held ops a) 0 (ops.toList.take i) a0).tmps[d]? with | some (Value.bool b) => some b | _ => none) = _
     rw [← hlook ht]
     rfl
   simp only [e]
 rw [hex, hwt] at hO
 unfold wpOp
 simp only [hi]
 split
 · rename_i hw
   rw [if_pos hw] at hO
   exact .inl (gives_wp hO fun v u' h => hI.next hok hmono hi hs h.1 h.2)
 · rename_i hw
   rw [if_neg hw] at hO
   refine hI.next hok hmono hi hs (R.refl u) ?_
   have : kept oi undef = undef := by unfold kept; cases oi.dst <;> rfl
   rw [this]; exact hO
theorem all_seen {seen : Array Bool} {a : Act} {u : World} (hok : flowOk ops a0.tmps.size = true) (hI : Inv R ops φ a0 w0 seen a u) (hr : Region.ready .any ops seen = []) : ∀ i, i < ops.size → seen.getD i false = true := by
 intro i
 induction i using Nat.strongRecOn with
 | ind i ih =>
  intro hlt
  rcases h : seen.getD i false with _ | _
  · have hi : ops[i]? = some ops[i] := Array.getElem?_eq_getElem hlt
    have : i ∈ Region.ready .any ops seen := mem_ready.2 ⟨by rw [getD_both seen (by rw [hI.size]; exact hlt)]; exact h, ops[i], hi, fun e he hb => by
     have := (flowOk_at hok hi).1 e he hb
     exact ih e.on this (by omega)⟩
    rw [hr] at this; cases this
  · rfl
theorem act_is {seen : Array Bool} {a : Act} {u : World} (hok : flowOk ops a0.tmps.size = true) (hI : Inv R ops φ a0 w0 seen a u) : a = puts (held ops a) 0 ops.toList a0 := by
 have hd : a.defers = (puts (held ops a) 0 ops.toList a0).defers := by rw [puts_defers]; exact hI.defs
 have ht : a.tmps = (puts (held ops a) 0 ops.toList a0).tmps := by
  apply Array.ext_getElem?
  intro t
  by_cases hsz : t < a0.tmps.size
  · have conv : ∀ (j : Nat) (o : Oper), ops.toList[j]? = some o → ops[j]? = some o := fun j o h => by rw [← Array.getElem?_toList]; exact h
    have huniq : ∀ (x y : Nat) (ox oy : Oper), ops.toList[x]? = some ox → ops.toList[y]? = some oy → ox.dst = some t → oy.dst = some t → x = y := fun x y ox oy hx hy h1 h2 => by
     rcases Nat.decEq x y with hne | he
     · exact absurd h1 (((flowOk_at hok (conv x ox hx)).2.2.2 y oy t (conv y oy hy) h2).1 (fun e => hne e.symm))
     · exact he
    obtain ⟨h1, h2⟩ := puts_get (held ops a) ops.toList 0 a0 t hsz huniq
    by_cases hex : ∃ (j : Nat) (oj : Oper), ops.toList[j]? = some oj ∧ oj.dst = some t
    · obtain ⟨j, oj, hj, hd⟩ := hex
      rw [h2 j oj hj hd, Nat.zero_add]
      simp only [held, conv j oj hj, slot, hd]
      have hts : t < a.tmps.size := by rw [hI.tsz]; exact hsz
      simp [Array.getD, hts]
    · have hex' : ∀ (j : Nat) (o : Oper), ops.toList[j]? = some o → o.dst ≠ some t := fun j o hj hd => hex ⟨j, o, hj, hd⟩
      rw [h1 hex']
      exact hI.old t fun j oj hj _ => hex' j oj (by rw [Array.getElem?_toList]; exact hj)
  · rw [Array.getElem?_eq_none (by rw [hI.tsz]; omega), Array.getElem?_eq_none (by rw [puts_size]; omega)]
 have ext : ∀ x y : Act, x.tmps = y.tmps → x.defers = y.defers → x = y := by rintro ⟨_, _⟩ ⟨_, _⟩ rfl rfl; rfl
 exact ext _ _ ht hd
theorem flow_any (hok : flowOk ops a0.tmps.size = true) (hsel : Region.noSelect ops = true) (hmono : ∀ p ∈ φ, Mono R p) (hobl : ∀ f, Obls R P ops φ w0 f 0 ops.toList a0)
    (hfin : ∀ (g : Nat → Value) u, R.r w0 u → (∀ j, j < ops.size → fact φ j (g j) u) → Q .normal (puts g 0 ops.toList a0) u) :
    ∀ (n : Nat) (seen : Array Bool) (a : Act) (u : World), Inv R ops φ a0 w0 seen a u → left ops seen = n → wpAny P .any ops Q n seen a u := by
 have done : ∀ (seen : Array Bool) (a : Act) (u : World), Inv R ops φ a0 w0 seen a u → (∀ i, i < ops.size → seen.getD i false = true) → Q .normal a u := fun seen a u hI hall => by
  rw [act_is hok hI]
  refine hfin _ _ hI.ext fun j hj => ?_
  have hoj : ops[j]? = some ops[j] := Array.getElem?_eq_getElem hj
  simp only [held, hoj]
  exact hI.facts j _ hoj (hall j hj)
 intro n
 induction n with
 | zero =>
  intro seen a u hI hl
  have hall : ∀ i, i < ops.size → seen.getD i false = true := fun i hi => by
   have := List.countP_eq_zero.1 hl i (List.mem_range.2 hi)
   simpa using this
  refine ⟨?_, done seen a u hI hall⟩
  refine List.eq_nil_iff_forall_not_mem.2 fun i hi => ?_
  obtain ⟨hun, oi, hio, _⟩ := mem_ready.1 hi
  have hlt := (zAg.1 hio).1
  rw [getD_both seen (by rw [hI.size]; exact hlt), hall i hlt] at hun
  cases hun
 | succ n ih =>
  intro seen a u hI hl
  refine ⟨fun hr => done seen a u hI (all_seen hok hI hr), fun i hi => ?_⟩
  refine wpOp_mono (fun b u' hb => ih _ b u' hb ?_) (flow_step (m := ops.size) hok hsel hmono (fun f => by rw [List.take_of_length_le (by simp)]; exact hobl f) hI (zAg.1 (mem_ready.1 hi).2.choose_spec.1).1 hi)
  obtain ⟨hun, oi, hio, _⟩ := mem_ready.1 hi
  have hlt := (zAg.1 hio).1
  rw [getD_both seen (by rw [hI.size]; exact hlt)] at hun
  have := left_next hI.size hlt hun
  omega
theorem flow {id : Nat} {w : World} (hm : P.follows .mixedOrders = true) (φ : List (Value → World → Prop)) (hok : flowOk ops a0.tmps.size = true) (hsel : Region.noSelect ops = true) (hmono : ∀ p ∈ φ, Mono R p)
    (hobl : ∀ f, Obls R P ops φ w.drew f 0 ops.toList a0)
    (hfin : ∀ (g : Nat → Value) u, R.r w.drew u → (∀ j, j < ops.size → fact φ j (g j) u) → Q .normal (puts g 0 ops.toList a0) u) : (Code.region id ops true).wp P Q a0 w := by
 refine wp_region_any hm (flow_any hok hsel hmono hobl hfin _ _ _ _ ⟨R.refl _, by simp, rfl, rfl, fun _ _ => rfl, fun j oj hj hs => ?_, fun j oj hj hs => ?_⟩ ?_)
 · have hlt := (zAg.1 hj).1
   simp [Array.getD, hlt] at hs
 · have hlt := (zAg.1 hj).1
   simp [Array.getD, hlt] at hs
 · unfold left
   rw [List.countP_eq_length.2]
   · simp
   · intro i hi
     have hlt := List.mem_range.1 hi
     simp [Array.getD, hlt]
end
end Go.Proofs.YtkdidghfcfcpfaaGreat.Fr
namespace Go.Proofs.YtkdidghfcfcpfaaGreat
open Go.ChangeShapes Go.WideShapes Go.ChangeAt Go.RowKit Go.Lib Go.Joins
theorem freeze_chg (w : World) (g k : Nat) : Chg (fun i => i = g) w (w.freeze ⟨g, k, none⟩ 1) := by
 unfold World.freeze
 rw [if_neg (by decide)]
 exact ⟨rfl, rfl, rfl, by simp, fun i _ hne => by simp [Array.getElem?_modify, Ne.symm hne]⟩
theorem freeze_at {w : World} {g k : Nat} {C : Array Value} {t : TypeId} {fz : Nat × Nat} (h : w.heap[g]? = some (.cells C t fz)) : ∃ fz', (w.freeze ⟨g, k, none⟩ 1).heap[g]? = some (.cells C t fz') := by
 unfold World.freeze
 rw [if_neg (by decide)]
 exact ⟨_, by simp [Array.getElem?_modify, h]; rfl⟩
theorem conv_const {w : World} {g n c : Nat} {C : Array Value} {fz : Nat × Nat} (h : w.heap[g]? = some (.cells C 5 fz)) :
    (convert 22 22 (.slice (some ⟨g, 0, none⟩) n c)).run Tryz.prog w = .ok (.slice (some ⟨g, 0, none⟩) n c) (w.freeze ⟨g, C.size, none⟩ 1) := by
 have hsh : w.shape? g = some (5, C.size) := by unfold World.shape?; rw [h]
 simp [convert, run_underlying Tryz.underlying22, run_underlying Tryz.underlying5, markStringish, hsh]
def MarkR (B : Nat) : Fr.Rel where
 r u u' := u'.os = u.os ∧ u'.tape = u.tape ∧ u'.output = u.output ∧ u.heap.size ≤ u'.heap.size ∧ ∀ k, k < u.heap.size → u'.heap[k]? = u.heap[k]? ∨ (B ≤ k ∧ ∃ c fz fz', u.heap[k]? = some (.cells c 5 fz) ∧ u'.heap[k]? = some (.cells c 5 fz'))
 refl w := ⟨rfl, rfl, rfl, zNr _, fun _ _ => .inl rfl⟩
 trans := by
  rintro a b c ⟨h1, h2, h3, h4, h5⟩ ⟨k1, k2, k3, k4, k5⟩
  refine ⟨k1.trans h1, k2.trans h2, k3.trans h3, zNt h4 k4, fun k hk => ?_⟩
  rcases h5 k hk with h | ⟨hB, x, f, f', hx, hx'⟩
  · rcases k5 k (Nat.lt_of_lt_of_le hk h4) with h' | ⟨hB, x, f, f', hx, hx'⟩
    · exact .inl (h'.trans h)
    · exact .inr ⟨hB, x, f, f', h ▸ hx, hx'⟩
  · rcases k5 k (Nat.lt_of_lt_of_le hk h4) with h' | ⟨_, y, e, e', hy, hy'⟩
    · exact .inr ⟨hB, x, f, f', hx, h'.trans hx'⟩
    · rw [hx'] at hy
      injection hy with hy
      injection hy with q1 _ _
      subst q1
      exact .inr ⟨hB, x, f, e', hx, hy'⟩
section
variable {B : Nat} {u u' : World}
theorem mark_ext (h : Ext u u') : (MarkR B).r u u' := ⟨h.os, h.tape, h.output, h.size, fun k hk => .inl (h.block k hk)⟩
theorem mark_freeze {g k : Nat} {C : Array Value} {fz : Nat × Nat} (hg : u.heap[g]? = some (.cells C 5 fz)) (hB : B ≤ g) : (MarkR B).r u (u.freeze ⟨g, k, none⟩ 1) := by
 have hc := freeze_chg u g k
 refine ⟨hc.os, hc.tape, hc.output, hc.size, fun i hi => ?_⟩
 by_cases h : i = g
 · subst h
   obtain ⟨fz', h'⟩ := freeze_at (k := k) hg
   exact .inr ⟨hB, C, fz, fz', hg, h'⟩
 · exact .inl (hc.block i hi h)
theorem mark_heap {o : Obj} {k : Nat} (h : (MarkR B).r u u') (hk : u.heap[k]? = some o) (hn : k < B ∨ ∀ c fz, o ≠ .cells c 5 fz) : u'.heap[k]? = some o := by
 rcases h.2.2.2.2 k (zAg.1 hk).1 with h' | ⟨hB, x, f, f', hx, hx'⟩
 · exact h'.trans hk
 · rcases hn with hn | hn
   · omega
   · rw [hk] at hx; injection hx with hx; exact absurd hx (hn _ _)
theorem mark_cell {p : Addr} {v : Value} (h : (MarkR B).r u u') (hc : u.cell? p = some v) : u'.cell? p = some v := by
 rcases h.2.2.2.2 p.block (World.block_lt_of_cell? _ _ hc) with h' | ⟨hB, x, f, f', hx, hx'⟩
 · exact (World.cell?_of_block h').trans hc
 · unfold World.cell? at hc ⊢
   rw [hx] at hc
   rw [hx']
   exact hc
theorem mark_chg (h : (MarkR B).r u u') : Chg (fun i => B ≤ i) u u' := ⟨h.1, h.2.1, h.2.2.1, h.2.2.2.1, fun k hk hn => by
 rcases h.2.2.2.2 k hk with h' | ⟨hB, _⟩
 · exact h'
 · exact absurd hB hn⟩
theorem mark_bs {lo hi : Nat} {v : Value} {l : List Nat} (h : (MarkR B).r u u') (hb : Bs u lo hi v l) : Bs u' lo hi v l := by
 obtain ⟨A, c, e, h1, h2, h3, h4⟩ := hb
 refine ⟨A, c, e, h1, h2, h3, ?_⟩
 rcases h4 with h4 | ⟨b, o, e, h5, h6, h7⟩
 · exact .inl h4
 · exact .inr ⟨b, o, e, h5, h6, fun i x hx => mark_cell h (h7 i x hx)⟩
theorem mark_em {lo hi : Nat} {e : Ent} {g : Hd} (h : (MarkR B).r u u') (m : Em u lo hi e g) : Em u' lo hi e g := ⟨mark_bs h m.k, mark_bs h m.v, m.bk, m.bv, m.s1, m.s2, m.d1, m.d2⟩
end
theorem bs_mark (w : World) (l : List Nat) (hl : l.length ≤ 100) (fr : Nat × Nat) : Bs (w.alloc (.cells (bv l).toArray 5 fr)) w.heap.size (w.heap.size + 1) (.slice (some ⟨w.heap.size, 0, none⟩) l.length l.length) l := by
 refine ⟨_, _, rfl, zNr _, by simp [maxLen]; omega, (fun h => by cases h), .inr ⟨w.heap.size, 0, rfl, zNr _, Nat.lt_succ_self _, fun i u hu => ?_⟩⟩
 rw [cell_alloc_mark_at _ _ _ _ _ _ rfl, Nat.zero_add]
 simpa using hu
theorem bl_bs {u : World} {b : Nat} {l : List Nat} {fz : Nat × Nat} (hl : l.length ≤ 100) (h : u.heap[b]? = some (.cells (bv l).toArray 5 fz)) : Bs u 0 u.heap.size (.slice (some ⟨b, 0, none⟩) l.length l.length) l := by
 refine ⟨_, _, rfl, zNr _, by simp [maxLen]; omega, (fun h => by cases h), .inr ⟨b, 0, rfl, Nat.zero_le _, (zAg.1 h).1, fun i x hx => ?_⟩⟩
 rw [Nat.zero_add]
 unfold World.cell?
 rw [h]
 simpa using hx
def LitF (e : Ent) (v : Value) (u : World) : Prop := ∃ g : Hd, v = e.at_ g ∧ Em u 0 u.heap.size e g
def BlF (B : Nat) (l : List Nat) (v : Value) (u : World) : Prop := ∃ (b : Nat) (fz : Nat × Nat), v = .slice (some ⟨b, 0, none⟩) l.length l.length ∧ B ≤ b ∧ u.heap[b]? = some (.cells (bv l).toArray 5 fz)
theorem Fr.Mono.lit (B : Nat) (e : Ent) : Fr.Mono (MarkR B) (LitF e) := fun _ _ _ ⟨g, h, m⟩ hu => ⟨g, h, (mark_em hu m).wide (zNr _) hu.2.2.2.1⟩
theorem Fr.Mono.bl (C B : Nat) (l : List Nat) : Fr.Mono (MarkR C) (BlF B l) := fun _ u u' ⟨b, fz, h, hB, hb⟩ hu => by
 rcases hu.2.2.2.2 b (zAg.1 hb).1 with h' | ⟨_, x, f, f', hx, hx'⟩
 · exact ⟨b, fz, h, hB, h'.trans hb⟩
 · rw [hb] at hx
   injection hx with hx
   injection hx with q1 _ _
   subst q1
   exact ⟨b, f', h, hB, hx'⟩
theorem two_es {u : World} {b : Nat} {e e' : Ent} {g g' : Hd} (h : u.heap[b]? = some (.cells (ecells (e, g) ++ ecells (e', g')).toArray 50 (0, 0))) (hm : Em u 0 u.heap.size e g) (hm' : Em u 0 u.heap.size e' g') : Es u 0 u.heap.size (some ⟨b, 0, none⟩) [(e, g), (e', g')] := by
 refine ⟨.inr ⟨b, 0, rfl, Nat.zero_le _, (zAg.1 h).1, fun i x hx => ?_⟩, fun p hp => ?_⟩
 · rw [Nat.zero_add]
   exact cell_of h (by simpa [erow] using hx)
 · simp only [List.mem_cons, List.not_mem_nil, or_false] at hp
   rcases hp with rfl | rfl
   · exact hm
   · exact hm'
end Go.Proofs.YtkdidghfcfcpfaaGreat
namespace Go.Proofs.YtkdidghfcfcpfaaGreat
open Go.ChangeShapes Go.WideShapes Go.ChangeAt Go.RowKit
def lastE (p : Pl) : Ent := ⟨p.key, (p.n : Int), 0, []⟩
def lastH (g : PHd) : Hd := ⟨g.1, g.2, none, 0⟩
theorem last_em {w : World} {lo hi : Nat} {p : Pl × PHd} (h : PEm w lo hi p) (hb : ∀ x ∈ p.1.key, x < 256) (hn : p.1.n ≤ 2147483647) : Em w lo hi (lastE p.1) (lastH p.2) :=
 ⟨h, Bs.nil _ _ _, hb, fun x hx => (by cases hx), by show _ ≤ (p.1.n : Int); omega, by show (p.1.n : Int) ≤ _; omega, by show _ ≤ (0 : Int); omega, by show (0 : Int) ≤ _; omega⟩
theorem enters_first1 : ∀ args w, (callFunc 78 args).run Tryz.prog w = .ok (.enter 78 args) w := enters_of Tryz.func78 (by kernel_rfl) rfl
set_option maxHeartbeats 1000000 in
theorem tfirst1_any {w : World} {lo hi lo2 hi2 : Nat} {p : Pl × PHd} {x : Ent} {g : Hd} (h : PEm w lo hi p) (hb : ∀ x ∈ p.1.key, x < 256) (hn : p.1.n ≤ 2147483647) (hhi : hi ≤ w.heap.size) (hx : Em w lo2 hi2 x g) (hhi2 : hi2 ≤ w.heap.size) :
    Calls Tryz.prog 78 #[.agg #[.slice p.2.1 p.1.key.length p.2.2, .int .i64 (p.1.n : Int), .int .i64 0, .slice none 0 0, .int .i64 (p.1.b : Int), .int .i64 (p.1.z : Int)], .agg #[.slice g.kA x.key.length g.kc, .int .i64 x.seq, .int .i64 x.kind, .slice g.vA x.val.length g.vc]] w fun y w' => y = .returned (.int .i64 (cmpE (lastE p.1) x)) ∧ Ext w w' := by
 obtain ⟨w1, hw1⟩ : ∃ w1, w1 = (w.alloc (.cells #[.slice p.2.1 p.1.key.length p.2.2, .int .i64 (p.1.n : Int), .int .i64 0, .slice none 0 0, .int .i64 (p.1.b : Int), .int .i64 (p.1.z : Int)] 90)).alloc (.cells #[.slice g.kA x.key.length g.kc, .int .i64 x.seq, .int .i64 x.kind, .slice g.vA x.val.length g.vc] 50) := ⟨_, rfl⟩
 have HX1 : Hid (Ext w w1) := by rw [hw1]; exact zEt (ext_alloc _ _) (ext_alloc _ _)
 have HB1 : Hid (w1.heap[w.heap.size]? = some (.cells #[.slice p.2.1 p.1.key.length p.2.2, .int .i64 (p.1.n : Int), .int .i64 0, .slice none 0 0, .int .i64 (p.1.b : Int), .int .i64 (p.1.z : Int)] 90 (0, 0))) := by rw [hw1]; exact ext_heap (ext_alloc _ _) (heap_at _ _ rfl)
 have HB2 : Hid (w1.heap[w.heap.size + 1]? = some (.cells #[.slice g.kA x.key.length g.kc, .int .i64 x.seq, .int .i64 x.kind, .slice g.vA x.val.length g.vc] 50 (0, 0))) := by rw [hw1]; exact heap_at _ _ (by simp)
 have HC := zHd (compare_any ((last_em h hb hn).below HX1.out hhi) (hx.below HX1.out hhi2) (zNt hhi HX1.out.size) (zNt hhi2 HX1.out.size))
 have c0 := cell_of HB1.out (k := 0) rfl
 have c1 := cell_of HB1.out (k := 1) rfl
 have c2 := cell_of HB1.out (k := 2) rfl
 have c3 := cell_of HB1.out (k := 3) rfl
 have e0 := cell_of HB2.out (k := 0) rfl
 have e1 := cell_of HB2.out (k := 1) rfl
 have e2 := cell_of HB2.out (k := 2) rfl
 have e3 := cell_of HB2.out (k := 3) rfl
 obtain ⟨z, hz⟩ : ∃ z, z = cmpE (lastE p.1) x := ⟨_, rfl⟩
 rw [← hz] at HC ⊢
 unfold Ent.at_ at HC
 have HC2 : Hid (Calls Tryz.prog 79 #[.agg #[.slice p.2.1 p.1.key.length p.2.2, .int .i64 (p.1.n : Int), .int .i64 0, .slice none 0 0], .agg #[.slice g.kA x.key.length g.kc, .int .i64 x.seq, .int .i64 x.kind, .slice g.vA x.val.length g.vc]] w1 fun e w' => e = .returned (.int .i64 z) ∧ Ext w1 w') := HC.out
 clear HC hz h hb hn hhi hx hhi2
 go_enter Tryz.func78, Tryz.ntmps78
 go_upto_region 1 with (fail)
 rw [← hw1]
 clear hw1
 go_wp2_with fail
 refine HC2.out.mono ?_
 rintro y w2 ⟨rfl, hx2⟩
 have HX2 := zHd (zEt HX1.out hx2)
 clear hx2
 go_wp2_with fail
 go_ret
 exact ⟨rfl, HX2.out⟩
set_option maxRecDepth 100000 in
set_option maxHeartbeats 8000000 in
theorem search_any {w : World} {lo hi lo2 hi2 c : Nat} {A : Option Addr} {L : List (Pl × PHd)} {x : Ent} {g : Hd} (h : Ps w lo hi A L) (hhi : hi ≤ w.heap.size) (hn : L.length ≤ 4096) (hr : Rise (L.map fun p => lastE p.1)) (hg : ∀ p ∈ L, (∀ y ∈ p.1.key, y < 256) ∧ p.1.n ≤ 2147483647) (hx : Em w lo2 hi2 x g) (hhi2 : hi2 ≤ w.heap.size) :
    Calls Tryz.prog 77 #[.slice A L.length c, .agg #[.slice g.kA x.key.length g.kc, .int .i64 x.seq, .int .i64 x.kind, .slice g.vA x.val.length g.vc], .func (.func 78) #[] #[]] w fun e w' => ∃ (n : Nat) (y : Bool), Cut (L.map fun p => lastE p.1) x n ∧ e = .returned (.tuple #[.int .i64 (n : Int), .bool y]) ∧ Ext w w' := by
 obtain ⟨w1, hw1⟩ : ∃ w1, w1 = w.alloc (.cells #[.slice g.kA x.key.length g.kc, .int .i64 x.seq, .int .i64 x.kind, .slice g.vA x.val.length g.vc] 50) := ⟨_, rfl⟩
 have HX1 : Hid (Ext w w1) := by rw [hw1]; exact ext_alloc _ _
 have HB1 : Hid (w1.heap[w.heap.size]? = some (.cells #[.slice g.kA x.key.length g.kc, .int .i64 x.seq, .int .i64 x.kind, .slice g.vA x.val.length g.vc] 50 (0, 0))) := by rw [hw1]; exact heap_at _ _ rfl
 have HE := zHd (h.below HX1.out hhi)
 have HM := zHd (hx.below HX1.out hhi2)
 have HH : Hid (hi ≤ w1.heap.size ∧ hi2 ≤ w1.heap.size) := ⟨zNt hhi HX1.out.size, zNt hhi2 HX1.out.size⟩
 have HR := zHd hr
 have HN := zHd hn
 have HG := zHd hg
 have hen := enters_first1
 clear h hhi hn hr hx hhi2 hg
 go_enter Tryz.func77, Tryz.ntmps77
 go_upto_region 1 with (fail)
 rw [← hw1]
 clear hw1
 go_wp2_with fail
 go_loopw [9, 10, 11] (fun a b _ wr => ∃ l k : Nat, l ≤ k ∧ k ≤ L.length ∧ a = .int .i64 (l : Int) ∧ b = .int .i64 (k : Int) ∧ Hid (∀ j y, j < l → (L.map fun p => lastE p.1)[j]? = some y → cmpE y x < 0) ∧ Hid (∀ j y, k ≤ j → (L.map fun p => lastE p.1)[j]? = some y → 0 ≤ cmpE y x) ∧ Hid (Ext w1 wr))
  (fun a b _ _ => (intOf b).toNat - (intOf a).toNat)
 case atStart => exact ⟨0, L.length, Nat.zero_le _, zNr _, rfl, rfl, fun j y h => absurd h (Nat.not_lt_zero _), fun j y h hy => by have := (zLg.1 hy).1; rw [List.length_map] at this; omega, Ext.refl _⟩
 case round =>
  obtain ⟨l, k, hlk, hkn, rfl, rfl, HLO, HHI, HX⟩ := hrel
  by_cases hlt : l < k
  · have d : decide ((l : Int) < (k : Int)) = true := by rw [decide_eq_true_eq]; exact Int.ofNat_lt.2 hlt
    have dn : decide (l < k) = true := by rw [decide_eq_true_eq]; exact hlt
    obtain ⟨m, hm⟩ : ∃ m, m = (l + k) / 2 := ⟨_, rfl⟩
    have HMM : Hid (l ≤ m ∧ m < k ∧ k ≤ L.length ∧ L.length ≤ 4096) := by have := HN.out; unfold Hid; omega
    have hs1 := wrap_sum (l := l) (h := k) (by have := HN.out; omega)
    have hm2 : wrap64 (IntKind.u64.wrap ((l : Int) + (k : Int)) / 2) = (m : Int) := by
     have e : IntKind.u64.wrap ((l : Int) + (k : Int)) = ((l + k : Nat) : Int) := by rw [IntKind.wrap_u64]; have := HMM.out; omega
     have := HMM.out
     rw [e, hm]; unfold wrap64; omega
    have hml : m < L.length := by have := HMM.out; omega
    obtain ⟨p, hp⟩ : ∃ p, L[m]? = some p := ⟨_, List.getElem?_eq_getElem hml⟩
    have HP := zHd hp
    obtain ⟨bb, oo, rfl⟩ := HE.out.base (by omega)
    have HEr := zHd (HE.out.below HX.out HH.out.1)
    obtain ⟨c0, c1, c2, c3, c4, c5⟩ := HEr.out.get hp
    have HBr : Hid (wr.heap[w.heap.size]? = some (.cells #[.slice g.kA x.key.length g.kc, .int .i64 x.seq, .int .i64 x.kind, .slice g.vA x.val.length g.vc] 50 (0, 0))) := ext_heap HX.out HB1.out
    have e0 := cell_of HBr.out (k := 0) rfl
    have e1 := cell_of HBr.out (k := 1) rfl
    have e2 := cell_of HBr.out (k := 2) rfl
    have e3 := cell_of HBr.out (k := 3) rfl
    have n1 : (0 : Int) ≤ (m : Int) := Int.natCast_nonneg _
    have n2 : (m : Int) < (L.length : Int) := Int.ofNat_lt.2 hml
    have HCK : Hid (∀ u, Ext wr u → Calls Tryz.prog 78 #[.agg #[.slice p.2.1 p.1.key.length p.2.2, .int .i64 (p.1.n : Int), .int .i64 0, .slice none 0 0, .int .i64 (p.1.b : Int), .int .i64 (p.1.z : Int)], .agg #[.slice g.kA x.key.length g.kc, .int .i64 x.seq, .int .i64 x.kind, .slice g.vA x.val.length g.vc]] u fun y w' => y = .returned (.int .i64 (cmpE (lastE p.1) x)) ∧ Ext u w') := fun u hu => by
     have hz := HX.out.size
     have hgp := HG.out p (List.mem_of_getElem? HP.out)
     exact tfirst1_any ((HEr.out.each p (List.mem_of_getElem? HP.out)).below hu (zNt HH.out.1 hz)) hgp.1 hgp.2 (zNt HH.out.1 (zNt hz hu.size)) (HM.out.below (zEt HX.out hu) HH.out.2) (zNt HH.out.2 (zNt hz hu.size))
    obtain ⟨z, hz⟩ : ∃ z, z = cmpE (lastE p.1) x := ⟨_, rfl⟩
    have HZ := zHd hz
    rw [← hz] at HCK
    have HPM : Hid ((L.map fun p => lastE p.1)[m]? = some (lastE p.1)) := by rw [List.getElem?_map, HP.out]; exact rfl
    clear hlt hp hml hm hlk hkn hz
    by_cases hneg : z < 0
    · have dz : decide (z < 0) = true := decide_eq_true hneg
      have HNG := zHd hneg
      clear hneg
      go_upto_region 5 with (fail)
      rw [hm2]
      refine flow (by kernel_rfl) [Is (.func (.func 78) #[] #[]), Is (.slice (some ⟨bb, oo, none⟩) L.length c), Is (.int .i64 (m : Int)), Is (.pointer (some ⟨bb, oo + m * 6, none⟩)), Is (.agg #[.slice p.2.1 p.1.key.length p.2.2, .int .i64 (p.1.n : Int), .int .i64 0, .slice none 0 0, .int .i64 (p.1.b : Int), .int .i64 (p.1.z : Int)]), Is (.agg #[.slice g.kA x.key.length g.kc, .int .i64 x.seq, .int .i64 x.kind, .slice g.vA x.val.length g.vc]), Is (.int .i64 z), Is (.bool true)] (by kernel_rfl) (by kernel_rfl) ?mono (fun f1 => ?obl) ?fin
      case mono =>
       simp only [List.forall_mem_cons, List.not_mem_nil, false_imp_iff, implies_true, and_true]
       and_intros <;> exact .is _
      case fin =>
       intro g1 u hu hg
       simp only [puts, Act.put, zq]
       have hxu := zEt (Ext.drew wr) hu
       have HXU : Hid (Ext w1 u) := zEt HX.out hxu
       have e7 : g1 7 = _ := hg 7 (by decide)
       rw [e7]
       clear hxu hu hg e7 hs1 hm2 e0 e1 e2 e3 c0 c1 c2 c3 c4 c5
       go_wp2_with fail
       go_roundw
       case rel =>
        have hmm := HMM.out
        refine ⟨m + 1, k, by omega, by omega, ?_, rfl, ?_, HHI, HXU⟩
        · rw [wrap_succ (by omega)]
        · exact cut_lo HR.out HPM.out (by rw [← HZ.out]; exact HNG.out)
       case measure =>
        have hmm := HMM.out
        rw [wrap_succ (by omega)]
        simp [intOf]; omega
      case obl =>
       refine ⟨fun u hu hd => ?_, fun u hu hd => ?_, fun u hu hd => ?_, fun u hu hd => ?_, fun u hu hd => ?_, fun u hu hd => ?_, fun u hu hd => ?_, fun u hu hd => ?_, trivial⟩
       all_goals try simp only [Act.put, zq]
       · go_simp
         exact zEr
       · go_simp
         exact zEr
       · go_simp
         exact zEr
       · have e1 : f1 1 = _ := hd 1 (by kernel_rfl)
         have e2 : f1 2 = _ := hd 2 (by kernel_rfl)
         go_simp
         exact zEr
       · have e3 : f1 3 = _ := hd 3 (by kernel_rfl)
         have hu2 := zEt (Ext.drew wr) hu
         have q0 := ext_cell hu2 c0
         have q1 := ext_cell hu2 c1
         have q2 := ext_cell hu2 c2
         have q3 := ext_cell hu2 c3
         have q4 := ext_cell hu2 c4
         have q5 := ext_cell hu2 c5
         go_simp
         exact zEr
       · have hu2 := zEt (Ext.drew wr) hu
         have q0 := ext_cell hu2 e0
         have q1 := ext_cell hu2 e1
         have q2 := ext_cell hu2 e2
         have q3 := ext_cell hu2 e3
         go_simp
         exact zEr
       · have e0 : f1 0 = _ := hd 0 (by kernel_rfl)
         have e4 : f1 4 = _ := hd 4 (by kernel_rfl)
         have e5 : f1 5 = _ := hd 5 (by kernel_rfl)
         have hu2 := zEt (Ext.drew wr) hu
         go_simp
         refine (HCK.out _ hu2).mono ?_
         rintro y w9 ⟨rfl, hx9⟩
         exact ⟨_, rfl, hx9, rfl⟩
       · have e6 : f1 6 = _ := hd 6 (by kernel_rfl)
         go_simp
         exact zEr
    · have dz : decide (z < 0) = false := decide_eq_false hneg
      have HNG := zHd hneg
      clear hneg
      go_upto_region 5 with (fail)
      rw [hm2]
      refine flow (by kernel_rfl) [Is (.func (.func 78) #[] #[]), Is (.slice (some ⟨bb, oo, none⟩) L.length c), Is (.int .i64 (m : Int)), Is (.pointer (some ⟨bb, oo + m * 6, none⟩)), Is (.agg #[.slice p.2.1 p.1.key.length p.2.2, .int .i64 (p.1.n : Int), .int .i64 0, .slice none 0 0, .int .i64 (p.1.b : Int), .int .i64 (p.1.z : Int)]), Is (.agg #[.slice g.kA x.key.length g.kc, .int .i64 x.seq, .int .i64 x.kind, .slice g.vA x.val.length g.vc]), Is (.int .i64 z), Is (.bool false)] (by kernel_rfl) (by kernel_rfl) ?mono (fun f1 => ?obl) ?fin
      case mono =>
       simp only [List.forall_mem_cons, List.not_mem_nil, false_imp_iff, implies_true, and_true]
       and_intros <;> exact .is _
      case fin =>
       intro g1 u hu hg
       simp only [puts, Act.put, zq]
       have hxu := zEt (Ext.drew wr) hu
       have HXU : Hid (Ext w1 u) := zEt HX.out hxu
       have e7 : g1 7 = _ := hg 7 (by decide)
       rw [e7]
       clear hxu hu hg e7 hs1 hm2 e0 e1 e2 e3 c0 c1 c2 c3 c4 c5
       go_wp2_with fail
       go_roundw
       case rel =>
        have hmm := HMM.out
        refine ⟨l, m, by omega, by omega, rfl, rfl, HLO, ?_, HXU⟩
        exact cut_hi HR.out HPM.out (by rw [← HZ.out]; have := HNG.out; omega)
       case measure =>
        have hmm := HMM.out
        simp [intOf]; omega
      case obl =>
       refine ⟨fun u hu hd => ?_, fun u hu hd => ?_, fun u hu hd => ?_, fun u hu hd => ?_, fun u hu hd => ?_, fun u hu hd => ?_, fun u hu hd => ?_, fun u hu hd => ?_, trivial⟩
       all_goals try simp only [Act.put, zq]
       · go_simp
         exact zEr
       · go_simp
         exact zEr
       · go_simp
         exact zEr
       · have e1 : f1 1 = _ := hd 1 (by kernel_rfl)
         have e2 : f1 2 = _ := hd 2 (by kernel_rfl)
         go_simp
         exact zEr
       · have e3 : f1 3 = _ := hd 3 (by kernel_rfl)
         have hu2 := zEt (Ext.drew wr) hu
         have q0 := ext_cell hu2 c0
         have q1 := ext_cell hu2 c1
         have q2 := ext_cell hu2 c2
         have q3 := ext_cell hu2 c3
         have q4 := ext_cell hu2 c4
         have q5 := ext_cell hu2 c5
         go_simp
         exact zEr
       · have hu2 := zEt (Ext.drew wr) hu
         have q0 := ext_cell hu2 e0
         have q1 := ext_cell hu2 e1
         have q2 := ext_cell hu2 e2
         have q3 := ext_cell hu2 e3
         go_simp
         exact zEr
       · have e0 : f1 0 = _ := hd 0 (by kernel_rfl)
         have e4 : f1 4 = _ := hd 4 (by kernel_rfl)
         have e5 : f1 5 = _ := hd 5 (by kernel_rfl)
         have hu2 := zEt (Ext.drew wr) hu
         go_simp
         refine (HCK.out _ hu2).mono ?_
         rintro y w9 ⟨rfl, hx9⟩
         exact ⟨_, rfl, hx9, rfl⟩
       · have e6 : f1 6 = _ := hd 6 (by kernel_rfl)
         go_simp
         exact zEr
  · have d : decide ((l : Int) < (k : Int)) = false := by rw [decide_eq_false_iff_not]; exact fun h => hlt (Int.ofNat_lt.1 h)
    have dn : decide (l < k) = false := by rw [decide_eq_false_iff_not]; exact hlt
    have HLK : Hid (l = k ∧ k ≤ L.length) := ⟨by omega, hkn⟩
    clear hlt hlk hkn
    have HFIN : Hid (Cut (L.map fun p => lastE p.1) x l) := ⟨by rw [List.length_map]; have := HLK.out; omega, HLO.out, by rw [HLK.out.1]; exact HHI.out⟩
    by_cases hin : l < L.length
    · have d8 : decide ((l : Int) < (L.length : Int)) = true := by rw [decide_eq_true_eq]; omega
      have d8n : decide (l < L.length) = true := by rw [decide_eq_true_eq]; exact hin
      obtain ⟨p, hp⟩ : ∃ p, L[l]? = some p := ⟨_, List.getElem?_eq_getElem hin⟩
      have HP := zHd hp
      obtain ⟨bb, oo, rfl⟩ := HE.out.base (by omega)
      have HEr := zHd (HE.out.below HX.out HH.out.1)
      obtain ⟨c0, c1, c2, c3, c4, c5⟩ := HEr.out.get hp
      have HBr : Hid (wr.heap[w.heap.size]? = some (.cells #[.slice g.kA x.key.length g.kc, .int .i64 x.seq, .int .i64 x.kind, .slice g.vA x.val.length g.vc] 50 (0, 0))) := ext_heap HX.out HB1.out
      have e0 := cell_of HBr.out (k := 0) rfl
      have e1 := cell_of HBr.out (k := 1) rfl
      have e2 := cell_of HBr.out (k := 2) rfl
      have e3 := cell_of HBr.out (k := 3) rfl
      have n1 : (0 : Int) ≤ (l : Int) := Int.natCast_nonneg _
      have n2 : (l : Int) < (L.length : Int) := Int.ofNat_lt.2 hin
      have HCK : Hid (∀ u, Ext wr u → Calls Tryz.prog 78 #[.agg #[.slice p.2.1 p.1.key.length p.2.2, .int .i64 (p.1.n : Int), .int .i64 0, .slice none 0 0, .int .i64 (p.1.b : Int), .int .i64 (p.1.z : Int)], .agg #[.slice g.kA x.key.length g.kc, .int .i64 x.seq, .int .i64 x.kind, .slice g.vA x.val.length g.vc]] u fun y w' => y = .returned (.int .i64 (cmpE (lastE p.1) x)) ∧ Ext u w') := fun u hu => by
       have hz := HX.out.size
       have hgp := HG.out p (List.mem_of_getElem? HP.out)
       exact tfirst1_any ((HEr.out.each p (List.mem_of_getElem? HP.out)).below hu (zNt HH.out.1 hz)) hgp.1 hgp.2 (zNt HH.out.1 (zNt hz hu.size)) (HM.out.below (zEt HX.out hu) HH.out.2) (zNt HH.out.2 (zNt hz hu.size))
      obtain ⟨z, hz⟩ : ∃ z, z = cmpE (lastE p.1) x := ⟨_, rfl⟩
      rw [← hz] at HCK
      obtain ⟨y, hy⟩ : ∃ y, y = (z == 0) := ⟨_, rfl⟩
      have hy2 := hy.symm
      clear hp hin hz hy
      go_upto_region 8 with (fail)
      refine flow (by kernel_rfl) [Is (.int .i64 (l : Int)), Is (.int .i64 (l : Int)), Is (.int .i64 (L.length : Int)), Is (.bool true), Is (.bool true), Is (.func (.func 78) #[] #[]), Is (.slice (some ⟨bb, oo, none⟩) L.length c), Is (.int .i64 (l : Int)), Is (.pointer (some ⟨bb, oo + l * 6, none⟩)), Is (.agg #[.slice p.2.1 p.1.key.length p.2.2, .int .i64 (p.1.n : Int), .int .i64 0, .slice none 0 0, .int .i64 (p.1.b : Int), .int .i64 (p.1.z : Int)]), Is (.agg #[.slice g.kA x.key.length g.kc, .int .i64 x.seq, .int .i64 x.kind, .slice g.vA x.val.length g.vc]), Is (.int .i64 z), Is (.bool y), Is (.bool y), Is (.int .i64 (l : Int)), Is (.bool y)] (by kernel_rfl) (by kernel_rfl) ?mono (fun f1 => ?obl) ?fin
      case mono =>
       simp only [List.forall_mem_cons, List.not_mem_nil, false_imp_iff, implies_true, and_true]
       and_intros <;> exact .is _
      case fin =>
       intro g1 u hu hg
       simp only [puts, Act.put, zq]
       have hxu := zEt (Ext.drew wr) hu
       have HXU : Hid (Ext w u) := zEt HX1.out (zEt HX.out hxu)
       have e14 : g1 14 = _ := hg 14 (by decide)
       have e15 : g1 15 = _ := hg 15 (by decide)
       rw [e14, e15]
       clear hxu hu hg e14 e15 e0 e1 e2 e3 c0 c1 c2 c3 c4 c5 hy2
       go_wp2_with fail
       go_ret2
       exact ⟨l, y, HFIN.out, rfl, HXU.out⟩
      case obl =>
       refine ⟨fun u hu hd => ?_, fun u hu hd => ?_, fun u hu hd => ?_, fun u hu hd => ?_, fun u hu hd => ?_, fun u hu hd => ?_, fun u hu hd => ?_, fun u hu hd => ?_, fun u hu hd => ?_, fun u hu hd => ?_, fun u hu hd => ?_, fun u hu hd => ?_, fun u hu hd => ?_, fun u hu hd => ?_, fun u hu hd => ?_, fun u hu hd => ?_, trivial⟩
       all_goals try simp only [Act.put, zq]
       · go_simp
         exact zEr
       · go_simp
         exact zEr
       · go_simp
         exact zEr
       · have e1 : f1 1 = _ := hd 1 (by kernel_rfl)
         have e2 : f1 2 = _ := hd 2 (by kernel_rfl)
         go_simp
         exact zEr
       · have e3 : f1 3 = _ := hd 3 (by kernel_rfl)
         go_simp
         exact zEr
       · have e4 : f1 4 = _ := hd 4 (by kernel_rfl)
         go_simp
         exact zEr
       · have e4 : f1 4 = _ := hd 4 (by kernel_rfl)
         go_simp
         exact zEr
       · have e4 : f1 4 = _ := hd 4 (by kernel_rfl)
         go_simp
         exact zEr
       · have e4 : f1 4 = _ := hd 4 (by kernel_rfl)
         have e6 : f1 6 = _ := hd 6 (by kernel_rfl)
         have e7 : f1 7 = _ := hd 7 (by kernel_rfl)
         go_simp
         exact zEr
       · have e4 : f1 4 = _ := hd 4 (by kernel_rfl)
         have e8 : f1 8 = _ := hd 8 (by kernel_rfl)
         have hu2 := zEt (Ext.drew wr) hu
         have q0 := ext_cell hu2 c0
         have q1 := ext_cell hu2 c1
         have q2 := ext_cell hu2 c2
         have q3 := ext_cell hu2 c3
         have q4 := ext_cell hu2 c4
         have q5 := ext_cell hu2 c5
         go_simp
         exact zEr
       · have e4 : f1 4 = _ := hd 4 (by kernel_rfl)
         have hu2 := zEt (Ext.drew wr) hu
         have q0 := ext_cell hu2 e0
         have q1 := ext_cell hu2 e1
         have q2 := ext_cell hu2 e2
         have q3 := ext_cell hu2 e3
         go_simp
         exact zEr
       · have e4 : f1 4 = _ := hd 4 (by kernel_rfl)
         have e5 : f1 5 = _ := hd 5 (by kernel_rfl)
         have e9 : f1 9 = _ := hd 9 (by kernel_rfl)
         have e10 : f1 10 = _ := hd 10 (by kernel_rfl)
         have hu2 := zEt (Ext.drew wr) hu
         go_simp
         refine (HCK.out _ hu2).mono ?_
         rintro y w9 ⟨rfl, hx9⟩
         exact ⟨_, rfl, hx9, rfl⟩
       · have e4 : f1 4 = _ := hd 4 (by kernel_rfl)
         have e11 : f1 11 = _ := hd 11 (by kernel_rfl)
         go_simp
         exact zEr
       · have e4 : f1 4 = _ := hd 4 (by kernel_rfl)
         have e12 : f1 12 = _ := hd 12 (by kernel_rfl)
         go_simp
         exact zEr
       · have e0 : f1 0 = _ := hd 0 (by kernel_rfl)
         go_simp
         exact zEr
       · have e13 : f1 13 = _ := hd 13 (by kernel_rfl)
         go_simp
         exact zEr
    · have d8 : decide ((l : Int) < (L.length : Int)) = false := by rw [decide_eq_false_iff_not]; omega
      have d8n : decide (l < L.length) = false := by rw [decide_eq_false_iff_not]; exact hin
      clear hin
      go_upto_region 8 with (fail)
      refine flow (by kernel_rfl) [Is (.int .i64 (l : Int)), Is (.int .i64 (l : Int)), Is (.int .i64 (L.length : Int)), Is (.bool false), Is (.bool false), Is undef, Is undef, Is undef, Is undef, Is undef, Is undef, Is undef, Is undef, Is (.bool false), Is (.int .i64 (l : Int)), Is (.bool false)] (by kernel_rfl) (by kernel_rfl) ?mono (fun f1 => ?obl) ?fin
      case mono =>
       simp only [List.forall_mem_cons, List.not_mem_nil, false_imp_iff, implies_true, and_true]
       and_intros <;> exact .is _
      case fin =>
       intro g1 u hu hg
       simp only [puts, Act.put, zq]
       have hxu := zEt (Ext.drew wr) hu
       have HXU : Hid (Ext w u) := zEt HX1.out (zEt HX.out hxu)
       have e14 : g1 14 = _ := hg 14 (by decide)
       have e15 : g1 15 = _ := hg 15 (by decide)
       rw [e14, e15]
       clear hxu hu hg e14 e15
       go_wp2_with fail
       go_ret2
       exact ⟨l, false, HFIN.out, rfl, HXU.out⟩
      case obl =>
       refine ⟨fun u hu hd => ?_, fun u hu hd => ?_, fun u hu hd => ?_, fun u hu hd => ?_, fun u hu hd => ?_, fun u hu hd => ?_, fun u hu hd => ?_, fun u hu hd => ?_, fun u hu hd => ?_, fun u hu hd => ?_, fun u hu hd => ?_, fun u hu hd => ?_, fun u hu hd => ?_, fun u hu hd => ?_, fun u hu hd => ?_, fun u hu hd => ?_, trivial⟩
       all_goals try simp only [Act.put, zq]
       · go_simp
         exact zEr
       · go_simp
         exact zEr
       · go_simp
         exact zEr
       · have e1 : f1 1 = _ := hd 1 (by kernel_rfl)
         have e2 : f1 2 = _ := hd 2 (by kernel_rfl)
         go_simp
         exact zEr
       · have e3 : f1 3 = _ := hd 3 (by kernel_rfl)
         go_simp
         exact zEr
       · have e4 : f1 4 = _ := hd 4 (by kernel_rfl)
         go_simp
         rfl
       · have e4 : f1 4 = _ := hd 4 (by kernel_rfl)
         go_simp
         rfl
       · have e4 : f1 4 = _ := hd 4 (by kernel_rfl)
         go_simp
         rfl
       · have e4 : f1 4 = _ := hd 4 (by kernel_rfl)
         go_simp
         rfl
       · have e4 : f1 4 = _ := hd 4 (by kernel_rfl)
         go_simp
         rfl
       · have e4 : f1 4 = _ := hd 4 (by kernel_rfl)
         go_simp
         rfl
       · have e4 : f1 4 = _ := hd 4 (by kernel_rfl)
         go_simp
         rfl
       · have e4 : f1 4 = _ := hd 4 (by kernel_rfl)
         go_simp
         rfl
       · have e4 : f1 4 = _ := hd 4 (by kernel_rfl)
         go_simp
         exact zEr
       · have e0 : f1 0 = _ := hd 0 (by kernel_rfl)
         go_simp
         exact zEr
       · have e13 : f1 13 = _ := hd 13 (by kernel_rfl)
         go_simp
         exact zEr
theorem tb_block {C : List (List Ent)} (L : List Ent) {k : Nat} {q : List Ent} (hq : C[k]? = some q) : offB C k + (wr q).length ≤ (tb C L).length ∧ ((tb C L).drop (offB C k)).take (wr q).length = wr q := by
 obtain ⟨hk, rfl⟩ := zLg.1 hq
 have hsp : (tb C L).drop (offB C k) = wr C[k] ++ (blks (C.drop (k + 1)) ++ (index C ++ Bl.mk (keysT L)) ++ (foot24 C L ++ be4 (Bl.crc (foot24 C L)))) := by
  have e : blks C = blks (C.take k) ++ (wr C[k] ++ blks (C.drop (k + 1))) := by
   have e1 : blks C = blks (C.take k ++ (C[k] :: C.drop (k + 1))) := by rw [← List.drop_eq_getElem_cons hk, List.take_append_drop]
   rw [e1]
   unfold blks
   rw [List.flatMap_append, List.flatMap_cons]
  unfold tb ahd offB
  rw [e]
  simp only [List.append_assoc]
  rw [List.drop_left]
 refine ⟨?_, by rw [hsp, List.take_left]⟩
 have h0 : offB C k ≤ (tb C L).length := by
  have h1 := blks_take_le C k
  have : (blks C).length ≤ (tb C L).length := by rw [tb_len]; unfold ahd; rw [List.length_append]; omega
  unfold offB; omega
 have := congrArg List.length hsp
 rw [List.length_drop, List.length_append] at this
 omega
set_option maxRecDepth 100000 in
set_option maxHeartbeats 1000000 in
theorem tblock_any {w : World} {g : Nat} {C : List (List Ent)} {L : List Ent} {fr tt : List Nat} {en : Bool} (h : TV w g C L fr tt en) {k : Nat} {q : List Ent} (hq : C[k]? = some q) (kA : Option Addr) (kl kc : Nat) (n : Int) :
    Calls Tryz.prog 44 #[.pointer (some ⟨g, 0, none⟩), .agg #[.slice kA kl kc, .int .i64 n, .int .i64 0, .slice none 0 0, .int .i64 (offB C k : Nat), .int .i64 ((wr q).length : Nat)]] w fun x w' => ∃ A c, x = .returned (.slice A (wr q).length c) ∧ Bs w' 0 w'.heap.size (.slice A (wr q).length c) (wr q) ∧ Ext w w' := by
 obtain ⟨hle, hbt⟩ := tb_block L hq
 have hf := few h.may h.cuts h.flat
 have hlen : (tb C L).length ≤ 300000028 := by rw [tb_len]; have := hf.a; omega
 obtain ⟨fA, fc, tA, tc, ⟨bv_, fv_, PA, pc, P, h1, h2, _, _, _, _⟩, _, _⟩ := h.at_
 have HBS := zHd h2
 have h2' := h2
 obtain ⟨A, c, rfl, hc, _⟩ := h2'
 unfold tbcells at h1
 obtain ⟨b, hb⟩ : ∃ b, b = offB C k := ⟨_, rfl⟩
 obtain ⟨z, hz⟩ : ∃ z, z = (wr q).length := ⟨_, rfl⟩
 obtain ⟨t, ht⟩ : ∃ t, t = tb C L := ⟨_, rfl⟩
 rw [← hb, ← hz, ← ht] at hle hbt
 rw [← ht] at hlen hc HBS h1
 rw [← hb, ← hz]
 obtain ⟨A2, hA2, hr2, _⟩ := cut_run A t.length c b (b + z) (by omega) hle hc
 have hbs := hA2 _ _ _ _ HBS.out
 rw [show b + z - b = z by omega, hbt] at hbs
 rw [show b + z - b = z by omega] at hr2
 have HB2 := zHd hbs
 have hr3 : ∀ w, (Instr.slice 22 (.slice A t.length c) (some (.int .i64 (b : Int))) (some (.int .i64 ((b : Int) + (z : Int)))) none).run Tryz.prog w = .ok (.slice A2 z (c - b)) w := fun w => by have := hr2 w; rwa [Int.natCast_add] at this
 have e1 : IntKind.i64.wrap ((b : Int) + (z : Int)) = ((b + z : Nat) : Int) := by rw [IntKind.wrap_i64]; omega
 have e2 : wrap64 ((b : Int) + (z : Int)) = ((b + z : Nat) : Int) := by unfold wrap64; omega
 obtain ⟨w1, hw1⟩ : ∃ w1, w1 = w.alloc (.cells #[.slice kA kl kc, .int .i64 n, .int .i64 0, .slice none 0 0, .int .i64 (b : Nat), .int .i64 (z : Nat)] 90) := ⟨_, rfl⟩
 have HX1 : Hid (Ext w w1) := by rw [hw1]; exact ext_alloc _ _
 have HB1 : Hid (w1.heap[w.heap.size]? = some (.cells #[.slice kA kl kc, .int .i64 n, .int .i64 0, .slice none 0 0, .int .i64 (b : Nat), .int .i64 (z : Nat)] 90 (0, 0))) := by rw [hw1]; exact heap_at _ _ rfl
 have d0 := cell_of (ext_heap HX1.out h1) (k := 0) rfl
 have c4 := cell_of HB1.out (k := 4) rfl
 have c5 := cell_of HB1.out (k := 5) rfl
 clear h hq hf h1 h2 hb hz ht hc hA2 hbs hle hbt hlen
 go_enter Tryz.func44, Tryz.ntmps44
 go_upto_region 1 with (fail)
 rw [← hw1]
 clear hw1
 go_region
 go_wp2_with fail
 go_ret
 exact ⟨A2, c - b, rfl, bs_next HB2.out (zEt HX1.out (Ext.drew _)), zEt HX1.out (Ext.drew _)⟩
theorem flat_at {C : List (List Ent)} {n i : Nat} {q : List Ent} (hq : C[n]? = some q) (hi : i < q.length) : C.flatten[offK C n + i]? = q[i]? := by
 obtain ⟨hn, rfl⟩ := zLg.1 hq
 rw [flat_split C n, List.drop_eq_getElem_cons hn, List.flatten_cons]
 unfold offK
 rw [List.getElem?_append_right (by omega), List.getElem?_append_left (by omega)]
 congr 1
 omega
theorem offK_lt_len {C : List (List Ent)} {n i : Nat} {q : List Ent} (hq : C[n]? = some q) (hi : i < q.length) : offK C n + i < C.flatten.length := by
 have h := flat_at hq hi
 rw [List.getElem?_eq_getElem hi] at h
 exact (zLg.1 h).1
theorem last_at {C : List (List Ent)} (hc : Cuts C) {n : Nat} {q : List Ent} (hq : C[n]? = some q) : ∃ e, q.getLast? = some e ∧ C.flatten[offK C (n + 1) - 1]? = some e ∧ offK C n < offK C (n + 1) := by
 have hne := (cuts_piece hc q (List.mem_of_getElem? hq)).1
 have hp : 0 < q.length := List.length_pos_iff.2 hne
 have h1 := offK_succ hq
 refine ⟨q.getLast hne, List.getLast?_eq_some_getLast hne, ?_, by omega⟩
 have e : offK C (n + 1) - 1 = offK C n + (q.length - 1) := by omega
 rw [e, flat_at hq (by omega), List.getElem?_eq_getElem (by omega), List.getLast_eq_getElem]
theorem lastE_cmp {q : List Ent} {e : Ent} {a : Nat} (hq : q.getLast? = some e) (hm : e.may = true) (x : Ent) : cmpE (lastE (plOf q a)) x = cmpE e x ∧ cmpE x (lastE (plOf q a)) = cmpE x e := by
 obtain ⟨m1, m2, m3, m4, _⟩ := mayN_iff.1 hm
 unfold cmpE lastE plOf
 rw [hq]
 simp only [Option.map_some, Option.getD_some]
 have : ((e.seq.toNat : Nat) : Int) = e.seq := by omega
 rw [this]
 exact ⟨rfl, rfl⟩
theorem pls_lastE {C : List (List Ent)} (hc : Cuts C) (hm : ∀ e ∈ C.flatten, e.may = true) {n : Nat} {y : Ent} (h : ((pls C).map lastE)[n]? = some y) : ∃ e, C.flatten[offK C (n + 1) - 1]? = some e ∧ offK C n < offK C (n + 1) ∧ n < C.length ∧ ∀ x, cmpE y x = cmpE e x ∧ cmpE x y = cmpE x e := by
 rw [List.getElem?_map] at h
 have hn : n < C.length := by
  rcases Nat.lt_or_ge n C.length with h1 | h1
  · exact h1
  · rw [List.getElem?_eq_none (by rw [pls_length]; exact h1)] at h; cases h
 have hq : C[n]? = some C[n] := List.getElem?_eq_getElem hn
 rw [pls_at hq] at h
 injection h with h
 obtain ⟨e, h1, h2, h3⟩ := last_at hc hq
 refine ⟨e, h2, h3, hn, fun x => ?_⟩
 rw [← h]
 exact lastE_cmp h1 (hm e (List.mem_of_getElem? h2)) x
theorem pls_rise {C : List (List Ent)} (hc : Cuts C) (hr : Rise C.flatten) (hm : ∀ e ∈ C.flatten, e.may = true) : Rise ((pls C).map lastE) := by
 intro j a b ha hb
 obtain ⟨e, h1, h2, _, h3⟩ := pls_lastE hc hm ha
 obtain ⟨f, k1, k2, _, k3⟩ := pls_lastE hc hm hb
 rw [(h3 b).1, (k3 e).2]
 exact rise_at hr (by omega) h1 k1
theorem cut_ex {L : List Ent} (h : Rise L) (x : Ent) : ∃ n, Cut L x n := by
 have hle := List.findIdx_le_length (p := fun a => decide (0 ≤ cmpE a x)) (xs := L)
 refine ⟨L.findIdx (fun a => decide (0 ≤ cmpE a x)), hle, fun j a hj ha => ?_, fun j a hj ha => ?_⟩
 · obtain ⟨h1, rfl⟩ := zLg.1 ha
   have := List.not_of_lt_findIdx hj
   simp at this; omega
 · have hlt := (zLg.1 ha).1
   have hi : L.findIdx (fun a => decide (0 ≤ cmpE a x)) < L.length := by omega
   have := List.findIdx_getElem (w := hi)
   exact cut_hi h (List.getElem?_eq_getElem hi) (by simpa using this) j a hj ha
theorem cut_block {C : List (List Ent)} (hc : Cuts C) (hr : Rise C.flatten) (hm : ∀ e ∈ C.flatten, e.may = true) {x : Ent} {n : Nat} (h : Cut ((pls C).map lastE) x n) {q : List Ent} (hq : C[n]? = some q) : ∃ m, m < q.length ∧ Cut q x m ∧ Cut C.flatten x (offK C n + m) := by
 have hqr : Rise q := by
  intro j a b ha hb
  have h1 := (zLg.1 ha).1
  have h2 := (zLg.1 hb).1
  refine hr (offK C n + j) a b ?_ ?_
  · rw [flat_at hq h1]; exact ha
  · rw [Nat.add_assoc, flat_at hq h2]; exact hb
 obtain ⟨m, hcm⟩ := cut_ex hqr x
 obtain ⟨y, hy⟩ : ∃ y, ((pls C).map lastE)[n]? = some y := ⟨_, List.getElem?_eq_getElem (by rw [List.length_map, pls_length]; exact (zLg.1 hq).1)⟩
 obtain ⟨e, h1, h2, hn, h3⟩ := pls_lastE hc hm hy
 have hge := h.hi n y (zNr _) hy
 rw [(h3 x).1] at hge
 have hs := offK_succ hq
 have hml : m < q.length := by
  rcases Nat.lt_or_ge m q.length with h4 | h4
  · exact h4
  · have h5 : q[q.length - 1]? = some e := by
      rw [← flat_at hq (by omega), ← h1]; congr 1; omega
    have := hcm.lo (q.length - 1) e (by omega) h5
    omega
 refine ⟨m, hml, hcm, ?_⟩
 refine ⟨Nat.le_of_lt (offK_lt_len hq hml), fun j a hj ha => ?_, fun j a hj ha => ?_⟩
 · rcases Nat.lt_or_ge j (offK C n) with h4 | h4
   · obtain ⟨k, rfl⟩ : ∃ k, n = k + 1 := ⟨n - 1, by
       rcases n with _ | n
       · rw [offK_zero] at h4; omega
       · rfl⟩
     obtain ⟨y', hy'⟩ : ∃ y, ((pls C).map lastE)[k]? = some y := ⟨_, List.getElem?_eq_getElem (by rw [List.length_map, pls_length]; omega)⟩
     obtain ⟨f, k1, k2, _, k3⟩ := pls_lastE hc hm hy'
     have hlo := h.lo k y' (by omega) hy'
     rw [(k3 x).1] at hlo
     exact cut_lo hr k1 hlo j a (by omega) ha
   · have h5 : j - offK C n < q.length := by omega
     refine hcm.lo (j - offK C n) a (by omega) ?_
     rw [← flat_at hq h5, ← ha]; congr 1; omega
 · refine cut_hi hr (m := offK C n + m) (a := q[m]) ?_ ?_ j a hj ha
   · rw [flat_at hq hml]; exact List.getElem?_eq_getElem hml
   · exact hcm.hi m q[m] (zNr _) (List.getElem?_eq_getElem hml)
theorem find_block {C : List (List Ent)} (hc : Cuts C) (hr : Rise C.flatten) (hm : ∀ e ∈ C.flatten, e.may = true) {key : List Nat} {s : Int} {n : Nat} (h : Cut ((pls C).map lastE) ⟨key, s, 0, []⟩ n) {q : List Ent} (hq : C[n]? = some q) : q.find? (seenE key s) = C.flatten.find? (seenE key s) := by
 obtain ⟨m, h1, h2, h3⟩ := cut_block hc hr hm h hq
 have hqr : Rise q := by
  intro j a b ha hb
  have h1 := (zLg.1 ha).1
  have h2 := (zLg.1 hb).1
  refine hr (offK C n + j) a b ?_ ?_
  · rw [flat_at hq h1]; exact ha
  · rw [Nat.add_assoc, flat_at hq h2]; exact hb
 have h5 := offK_lt_len hq h1
 have h4 : C.flatten[offK C n + m] = q[m] := by
  have h := flat_at hq h1
  rw [List.getElem?_eq_getElem h5, List.getElem?_eq_getElem h1] at h
  injection h
 rw [cut_find hqr h2, cut_find hr h3, dif_pos h1, dif_pos h5, h4]
theorem find_none {C : List (List Ent)} (hc : Cuts C) (hr : Rise C.flatten) (hm : ∀ e ∈ C.flatten, e.may = true) (h0 : 1 ≤ C.length) {key : List Nat} {s : Int} (h : Cut ((pls C).map lastE) ⟨key, s, 0, []⟩ C.length) : C.flatten.find? (seenE key s) = none := by
 obtain ⟨k, hk⟩ : ∃ k, C.length = k + 1 := ⟨C.length - 1, by omega⟩
 obtain ⟨y', hy'⟩ : ∃ y, ((pls C).map lastE)[k]? = some y := ⟨_, List.getElem?_eq_getElem (by rw [List.length_map, pls_length]; omega)⟩
 obtain ⟨f, k1, k2, _, k3⟩ := pls_lastE hc hm hy'
 have hlo := h.lo k y' (by omega) hy'
 rw [(k3 _).1] at hlo
 have hcut : Cut C.flatten ⟨key, s, 0, []⟩ C.flatten.length := by
  refine ⟨zNr _, fun j a hj ha => ?_, fun j a hj ha => by have := (zLg.1 ha).1; omega⟩
  have e : offK C (k + 1) = C.flatten.length := by rw [← hk]; exact offK_all C
  exact cut_lo hr k1 hlo j a (by omega) ha
 rw [cut_find hr hcut, dif_neg (by omega)]
end Go.Proofs.YtkdidghfcfcpfaaGreat
