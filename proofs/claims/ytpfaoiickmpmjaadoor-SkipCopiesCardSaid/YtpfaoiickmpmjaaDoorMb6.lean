/- Iseq Srow Scopies Iover Sgoes Sfrom Sref, joined. -/
import Derived.Test.YtpfaoiickmpmjaaDoorMb5
import Derived.Sort.LoopGhostIn

/- Going over what Latest saw. -/
namespace Go.Proofs.YtpfaoiickmpmjaaDoor
open Go.RowKit Go.Shelf
attribute [local go_sem] Oper.semAt_some

/-- The row in the box, its value named. -/
structure SeenV (B sb : Nat) (v : Value) (R : List (Ent × Hd)) (A : World) : Prop where
  box : Boxed A sb 26 v
  row : A.ownsRow B 40 4 v R.length (erow R)
  each : ∀ p ∈ R, Mine B p A
theorem SeenV.chg {B sb : Nat} {v : Value} {R : List (Ent × Hd)} {A A' : World} {S : Nat → Prop} (h : SeenV B sb v R A) (hc : Chg S A A') (hS : ∀ k, B ≤ k → ¬ S k) (hb : ¬ S sb) : SeenV B sb v R A' :=
  ⟨boxed_chg h.box hc hb, rowN_kept h.row fun g hg => hc.block g (rowN_lt h.row g hg).2.1 (hS g (rowN_lt h.row g hg).1), fun p hp => (h.each p hp).chg hc hS⟩
theorem SeenV.ext {B sb : Nat} {v : Value} {R : List (Ent × Hd)} {A A' : World} (h : SeenV B sb v R A) (hx : Ext A A') : SeenV B sb v R A' := h.chg (S := fun _ => False) (Chg.of_ext hx) (fun _ _ h => h) (fun h => h)
theorem rowE_sl {A : World} {B n c : Nat} {X : Option Addr} {R : List (Ent × Hd)} (h : A.ownsRow B 40 4 (.slice X n c) n (erow R)) : Sl A 0 A.heap.size X (erow R) := by
  rcases h.2 with ⟨he, rfl⟩ | ⟨g, cap, cur, he, hb, hh, hn, hm, hcs, hx⟩
  · left
    exact List.eq_nil_of_length_eq_zero (by simpa using h.1)
  · injection he with he _ _
    subst he
    refine .inr ⟨g, 0, rfl, Nat.zero_le _, (Array.getElem?_eq_some_iff.1 hh).1, fun i u hu => ?_⟩
    rw [Nat.zero_add, cell_of_row A g i cur _ (0, 0) hh]
    rw [← hx, List.getElem?_take] at hu
    split at hu
    · rw [← Array.getElem?_toList]; exact hu
    · cases hu
theorem SeenV.es {B sb n c : Nat} {X : Option Addr} {R : List (Ent × Hd)} {A : World} (h : SeenV B sb (.slice X n c) R A) : Es A 0 A.heap.size X R := by
  have hn : n = R.length := by
    obtain ⟨A', c', e⟩ := rowN_slice h.row
    injection e
  subst hn
  exact ⟨rowE_sl h.row, fun p hp => (h.each p hp).em⟩

/-- Of the k-th: it, in memory of its own. -/
def SeqOk (R : List (Ent × Hd)) (n₁ k : Nat) (x : Ent × Hd) (A : World) : Prop := ∃ p, R[k]? = some p ∧ x.1 = p.1 ∧ Mine n₁ x A
def seqV (x : Ent × Hd) : Array Value := #[x.1.at_ x.2]
end Go.Proofs.YtpfaoiickmpmjaaDoor

/- A row of towers, gone over. -/
namespace Go.Proofs.YtpfaoiickmpmjaaDoor
open Go.ChangeShapes Go.WideShapes Go.ChangeAt Go.RowKit Go.Shelf
attribute [local go_sem] Oper.semAt_some

theorem last_ex {H : List Tw} {t0 : Tw} {n : Nat} (h0 : H[0]? = some t0) (hn : n < t0.h) : ∀ p, 0 < p → ∃ i, LastAt H p n i
  | 0, h => absurd h (Nat.lt_irrefl _)
  | 1, _ => ⟨0, by decide, ⟨t0, h0, hn⟩, fun j t h1 h2 _ => by omega⟩
  | p + 2, _ => by
    obtain ⟨i, hi⟩ := last_ex h0 hn (p + 1) (Nat.succ_pos _)
    by_cases hx : ∃ t, H[p + 1]? = some t ∧ n < t.h
    · exact ⟨p + 1, Nat.lt_succ_self _, hx, fun j t h1 h2 _ => by omega⟩
    · refine ⟨i, Nat.lt_succ_of_lt hi.lt, hi.at_, fun j t h1 h2 h3 => ?_⟩
      rcases Nat.lt_or_ge j (p + 1) with h | h
      · exact hi.last j t h1 h h3
      · have : j = p + 1 := by omega
        subst this
        rcases Nat.lt_or_ge n t.h with h4 | h4
        · exact absurd ⟨t, h3, h4⟩ hx
        · exact h4
theorem LastAt.unique {H : List Tw} {p n i j : Nat} (h : LastAt H p n i) (k : LastAt H p n j) : i = j := by
  obtain ⟨t, ht, hn⟩ := h.at_
  obtain ⟨u, hu, hm⟩ := k.at_
  rcases Nat.lt_trichotomy i j with hlt | he | hgt
  · have := h.last j u hlt k.lt hu; omega
  · exact he
  · have := k.last i t hgt h.lt ht; omega
theorem before_at {w : World} {D : Nat → Prop} {lb hb gf : Nat} {caps : Array Value} {T : List Tw} {q : Ent → Bool} (h : Sk w D lb hb T) (hA : AheadFn w gf caps q) (hq : (T.map Tw.e).Pairwise fun a b => q b = true → q a = true)
    {f : Nat → Nat} (hf : ∀ n, n < 8 → LastAt (headT hb :: T) (1 + cutOf q (T.map Tw.e)) n (f n)) :
    Calls Tryd.prog 47 #[.pointer (some ⟨lb, 0, none⟩), .func (.func gf) #[] caps] w fun e w' => e = .returned (.agg #[.pointer (some ⟨bAt (headT hb :: T) (f 0), 0, none⟩), .pointer (some ⟨bAt (headT hb :: T) (f 1), 0, none⟩), .pointer (some ⟨bAt (headT hb :: T) (f 2), 0, none⟩), .pointer (some ⟨bAt (headT hb :: T) (f 3), 0, none⟩), .pointer (some ⟨bAt (headT hb :: T) (f 4), 0, none⟩), .pointer (some ⟨bAt (headT hb :: T) (f 5), 0, none⟩), .pointer (some ⟨bAt (headT hb :: T) (f 6), 0, none⟩), .pointer (some ⟨bAt (headT hb :: T) (f 7), 0, none⟩)]) ∧ Ext w w' := by
  refine (before_any h hA hq).mono ?_
  rintro e w' ⟨hx, f', hf', rfl⟩
  refine ⟨?_, hx⟩
  have he : ∀ n, n < 8 → f' n = f n := fun n hn => (hf' n hn).unique (hf n hn)
  rw [he 0 (by decide), he 1 (by decide), he 2 (by decide), he 3 (by decide), he 4 (by decide), he 5 (by decide), he 6 (by decide), he 7 (by decide)]

theorem Own.bs_lt {B N : Nat} {l : List Nat} {v : Value} {w : World} (h : Own B l v w) (hN : ∀ k, v.ownBlock = some k → k < N) : Bs w 0 N v l := by
  obtain ⟨A, c, rfl, h1, h2, h3, h4⟩ := h.bs
  refine ⟨A, c, rfl, h1, h2, h3, ?_⟩
  rcases h4 with h4 | ⟨b, o, rfl, _, _, hc⟩
  · exact .inl h4
  · exact .inr ⟨b, o, rfl, Nat.zero_le _, hN b rfl, hc⟩

/-- row makes a function over the list. -/
theorem srow_any (d : Option Addr) (n : Int) (gf : Nat) (caps : Array Value) (w : World) : Calls Tryd.prog 44 #[.pointer d, .int .i64 n, .func (.func gf) #[] caps] w fun e w' =>
    e = .returned (.func (.func 62) #[] #[.pointer (some ⟨w.heap.size, 0, none⟩), .pointer (some ⟨w.heap.size + 1, 0, none⟩), .pointer (some ⟨w.heap.size + 2, 0, none⟩)]) ∧
    w' = ((w.alloc (.cells #[.pointer d] 28)).alloc (.cells #[.int .i64 n] 3)).alloc (.cells #[.func (.func gf) #[] caps] 75) := by
  go_enter Tryd.func44, Tryd.ntmps44
  go_wp2
  go_ret
  exact ⟨rfl, rfl⟩
theorem enters_row1 : ∀ args w, (callFunc 62 args).run Tryd.prog w = .ok (.enter 62 args) w := enters_of Tryd.func62 (by kernel_rfl) rfl

def rowV (x : Ent × Hd) : Array Value := #[x.1.at_ x.2]
/-- Of the k-th: it, in the list's own memory. -/
def RowOk (L : List Tw) (N : Nat) (_n₁ k : Nat) (x : Ent × Hd) (A : World) : Prop := ∃ t, L[k]? = some t ∧ x.1 = t.e ∧ Em A 0 N x.1 x.2
/-- What is gone over. -/
def rowOf (T : List Tw) (q : Ent → Bool) (n : Nat) : List Tw := (T.drop (cutOf q (T.map Tw.e))).filter fun t => decide (n < t.h)
/-- What the one who goes over it promises. -/
def RowC (w : World) (D : Nat → Prop) (b0 b1 b2 : Nat) (A : World) : Prop := ∀ k, D k ∨ (k = b1 ∨ k = b0 ∨ k = b2) → k < w.heap.size → A.heap[k]? = w.heap[k]?

set_option maxRecDepth 100000 in
set_option maxHeartbeats 8000000 in
theorem row_iterN {N : Nat} {w : World} {D : Nat → Prop} {lb hb gf b0 b1 b2 n : Nat} {caps : Array Value} {T : List Tw} {q : Ent → Bool} (h : Sk w D lb hb T) (hA : AheadFn w gf caps q) (hq : (T.map Tw.e).Pairwise fun a b => q b = true → q a = true) (hn : n < 8) (hN : ∀ k, D k → k < w.heap.size → k < N)
    (x0 : w.cell? ⟨b0, 0, none⟩ = some (.pointer (some ⟨lb, 0, none⟩))) (x1 : w.cell? ⟨b1, 0, none⟩ = some (.int .i64 (n : Int))) (x2 : w.cell? ⟨b2, 0, none⟩ = some (.func (.func gf) #[] caps)) :
    Iter Tryd.prog 62 #[.pointer (some ⟨b0, 0, none⟩), .pointer (some ⟨b1, 0, none⟩), .pointer (some ⟨b2, 0, none⟩)] (rowOf T q n).length rowV (RowOk (rowOf T q n) N) (RowC w D b0 b1 b2) w := by
  have HNB := Lib.hid hN
  clear hN
  intro mm l J Jx W hx hC hJ hJx h0 hY
  obtain ⟨HH, hHH⟩ : ∃ HH, HH = headT hb :: T := ⟨_, rfl⟩
  obtain ⟨p, hp⟩ : ∃ p, p = 1 + cutOf q (T.map Tw.e) := ⟨_, rfl⟩
  obtain ⟨L0, hL0⟩ : ∃ L0, L0 = rowOf T q n := ⟨_, rfl⟩
  obtain ⟨LL, hLL⟩ : ∃ LL, LL = L0.length := ⟨_, rfl⟩
  rw [← hL0] at hY ⊢
  have HLN := Lib.hid hLL
  have HHH := Lib.hid hHH
  have HP := Lib.hid hp
  have HL0 : Hid (L0 = (HH.drop p).filter fun t => decide (n < t.h)) := by unfold Hid; rw [hL0, hHH, hp, Nat.add_comm, List.drop_succ_cons]; rfl
  have HLL := Lib.hid hLL
  have HSW := Lib.hid h
  have HCHW : Hid (Chain w D T.length HH) := by rw [hHH]; exact h.chain
  have HS := Lib.hid (h.ext hx)
  have HAF := Lib.hid (hA.ext hx)
  have HPQ := Lib.hid hq
  have HN8 := Lib.hid hn
  have HC := Lib.hid hC
  have HJ := Lib.hid hJ
  have HJX := Lib.hid hJx
  have H0 := Lib.hid h0
  have HY := Lib.hid hY
  have HX1 := Lib.hid x1
  have HPL : Hid (1 ≤ p) := by unfold Hid; omega
  have hch : ∀ k, ∃ i, k < 8 → LastAt HH p k i := fun k => by
    by_cases hk : k < 8
    · obtain ⟨i, hi⟩ := last_ex (H := HH) (t0 := headT hb) (n := k) (by rw [hHH]; rfl) hk p HPL.out
      exact ⟨i, fun _ => hi⟩
    · exact ⟨0, fun h => absurd h hk⟩
  obtain ⟨f, hf⟩ := Classical.axiomOfChoice hch
  have HF : Hid (∀ k, k < 8 → LastAt HH p k (f k)) := hf
  obtain ⟨hfp, ⟨tl, htl, hth⟩, hlast⟩ := hf n hn
  have HIX : Hid (∀ W, (Instr.index 76 (.agg #[.pointer (some ⟨bAt HH (f 0), 0, none⟩), .pointer (some ⟨bAt HH (f 1), 0, none⟩), .pointer (some ⟨bAt HH (f 2), 0, none⟩), .pointer (some ⟨bAt HH (f 3), 0, none⟩), .pointer (some ⟨bAt HH (f 4), 0, none⟩), .pointer (some ⟨bAt HH (f 5), 0, none⟩), .pointer (some ⟨bAt HH (f 6), 0, none⟩), .pointer (some ⟨bAt HH (f 7), 0, none⟩)]) (.int .i64 (n : Int))).run Tryd.prog W = .ok (.pointer (some ⟨tl.b, 0, none⟩)) W) := fun W => by
    have := arr_index hn (fun k => some ⟨bAt HH (f k), 0, none⟩) W
    rw [bAt_of htl] at this
    exact this
  obtain ⟨v6, hv6⟩ : ∃ v6, v6 = optp (nxt n (HH.drop p)) := ⟨_, rfl⟩
  have HV6 := Lib.hid hv6
  have hnp : nxt n (HH.drop (f n + 1)) = nxt n (HH.drop p) := by
    have e : HH.drop (f n + 1) = (HH.drop (f n + 1)).take (p - (f n + 1)) ++ HH.drop p := by
      rw [show HH.drop p = (HH.drop (f n + 1)).drop (p - (f n + 1)) by rw [List.drop_drop]; congr 1; omega]
      exact (List.take_append_drop _ _).symm
    rw [e, nxt_append]
    intro v hv
    obtain ⟨k, hk⟩ := List.mem_iff_getElem?.1 hv
    have hkl : k < p - (f n + 1) := by have := (List.getElem?_eq_some_iff.1 hk).1; rw [List.length_take] at this; omega
    rw [List.getElem?_take, if_pos hkl, List.getElem?_drop] at hk
    exact hlast (f n + 1 + k) v (by omega) (by omega) hk
  obtain ⟨_, gl, bl, hbl, _⟩ := HCHW.out (f n) tl htl
  have qn : W.cell? ⟨tl.b, 5 + n, none⟩ = some v6 := ext_cell hx (cell_of hbl ((tcells_next _ _ _ _ hn).trans (by unfold nextOf; rw [if_pos hth, hnp, hv6])))
  have x0 := ext_cell hx x0
  have x1 := ext_cell hx x1
  have x2 := ext_cell hx x2
  have hlc := cell_of (v := .int .i64 (T.length : Int)) (h.ext hx).list (k := 1) rfl
  have HNN := Lib.hid (none_no (h.ext hx).list)
  have n1 : (0 : Int) ≤ (n : Int) := by omega
  have n2 : (n : Int) < 8 := by omega
  have n3 : n < 8 := hn
  have dl1 : decide ((n : Int) < 0) = false := by simp
  have dl2 : decide ((8 : Int) ≤ (n : Int)) = false := by simp; omega
  clear h hA hq hn hC hJ hJx h0 hY hHH hp hL0 hLL hch hf hfp htl hth hlast hv6 hnp hbl
  go_enter Tryd.func62, Tryd.ntmps62
  go_wp2_with fail
  refine Calls.mono HNN.out ?_
  rintro e w' ⟨rfl, hw'⟩
  have hw' := hw'.symm
  subst hw'
  go_upto_region 2 with (fail)
  rename_i K hK
  have HKK := Lib.hid hK
  clear hK
  refine flow (by kernel_rfl) [Is (.pointer (some ⟨lb, 0, none⟩)), Is (.func (.func gf) #[] caps), Is (.agg #[.pointer (some ⟨bAt HH (f 0), 0, none⟩), .pointer (some ⟨bAt HH (f 1), 0, none⟩), .pointer (some ⟨bAt HH (f 2), 0, none⟩), .pointer (some ⟨bAt HH (f 3), 0, none⟩), .pointer (some ⟨bAt HH (f 4), 0, none⟩), .pointer (some ⟨bAt HH (f 5), 0, none⟩), .pointer (some ⟨bAt HH (f 6), 0, none⟩), .pointer (some ⟨bAt HH (f 7), 0, none⟩)]), Is (.int .i64 (n : Int)), Is (.pointer (some ⟨tl.b, 0, none⟩)), Is (.int .i64 (n : Int)), Is (.pointer (some ⟨tl.b, 0, none⟩)), Is (.pointer (some ⟨tl.b, 5, none⟩)), Is (.pointer (some ⟨tl.b, 5 + n, none⟩)), Is (v6), Is (v6)] (by kernel_rfl) (by kernel_rfl) ?mono2 (fun f1 => ?obl2) ?fin2
  case mono2 =>
    simp only [List.forall_mem_cons, List.not_mem_nil, false_imp_iff, implies_true, and_true]
    exact ⟨.is _, .is _, .is _, .is _, .is _, .is _, .is _, .is _, .is _, .is _, .is _⟩
  case fin2 =>
    intro g2 u hu hg
    simp only [puts, Act.put, List.setIfInBounds_toArray, List.set_cons_zero, List.set_cons_succ]
    have e10 : g2 10 = v6 := hg 10 (by decide)
    rw [e10]
    have HU := Lib.hid (Ext.trans (Ext.drew W) hu)
    have HJ0 := Lib.hid (H0.out u HU.out)
    clear hu hg e10 x0 x1 x2 qn hlc
    refine HKK.out _ _ ?_
    refine (wpIn_wide (n := 6)).1 ?_
    gi_wp2
    gi_loopg [6] (LL + 1) (fun k x wr => ∃ (j : Nat) (S : List Tw), x = optp (nxt n S) ∧ Hid (k = (S.filter fun t => decide (n < t.h)).length + 1) ∧ Hid (j + (S.filter fun t => decide (n < t.h)).length = LL) ∧ Hid (L0.drop j = S.filter fun t => decide (n < t.h)) ∧ Hid (∃ i, p ≤ i ∧ S = HH.drop i) ∧ Hid (J u.heap.size j wr) ∧ Hid (Step W.heap.size u.heap.size u wr))
    case atStart => exact ⟨0, HH.drop p, HV6.out, by unfold Hid; rw [HLL.out, HL0.out], by unfold Hid; rw [HLL.out, HL0.out]; omega, by unfold Hid; rw [HL0.out, List.drop_zero], ⟨p, Nat.le_refl _, rfl⟩, HJ0, Step.refl _ _ _⟩
    case round =>
      obtain ⟨j, S, rfl, HGK, HJL, HDR, HSX, HJJ, HST⟩ := hrel
      have HCW := Lib.hid (HC.out _ _ _ HJJ.out)
      cases hnx : nxt n S with
      | none =>
        have hem : (S.filter fun t => decide (n < t.h)) = [] := by
          rw [List.filter_eq_nil_iff]
          intro t ht
          have := nxt_none hnx t ht
          simp; omega
        have HJE : Hid (j = LL) := by have := HJL.out; rw [hem] at this; unfold Hid; simpa using this
        clear hnx hem
        dsimp only [optp]
        gi_wp2
        go_end0
        exact ⟨⟨_, rfl⟩, .inl ⟨_, HU.out.size, by have := HJJ.out; rw [HJE.out, HLN.out] at this; exact this⟩⟩
      | some tb =>
        obtain ⟨i0, hi0, hS⟩ := HSX.out
        obtain ⟨jj, t, hjj, htb, htn, hbt⟩ := nxt_some hnx
        subst htb
        have hsplit : S = S.take jj ++ t :: S.drop (jj + 1) := by
          have h1 := (List.getElem?_eq_some_iff.1 hjj)
          obtain ⟨hl, he⟩ := h1
          rw [← he]
          exact (List.take_append_drop jj S).symm.trans (by rw [List.drop_eq_getElem_cons hl])
        have hpre : (S.take jj).filter (fun t => decide (n < t.h)) = [] := by
          rw [List.filter_eq_nil_iff]
          intro v hv
          obtain ⟨k, hk⟩ := List.mem_iff_getElem?.1 hv
          have hkl : k < jj := by have := (List.getElem?_eq_some_iff.1 hk).1; rw [List.length_take] at this; omega
          rw [List.getElem?_take, if_pos hkl] at hk
          have := hbt k v hkl hk
          simp; omega
        have hfil : (S.filter fun t => decide (n < t.h)) = t :: (S.drop (jj + 1)).filter (fun t => decide (n < t.h)) := by
          conv => lhs; rw [hsplit]
          rw [List.filter_append, hpre, List.nil_append, List.filter_cons, if_pos (by simpa using htn)]
        have hti : HH[i0 + jj]? = some t := by rw [hS, List.getElem?_drop] at hjj; exact hjj
        have hSd : S.drop (jj + 1) = HH.drop (i0 + jj + 1) := by rw [hS, List.drop_drop]; rfl
        have hTm := HCHW.out (i0 + jj) t hti
        have hins : InE t.e := by
          rw [HHH.out] at hti
          have h1 := HPL.out
          obtain ⟨q, hq⟩ : ∃ q, i0 + jj = q + 1 := ⟨i0 + jj - 1, by omega⟩
          rw [hq, List.getElem?_cons_succ] at hti
          exact HSW.out.ins t (List.mem_of_getElem? hti)
        obtain ⟨hDt, g, born, hb, hb0, hbl, hok, hov, hkk, hkv⟩ := hTm
        have hbl : born < (T.length : Int) := hbl.resolve_left (fun e => by have := hins.s.1; rw [e] at this; simp at this)
        have hlt : t.b < w.heap.size := (Array.getElem?_eq_some_iff.1 hb).1
        have hbr := (HCW.out t.b (.inl hDt) hlt).trans hb
        have hoR : Own 0 t.e.key (.slice g.kA t.e.key.length g.kc) wr := row_kept hok fun q hq => HCW.out q (.inl (hkk q hq)) (row_lt hok q hq).2
        have hvR : Own 0 t.e.val (.slice g.vA t.e.val.length g.vc) wr := row_kept hov fun q hq => HCW.out q (.inl (hkv q hq)) (row_lt hov q hq).2
        have hem : Em wr 0 N t.e g := by
          obtain ⟨a1, a2, a3, a4, a5⟩ := hins.s
          exact ⟨hoR.bs_lt fun q hq => HNB.out q (hkk q hq) (row_lt hok q hq).2, hvR.bs_lt fun q hq => HNB.out q (hkv q hq) (row_lt hov q hq).2, hins.bk, hins.bv, by omega, by omega, by rcases a5 with ⟨a, _⟩ | ⟨a, _⟩ <;> omega, by rcases a5 with ⟨a, _⟩ | ⟨a, _⟩ <;> omega⟩
        have hjlt : j < LL := by have := HJL.out; rw [hfil] at this; simp at this; omega
        have hLj : L0[j]? = some t := by
          have := HDR.out
          rw [hfil] at this
          have h1 : (L0.drop j)[0]? = some t := by rw [this]; rfl
          rw [List.getElem?_drop] at h1; exact h1
        have hY := HY.out u.heap.size j (t.e, g) wr HU.out.size HST.out.size HJJ.out (by rw [← HLN.out]; exact hjlt) ⟨t, hLj, rfl, hem⟩
        obtain ⟨fn, tmps, assign, body, hy, hR⟩ := hY
        dsimp only [rowV, Ent.at_] at hy
        have HR := Lib.hid (roundIn_any (m' := 5) hR)
        have HNXT : Hid (nextOf t (HH.drop (i0 + jj + 1)) n = optp (nxt n (S.drop (jj + 1)))) := by unfold Hid nextOf; rw [if_pos htn, hSd]
        have HFIL := Lib.hid hfil
        have HBW := Lib.hid hb
        have HDT := Lib.hid (And.intro hDt hlt)
        have HJLT := Lib.hid hjlt
        have HSX2 : Hid (∃ i, p ≤ i ∧ S.drop (jj + 1) = HH.drop i) := ⟨i0 + jj + 1, by omega, hSd⟩
        have d0 := cell_of (v := .slice g.kA t.e.key.length g.kc) hbr (k := 0) rfl
        have d1 := cell_of (v := .int .i64 t.e.seq) hbr (k := 1) rfl
        have d2 := cell_of (v := .int .i64 t.e.kind) hbr (k := 2) rfl
        have d3 := cell_of (v := .slice g.vA t.e.val.length g.vc) hbr (k := 3) rfl
        have d4 := cell_of (v := .int .i64 born) hbr (k := 4) rfl
        have db : decide (born < (T.length : Int)) = true := decide_eq_true hbl
        clear hnx hi0 hS hjj htn hbt hsplit hpre hfil hti hSd hins hDt hb hb0 hbl hok hov hkk hkv hlt hbr hoR hvR hem hjlt hLj hR
        dsimp only [optp]
        gi_wp2_with fail
        refine RoundIn.mono HR.out ?_
        rintro x W3 ⟨hst, (⟨rfl, hj⟩ | ⟨rfl, hjx⟩)⟩
        · have HST3 := Lib.hid (HST.out.trans hst)
          have HJ3 := Lib.hid hj
          have HCW3 := Lib.hid (HC.out _ _ _ hj)
          have hbr3 := (HCW3.out t.b (.inl HDT.out.1) HDT.out.2).trans HBW.out
          have qn : W3.cell? ⟨t.b, 5 + n, none⟩ = some (optp (nxt n (S.drop (jj + 1)))) := cell_of hbr3 ((tcells_next _ _ _ _ HN8.out).trans (by rw [HNXT.out]))
          have x1 : W3.cell? ⟨b1, 0, none⟩ = some (.int .i64 (n : Int)) := (World.cell?_of_block (w := w) (a := ⟨b1, 0, none⟩) (HCW3.out b1 (.inr (.inl rfl)) (World.block_lt_of_cell? _ _ HX1.out))).trans HX1.out
          have n1 : (0 : Int) ≤ (n : Int) := by omega
          have n2 : (n : Int) < 8 := by have := HN8.out; omega
          have n3 : n < 8 := HN8.out
          obtain ⟨vn, hvn⟩ : ∃ vn, vn = optp (nxt n (S.drop (jj + 1))) := ⟨_, rfl⟩
          have HVN := Lib.hid hvn
          rw [← hvn] at qn
          clear hst hj hy d0 d1 d2 d3 d4 db hbr3 hvn
          gi_wp2_with fail
          rename_i Kr hKr
          have HKR := Lib.hid hKr
          clear hKr
          refine wpIn_wide.2 ?_
          refine flow (by kernel_rfl) [Is (.pointer (some ⟨t.b, 0, none⟩)), Is (.int .i64 (n : Int)), Is (.pointer (some ⟨t.b, 0, none⟩)), Is (.pointer (some ⟨t.b, 5, none⟩)), Is (.pointer (some ⟨t.b, 5 + n, none⟩)), Is (vn), Is (vn)] (by kernel_rfl) (by kernel_rfl) ?mono4 (fun f1 => ?obl4) ?fin4
          case mono4 =>
            simp only [List.forall_mem_cons, List.not_mem_nil, false_imp_iff, implies_true, and_true]
            exact ⟨.is _, .is _, .is _, .is _, .is _, .is _, .is _⟩
          case fin4 =>
            intro g4 u4 hu hg
            simp only [puts, Act.put, List.setIfInBounds_toArray, List.set_cons_zero, List.set_cons_succ]
            have e6 : g4 6 = vn := hg 6 (by decide)
            rw [e6]
            have HU4 := Lib.hid (Ext.trans (Ext.drew W3) hu)
            have HJ4 := Lib.hid (HJ.out _ _ _ _ HU.out.size HJ3.out (Chg.of_ext HU4.out))
            have HST4 := Lib.hid (HST3.out.trans (Step.of_chg (S := fun _ => False) (Chg.of_ext HU4.out) HST3.out.size (fun _ _ _ h => h)))
            clear hu hg e6 x1 qn
            refine HKR.out _ _ ?_
            gi_roundg (((S.drop (jj + 1)).filter (fun t => decide (n < t.h))).length + 1)
            case measure => have := HGK.out; rw [HFIL.out] at this; simp at this; omega
            case rel =>
              refine ⟨j + 1, S.drop (jj + 1), HVN.out, rfl, ?_, ?_, HSX2.out, HJ4.out, HST4.out⟩
              · have := HJL.out; rw [HFIL.out] at this; simp at this; unfold Hid; omega
              · unfold Hid; rw [← List.drop_drop, HDR.out, HFIL.out]; rfl
          case obl4 =>
            refine ⟨fun u hu hd => ?_, ?_⟩
            · go_simp
              exact ⟨Ext.refl _, rfl⟩
            refine ⟨fun u hu hd => ?_, ?_⟩
            · simp only [Act.put, List.setIfInBounds_toArray, List.set_cons_zero, List.set_cons_succ]
              have hu2 := Ext.trans (Ext.drew W3) hu
              have q0 := ext_cell hu2 x1
              go_simp
              exact ⟨Ext.refl _, rfl⟩
            refine ⟨fun u hu hd => ?_, ?_⟩
            · simp only [Act.put, List.setIfInBounds_toArray, List.set_cons_zero, List.set_cons_succ]
              have e0 : f1 0 = .pointer (some ⟨t.b, 0, none⟩) := hd 0 (by kernel_rfl)
              go_simp
              exact ⟨Ext.refl _, rfl⟩
            refine ⟨fun u hu hd => ?_, ?_⟩
            · simp only [Act.put, List.setIfInBounds_toArray, List.set_cons_zero, List.set_cons_succ]
              have e2 : f1 2 = .pointer (some ⟨t.b, 0, none⟩) := hd 2 (by kernel_rfl)
              go_simp
              exact ⟨Ext.refl _, rfl⟩
            refine ⟨fun u hu hd => ?_, ?_⟩
            · simp only [Act.put, List.setIfInBounds_toArray, List.set_cons_zero, List.set_cons_succ]
              have e3 : f1 3 = .pointer (some ⟨t.b, 5, none⟩) := hd 3 (by kernel_rfl)
              have e1 : f1 1 = .int .i64 (n : Int) := hd 1 (by kernel_rfl)
              go_simp
              exact ⟨Ext.refl _, rfl⟩
            refine ⟨fun u hu hd => ?_, ?_⟩
            · simp only [Act.put, List.setIfInBounds_toArray, List.set_cons_zero, List.set_cons_succ]
              have e4 : f1 4 = .pointer (some ⟨t.b, 5 + n, none⟩) := hd 4 (by kernel_rfl)
              have hu2 := Ext.trans (Ext.drew W3) hu
              have q0 := ext_cell hu2 qn
              go_simp
              exact ⟨Ext.refl _, rfl⟩
            refine ⟨fun u hu hd => ?_, ?_⟩
            · simp only [Act.put, List.setIfInBounds_toArray, List.set_cons_zero, List.set_cons_succ]
              have e5 : f1 5 = vn := hd 5 (by kernel_rfl)
              go_simp
              exact ⟨Ext.refl _, rfl⟩
            trivial
        · have HX3 := Lib.hid hjx
          clear hst hjx hy d0 d1 d2 d3 d4 db
          gi_wp2
          refine bodyPost_ret (results_none rfl _ _ _) rfl ?_
          exact ⟨⟨_, rfl⟩, .inr HX3.out⟩
  case obl2 =>
    refine ⟨fun u hu hd => ?_, ?_⟩
    · have hu2 := Ext.trans (Ext.drew W) hu
      have q0 := ext_cell hu2 x0
      go_simp
      exact ⟨Ext.refl _, rfl⟩
    refine ⟨fun u hu hd => ?_, ?_⟩
    · simp only [Act.put, List.setIfInBounds_toArray, List.set_cons_zero, List.set_cons_succ]
      have hu2 := Ext.trans (Ext.drew W) hu
      have q0 := ext_cell hu2 x2
      go_simp
      exact ⟨Ext.refl _, rfl⟩
    refine ⟨fun u hu hd => ?_, ?_⟩
    · simp only [Act.put, List.setIfInBounds_toArray, List.set_cons_zero, List.set_cons_succ]
      have e0 : f1 0 = .pointer (some ⟨lb, 0, none⟩) := hd 0 (by kernel_rfl)
      have e1 : f1 1 = .func (.func gf) #[] caps := hd 1 (by kernel_rfl)
      have hux := Ext.trans (Ext.drew W) hu
      go_simp
      refine (before_at (HS.out.ext hux) (HAF.out.ext hux) HPQ.out (f := f) (by rw [← HHH.out, ← HP.out]; exact HF.out)).mono ?_
      rw [← HHH.out]
      rintro x9 w9 ⟨rfl, hx9⟩
      exact ⟨_, rfl, hx9, rfl⟩
    refine ⟨fun u hu hd => ?_, ?_⟩
    · simp only [Act.put, List.setIfInBounds_toArray, List.set_cons_zero, List.set_cons_succ]
      have hu2 := Ext.trans (Ext.drew W) hu
      have q0 := ext_cell hu2 x1
      go_simp
      exact ⟨Ext.refl _, rfl⟩
    refine ⟨fun u hu hd => ?_, ?_⟩
    · simp only [Act.put, List.setIfInBounds_toArray, List.set_cons_zero, List.set_cons_succ]
      have e2 : f1 2 = .agg #[.pointer (some ⟨bAt HH (f 0), 0, none⟩), .pointer (some ⟨bAt HH (f 1), 0, none⟩), .pointer (some ⟨bAt HH (f 2), 0, none⟩), .pointer (some ⟨bAt HH (f 3), 0, none⟩), .pointer (some ⟨bAt HH (f 4), 0, none⟩), .pointer (some ⟨bAt HH (f 5), 0, none⟩), .pointer (some ⟨bAt HH (f 6), 0, none⟩), .pointer (some ⟨bAt HH (f 7), 0, none⟩)] := hd 2 (by kernel_rfl)
      have e3 : f1 3 = .int .i64 (n : Int) := hd 3 (by kernel_rfl)
      have hix := HIX.out
      go_simp
      exact ⟨Ext.refl _, rfl⟩
    refine ⟨fun u hu hd => ?_, ?_⟩
    · simp only [Act.put, List.setIfInBounds_toArray, List.set_cons_zero, List.set_cons_succ]
      have hu2 := Ext.trans (Ext.drew W) hu
      have q0 := ext_cell hu2 x1
      go_simp
      exact ⟨Ext.refl _, rfl⟩
    refine ⟨fun u hu hd => ?_, ?_⟩
    · simp only [Act.put, List.setIfInBounds_toArray, List.set_cons_zero, List.set_cons_succ]
      have e4 : f1 4 = .pointer (some ⟨tl.b, 0, none⟩) := hd 4 (by kernel_rfl)
      go_simp
      exact ⟨Ext.refl _, rfl⟩
    refine ⟨fun u hu hd => ?_, ?_⟩
    · simp only [Act.put, List.setIfInBounds_toArray, List.set_cons_zero, List.set_cons_succ]
      have e6 : f1 6 = .pointer (some ⟨tl.b, 0, none⟩) := hd 6 (by kernel_rfl)
      go_simp
      exact ⟨Ext.refl _, rfl⟩
    refine ⟨fun u hu hd => ?_, ?_⟩
    · simp only [Act.put, List.setIfInBounds_toArray, List.set_cons_zero, List.set_cons_succ]
      have e7 : f1 7 = .pointer (some ⟨tl.b, 5, none⟩) := hd 7 (by kernel_rfl)
      have e5 : f1 5 = .int .i64 (n : Int) := hd 5 (by kernel_rfl)
      go_simp
      exact ⟨Ext.refl _, rfl⟩
    refine ⟨fun u hu hd => ?_, ?_⟩
    · simp only [Act.put, List.setIfInBounds_toArray, List.set_cons_zero, List.set_cons_succ]
      have e8 : f1 8 = .pointer (some ⟨tl.b, 5 + n, none⟩) := hd 8 (by kernel_rfl)
      have hu2 := Ext.trans (Ext.drew W) hu
      have q0 := ext_cell hu2 qn
      go_simp
      exact ⟨Ext.refl _, rfl⟩
    refine ⟨fun u hu hd => ?_, ?_⟩
    · simp only [Act.put, List.setIfInBounds_toArray, List.set_cons_zero, List.set_cons_succ]
      have e9 : f1 9 = v6 := hd 9 (by kernel_rfl)
      go_simp
      exact ⟨Ext.refl _, rfl⟩
    trivial
theorem row_iter {w : World} {D : Nat → Prop} {lb hb gf b0 b1 b2 n : Nat} {caps : Array Value} {T : List Tw} {q : Ent → Bool} (h : Sk w D lb hb T) (hA : AheadFn w gf caps q) (hq : (T.map Tw.e).Pairwise fun a b => q b = true → q a = true) (hn : n < 8)
    (x0 : w.cell? ⟨b0, 0, none⟩ = some (.pointer (some ⟨lb, 0, none⟩))) (x1 : w.cell? ⟨b1, 0, none⟩ = some (.int .i64 (n : Int))) (x2 : w.cell? ⟨b2, 0, none⟩ = some (.func (.func gf) #[] caps)) :
    Iter Tryd.prog 62 #[.pointer (some ⟨b0, 0, none⟩), .pointer (some ⟨b1, 0, none⟩), .pointer (some ⟨b2, 0, none⟩)] (rowOf T q n).length rowV (RowOk (rowOf T q n) w.heap.size) (RowC w D b0 b1 b2) w := row_iterN h hA hq hn (fun _ _ h => h) x0 x1 x2
end Go.Proofs.YtpfaoiickmpmjaaDoor

/- copies, From, Level: entries in new memory, gone over. -/
namespace Go.Proofs.YtpfaoiickmpmjaaDoor
open Go.ChangeShapes Go.WideShapes Go.ChangeAt Go.RowKit Go.Shelf
attribute [local go_sem] Oper.semAt_some

theorem scopies_any (gf : Nat) (caps : Array Value) (w : World) : Calls Tryd.prog 43 #[.func (.func gf) #[] caps] w fun e w' =>
    e = .returned (.func (.func 61) #[] #[.pointer (some ⟨w.heap.size, 0, none⟩)]) ∧ w' = w.alloc (.cells #[.func (.func gf) #[] caps] 35) := by
  go_enter Tryd.func43, Tryd.ntmps43
  go_wp2
  go_ret
  exact ⟨rfl, rfl⟩
theorem enters_copies1 : ∀ args w, (callFunc 61 args).run Tryd.prog w = .ok (.enter 61 args) w := enters_of Tryd.func61 (by kernel_rfl) rfl

theorem Iter.ext {P : Program} {α : Type} {gf : Nat} {lb : Array Value} {len : Nat} {encs : α → Array Value} {Ok : Nat → Nat → α → World → Prop} {C : World → Prop} {w w' : World} (h : Iter P gf lb len encs Ok C w) (hx : Ext w w') : Iter P gf lb len encs Ok C w' :=
  fun m l J Jx W hW => h m l J Jx W (Ext.trans hx hW)
/-- Of the k-th: it, in new memory. -/
def CopOk (L : List Tw) (n₁ k : Nat) (x : Ent × Hd) (A : World) : Prop := ∃ t, L[k]? = some t ∧ x.1 = t.e ∧ Own n₁ x.1.key (.slice x.2.kA x.1.key.length x.2.kc) A ∧ Own n₁ x.1.val (.slice x.2.vA x.1.val.length x.2.vc) A
/-- Between two rounds. -/
structure CopI (J : Nat → Nat → World → Prop) (b0 l : Nat) (n₁ k : Nat) (A : World) : Prop where
  j : J n₁ k A
  box : Boxed A b0 75 (.func (.yield l) #[] #[])
  le : n₁ ≤ A.heap.size

set_option maxRecDepth 100000 in
set_option maxHeartbeats 8000000 in
theorem copies_iter {w : World} {gf bd len N : Nat} {caps : Array Value} {C : World → Prop} {L : List Tw} (hin : Iter Tryd.prog gf caps len rowV (RowOk L N) C w) (hen : ∀ args w, (callFunc gf args).run Tryd.prog w = .ok (.enter gf args) w) (hN : N ≤ w.heap.size)
    (hins : ∀ t ∈ L, InE t.e) (hbd : w.cell? ⟨bd, 0, none⟩ = some (.func (.func gf) #[] caps)) :
    Iter Tryd.prog 61 #[.pointer (some ⟨bd, 0, none⟩)] len rowV (CopOk L) C w := by
  intro mm l J Jx W hx hC hJ hJx h0 hY
  have HIN := Lib.hid hin
  have HEN := Lib.hid hen
  have HNN := Lib.hid hN
  have HINS := Lib.hid hins
  have HC := Lib.hid hC
  have HJ := Lib.hid hJ
  have HJX := Lib.hid hJx
  have H0 := Lib.hid h0
  have HY := Lib.hid hY
  have HXW := Lib.hid hx
  have c1 := ext_cell hx hbd
  have c1a := cell_new c1 (.cells #[.func (.yield l) #[] #[]] 75)
  clear hin hen hN hins hC hJ hJx h0 hY hbd hx
  have hf2 : Fence.wide.fn 49 := trivial
  refine (callsIn_wide (n := 6)).1 ?_
  refine callsIn_of_wp_marks Tryd.func61 rfl trivial ?_
  simp only [Tryd.ntmps61, List.size_toArray, List.length_cons, List.length_nil, Nat.reduceAdd, Nat.reduceSub, Array.replicate_succ, Array.replicate_zero, List.push_toArray, List.append_toArray, List.nil_append, List.cons_append]
  gi_wp2_with fail
  obtain ⟨w1, hw1⟩ : ∃ w1, w1 = W.alloc (.cells #[.func (.yield l) #[] #[]] 75) := ⟨_, rfl⟩
  rw [← hw1]
  have HX1 : Hid (Ext W w1) := by rw [hw1]; exact ext_alloc _ _
  have HZ1 : Hid (w1.heap.size = W.heap.size + 1) := by rw [hw1]; simp [Hid]
  have HB0 : Hid (Boxed w1 W.heap.size 75 (.func (.yield l) #[] #[])) := by rw [hw1]; exact heap_at _ _ rfl
  clear hw1 c1 c1a
  have hchg : ∀ n₁ k A A', w1.heap.size ≤ n₁ → CopI J W.heap.size l n₁ k A → Chg (Btw w1.heap.size n₁) A A' → CopI J W.heap.size l n₁ k A' := fun n₁ k A A' hn hi hc =>
    ⟨HJ.out n₁ k A A' (Nat.le_trans HX1.out.size hn) hi.j (hc.mono fun i _ hb => ⟨Nat.le_trans HX1.out.size hb.1, hb.2⟩), boxed_chg hi.box hc (fun hb => by have := hb.1; have := HZ1.out; omega), Nat.le_trans hi.le hc.size⟩
  have HCHG := Lib.hid hchg
  clear hchg
  refine wpIn_over rfl HEN.out (Iter.ext HIN.out (Ext.trans HXW.out HX1.out)) (fun _ => rfl) (CopI J W.heap.size l) (fun c A => c = .ret ∧ Jx A) (fun n₁ k A h => HC.out n₁ k A h.j) ?hI ?hIx ?h0 ?round ?done ?stop
  case hI => intro n₁ k A A' hn hi hc; exact HCHG.out _ _ _ _ (by omega) hi hc
  case hIx => rintro c A A' ⟨rfl, hj⟩ hc; exact ⟨rfl, HJX.out A A' hj (hc.mono fun i _ (hb : w1.heap.size ≤ i) => Nat.le_trans HX1.out.size hb)⟩
  case h0 => intro A hxA; exact ⟨H0.out A (Ext.trans HX1.out hxA), ext_heap hxA HB0.out, Nat.le_refl _⟩
  case round =>
    rintro l2 n₁ k ⟨e, g⟩ A hl1 hl2 hn hnA hi hk ⟨t, hLk, hxe, hem⟩
    have hxe' : e = t.e := hxe
    subst hxe'
    have hinE := HINS.out t (List.mem_of_getElem? hLk)
    have hNw : N ≤ w1.heap.size := Nat.le_trans HNN.out (Ext.trans HXW.out HX1.out).size
    have HLK := Lib.hid hLk
    have HINE := Lib.hid hinE
    have HEM : Hid (Em A 0 N t.e g) := hem
    have HNW := Lib.hid hNw
    have HI := Lib.hid hi
    have HN := Lib.hid hn
    have HL := Lib.hid (And.intro hl1 hl2)
    have HK := Lib.hid hk
    clear hLk hxe hinE hem hNw hi hn hl1 hl2 hk hnA
    dsimp only [rowV, Ent.at_]
    gi_wp2
    refine ⟨?_, fun A2 hc => ?_⟩
    · exact Step.of_chg (Chg.alloc (S := fun _ => False) _ _) HI.out.le (fun _ _ _ h => h)
    have HBX : Hid (A2.heap[A.heap.size]? = some (.cells #[.slice g.kA t.e.key.length g.kc, .int .i64 t.e.seq, .int .i64 t.e.kind, .slice g.vA t.e.val.length g.vc] 40 (0, 0))) := (hc.block _ (by simp) (by have := HI.out.le; have := HL.out.2; omega)).trans (heap_at _ _ rfl)
    have HI2 := Lib.hid (HCHG.out _ _ _ _ (by have := HN.out; omega) (HCHG.out _ _ _ _ (by have := HN.out; omega) HI.out (Chg.alloc A (.cells #[.slice g.kA t.e.key.length g.kc, .int .i64 t.e.seq, .int .i64 t.e.kind, .slice g.vA t.e.val.length g.vc] 40))) (hc.mono fun i _ e => ⟨by have := HL.out.1; omega, by have := HL.out.2; omega⟩))
    have q0 := HI2.out.box.cell
    have c0 := cell_of (v := .slice g.kA t.e.key.length g.kc) HBX.out (k := 0) rfl
    have c1 := cell_of (v := .int .i64 t.e.seq) HBX.out (k := 1) rfl
    have c2 := cell_of (v := .int .i64 t.e.kind) HBX.out (k := 2) rfl
    have c3 := cell_of (v := .slice g.vA t.e.val.length g.vc) HBX.out (k := 3) rfl
    have hNA : N ≤ A.heap.size := by have := HNW.out; have := HN.out; have := HI.out.le; omega
    have HE2 : Hid (Em A2 0 N t.e g) := (HEM.out.below (ext_alloc A (.cells #[.slice g.kA t.e.key.length g.kc, .int .i64 t.e.seq, .int .i64 t.e.kind, .slice g.vA t.e.val.length g.vc] 40)) hNA).keepC (by simp; omega) hc (fun i hi => .inr (by have := HL.out.1; have := HNW.out; omega))
    have HSZ2 : Hid (A.heap.size ≤ A2.heap.size) := by have := hc.size; simp at this; exact Nat.le_trans (Nat.le_succ _) this
    have HL2 : Hid (n₁ ≤ A2.heap.size) := Nat.le_trans HI.out.le HSZ2.out
    have HN2 : Hid (N ≤ A2.heap.size) := Nat.le_trans hNA HSZ2.out
    clear hc hNA
    have HCY := Lib.hid (copy_any (w := A2.drew) (show Em A2.drew 0 N t.e g from HE2.out.below (Ext.drew A2) HN2.out) HN2.out (by have := HINE.out.s; omega) (by have := HINE.out.s; omega))
    unfold Ent.at_ at HCY
    gi_wp2_with fail
    have HMIX : Tryd.prog.follows .mixedOrders = true := by kernel_rfl
    gi_region_with_o (first
     | (gi_at_call 49
        go_loud (
         refine CallsIn.mono (CallsIn.inRound l2 (callsIn_wide.2 HCY.out)) ?_
         rintro e A3 ⟨hx3, g3, rfl, ok, ov⟩
         have HI3 := Lib.hid (HCHG.out n₁ k A2 A3 (by have := HN.out; omega) HI2.out ((Chg.drew A2).trans (Chg.of_ext hx3)))
         have HRD := HY.out n₁ k (t.e, g3) A3 (by have := HN.out; have := HZ1.out; omega) (Nat.le_trans HL2.out hx3.size) HI3.out.j HK.out ⟨t, HLK.out, rfl, ok.base HL2.out, ov.base HL2.out⟩
         obtain ⟨fn, tmps, assign, body, hy, hR⟩ := HRD
         dsimp only [rowV, Ent.at_] at hy
         unfold Ent.at_
         have HR := Lib.hid (roundIn_any (m' := 3) hR)
         have HB3 := Lib.hid hx3
         have q3 := HI3.out.box.cell
         clear hR ok ov hx3))
     | (refine RoundIn.mono (F := Fence.wide.inRound l2) (n := 3) HR.out ?_
        go_loud (
         rintro e A4 ⟨hst, hh⟩
         obtain ⟨gb, rfl, hj⟩ : ∃ gb : Bool, e = .returned (.bool gb) ∧ Hid (match gb with | true => J n₁ (k + 1) A4 | false => Jx A4) := by rcases hh with ⟨rfl, hj⟩ | ⟨rfl, hj⟩ <;> exact ⟨_, rfl, hj⟩
         have HST := Lib.hid hst
         clear hst hh)))
    all_goals cases gb
    all_goals gi_wp2_with fail
    all_goals first
      | (have hst := HST.out
         have hs1 := HX1.out.size
         have hn := HN.out
         have hz := HZ1.out
         have hs23 : Step w1.heap.size n₁ A2 A3 := Step.of_chg (S := fun _ => False) ((Chg.drew A2).trans (Chg.of_ext HB3.out)) HL2.out (fun _ _ _ h => h)
         have hs34 : Step w1.heap.size n₁ A3 A4 := ⟨fun i h1 h2 => hst.stay i (by omega) h2, hst.os, hst.tape, hst.output, hst.size⟩
         have hle : n₁ ≤ A3.heap.size := HI3.out.le
         first
           | exact ⟨hs23.trans hs34, ⟨hj.out, (hst.stay W.heap.size (Nat.le_refl _) (by omega)).trans HI3.out.box, Nat.le_trans hle hst.size⟩⟩
           | exact ⟨hs23.trans hs34, rfl, hj.out⟩)
  case done =>
    rintro D' n₁ W' hDl hDn hn hi hD
    have HDL := Lib.hid (And.intro hDl hDn)
    have HI := Lib.hid hi
    have HN := Lib.hid hn
    have HDD := Lib.hid hD
    clear hDl hDn hn hi hD
    gi_wp2
    refine ⟨by simp, .inl ⟨_, _, rfl, run_takeDeferred HDD.out, ?_⟩⟩
    refine ⟨_, results_none rfl _ _ _, ⟨⟨_, rfl⟩, .inl ⟨n₁, by have := HN.out; have := HZ1.out; omega, ?_⟩⟩⟩
    exact HJ.out n₁ _ _ _ (by have := HN.out; have := HZ1.out; omega) HI.out.j ((putObj_chg W' D' _).mono fun i _ e => ⟨by have := HDL.out.1; have := HZ1.out; omega, by have := HDL.out.2; omega⟩)
  case stop =>
    rintro D' c W' hDl ⟨rfl, hjx⟩ hD
    have HDL := Lib.hid hDl
    have HJX2 := Lib.hid hjx
    have HDD := Lib.hid hD
    clear hDl hjx hD
    gi_wp2
    refine ⟨by simp, .inl ⟨_, _, rfl, run_takeDeferred HDD.out, ?_⟩⟩
    refine ⟨_, results_none rfl _ _ _, ⟨⟨_, rfl⟩, .inr ?_⟩⟩
    exact HJX.out _ _ HJX2.out ((putObj_chg W' D' _).mono fun i _ e => by have := HDL.out; have := HZ1.out; show W.heap.size ≤ i; omega)
end Go.Proofs.YtpfaoiickmpmjaaDoor

/- The reference's Same; the law's going over what Latest tells. -/
namespace Go.Proofs.YtpfaoiickmpmjaaDoor
open Go.RowKit Go.Shelf Go.ChangeShapes Go.WideShapes Go.ChangeAt

set_option maxRecDepth 100000 in
theorem cv_any {w : World} {lo hi : Nat} {A : Option Addr} {c : Nat} {l : List Nat} (h : Bs w lo hi (.slice A l.length c) l) : (convert 22 9 (.slice A l.length c)).run Tryd.prog w = .ok (.string (tx l)) w := by
  obtain ⟨A', c', he, _, _, _, hy⟩ := h
  injection he with e1 _ e3
  subst e1 e3
  exact run_text (P := Tryd.prog) w 22 5 Tryd.underlying22 Tryd.underlying5 hy l.length c rfl 9 Tryd.underlying9
attribute [local go_sem] Oper.semAt_some

set_option maxHeartbeats 2000000 in
theorem rsame_any {w : World} {lo hi lo2 hi2 : Nat} {a b : Ent} {g h : Hd} (hu : Em w lo hi a g) (hv : Em w lo2 hi2 b h) (h1 : hi ≤ w.heap.size) (h2 : hi2 ≤ w.heap.size) :
    Calls Tryd.prog 22 #[a.at_ g, b.at_ h] w fun e w' => ∃ z : Bool, (z = true ↔ a = b) ∧ e = .returned (.bool z) ∧ Ext w w' := by
  obtain ⟨w1, hw1⟩ : ∃ w1, w1 = (w.alloc (.cells #[.slice g.kA a.key.length g.kc, .int .i64 a.seq, .int .i64 a.kind, .slice g.vA a.val.length g.vc] 40)).alloc (.cells #[.slice h.kA b.key.length h.kc, .int .i64 b.seq, .int .i64 b.kind, .slice h.vA b.val.length h.vc] 40) := ⟨_, rfl⟩
  have HX : Hid (Ext w w1) := by rw [hw1]; exact Ext.trans (ext_alloc _ _) (ext_alloc _ _)
  have cvn : ∀ (X : Option Addr) (c : Nat) (l : List Nat) (lo hi : Nat), hi ≤ w.heap.size → Bs w lo hi (.slice X l.length c) l → (convert 22 9 (.slice X l.length c)).run Tryd.prog w1 = .ok (.string (tx l)) w1 := fun X c l lo hi hh hb => cv_any (hb.below HX.out hh)
  have v1 := cvn _ _ _ _ _ h1 hu.k
  have v2 := cvn _ _ _ _ _ h2 hv.k
  have v3 := cvn _ _ _ _ _ h1 hu.v
  have v4 := cvn _ _ _ _ _ h2 hv.v
  have t1 := tx_same hu.bk hv.bk
  have t2 := tx_same hu.bv hv.bv
  rw [hw1] at v1 v2 v3 v4
  clear cvn hu hv h1 h2
  unfold Ent.at_
  rw [hw1] at HX
  clear hw1
  by_cases hk : a.key = b.key
  · rw [decide_eq_true hk] at t1
    by_cases hs : a.seq = b.seq
    · have d1 : (a.seq == b.seq) = true := by simp [hs]
      by_cases hd : a.kind = b.kind
      · have d2 : (a.kind == b.kind) = true := by simp [hd]
        obtain ⟨z, hz⟩ : ∃ z, z = decide (a.val = b.val) := ⟨_, rfl⟩
        rw [← hz] at t2
        have HZ : Hid (z = true ↔ a = b) := by rw [hz]; unfold Hid; rw [decide_eq_true_eq]; exact ⟨fun h => Ent.ext hk hs hd h, fun h => by rw [h]⟩
        clear hk hs hd hz
        go_enter Tryd.func22, Tryd.ntmps22
        go_wp2_with fail
        go_ret
        exact ⟨z, HZ.out, by cases z <;> rfl, HX.out⟩
      · have d2 : (a.kind == b.kind) = false := by simp [hd]
        have HZ : Hid (false = true ↔ a = b) := ⟨fun h => (by cases h), fun h => absurd (by rw [h]) hd⟩
        clear hk hs hd t2
        go_enter Tryd.func22, Tryd.ntmps22
        go_wp2_with fail
        go_ret
        exact ⟨false, HZ.out, rfl, HX.out⟩
    · have d1 : (a.seq == b.seq) = false := by simp [hs]
      have HZ : Hid (false = true ↔ a = b) := ⟨fun h => (by cases h), fun h => absurd (by rw [h]) hs⟩
      clear hk hs t2
      go_enter Tryd.func22, Tryd.ntmps22
      go_wp2_with fail
      go_ret
      exact ⟨false, HZ.out, rfl, HX.out⟩
  · rw [decide_eq_false hk] at t1
    have HZ : Hid (false = true ↔ a = b) := ⟨fun h => (by cases h), fun h => absurd (by rw [h]) hk⟩
    clear hk t2
    go_enter Tryd.func22, Tryd.ntmps22
    go_wp2_with fail
    go_ret
    exact ⟨false, HZ.out, rfl, HX.out⟩

theorem results_cell_bool {fn : Func} {p : Tmp} (h : fn.results = #[.cell p 4]) (tmps : Array Value) (w : World) (g : Nat) (z : Bool) (hp : tmps.getD p undef = .pointer (some ⟨g, 0, none⟩)) (hc : w.cell? ⟨g, 0, none⟩ = some (.bool z)) :
    (results fn tmps).run Tryd.prog w = .ok (.bool z) w := by
  simp only [results, h]
  have hp' : tmps[p]?.getD undef = .pointer (some ⟨g, 0, none⟩) := by simpa using hp
  simp [Sem.run_bind, hp', go_sem, hc]
theorem SeenV.stay {B sb : Nat} {v : Value} {R : List (Ent × Hd)} {A A' : World} (h : SeenV B sb v R A) (hs : Stay B A.heap.size A A') (hb : B ≤ sb) : SeenV B sb v R A' :=
  ⟨(hs sb hb h.box.lt).trans h.box, rowN_kept h.row fun g hg => hs g (rowN_lt h.row g hg).1 (rowN_lt h.row g hg).2.1,
    fun p hp => ⟨row_kept (h.each p hp).k fun g hg => hs g (row_lt (h.each p hp).k g hg).1 (row_lt (h.each p hp).k g hg).2, row_kept (h.each p hp).v fun g hg => hs g (row_lt (h.each p hp).v g hg).1 (row_lt (h.each p hp).v g hg).2, (h.each p hp).good⟩⟩

/-- Between two rounds. -/
structure OverI (w w3 : World) (X : Option Addr) (N c : Nat) (n₁ k : Nat) (A : World) : Prop where
  stay : Stay (w.heap.size + 4) w3.heap.size w3 A
  below : Below w.heap.size w A
  num : Boxed A (w.heap.size + 3) 3 (.int .i64 (k : Int))
  res : Boxed A (w.heap.size + 2) 4 (.bool false)
  most : Boxed A (w.heap.size + 1) 3 (.int .i64 0)
  want : Boxed A w.heap.size 26 (.slice X N c)
  z3 : w3.heap.size ≤ A.heap.size
  z1 : n₁ ≤ A.heap.size

end Go.Proofs.YtpfaoiickmpmjaaDoor

/- goes: a law goes over entries. -/
namespace Go.Proofs.YtpfaoiickmpmjaaDoor
open Go.ChangeShapes Go.WideShapes Go.ChangeAt Go.RowKit Go.Shelf
attribute [local go_sem] Oper.semAt_some

theorem copies_some (g : Nat) (w : World) : (binOp .eql 35 (.func (.func 61) #[] #[.pointer (some ⟨g, 0, none⟩)]) .nilFunc).run Tryd.prog w = .ok (.bool false) w := by kernel_rfl
/-- Between two rounds. -/
structure GoesI (w : World) (X : Option Addr) (N c : Nat) (most : Int) (n₁ k : Nat) (A : World) : Prop where
  below : Below w.heap.size w A
  num : Boxed A (w.heap.size + 3) 3 (.int .i64 (k : Int))
  res : Boxed A (w.heap.size + 2) 4 (.bool false)
  most : Boxed A (w.heap.size + 1) 3 (.int .i64 most)
  want : Boxed A w.heap.size 26 (.slice X N c)
  z1 : n₁ ≤ A.heap.size

set_option maxRecDepth 100000 in
set_option maxHeartbeats 8000000 in
theorem goes_any {w : World} {bd lo2 hi2 c2 : Nat} {X : Option Addr} {L2 : List (Ent × Hd)} {L : List Tw} {C : World → Prop} {most : Int} (hseq : Iter Tryd.prog 61 #[.pointer (some ⟨bd, 0, none⟩)] L.length rowV (CopOk L) C w) (hC : ∀ A, Below w.heap.size w A → C A) (hins : ∀ t ∈ L, InE t.e)
    (h2 : Es w lo2 hi2 X L2) (hhi2 : hi2 ≤ w.heap.size) (hl2 : L2.length ≤ 1000000000000) (hfit : L.map Tw.e = L2.map Prod.fst) :
    Calls Tryd.prog 18 #[.func (.func 61) #[] #[.pointer (some ⟨bd, 0, none⟩)], .slice X L2.length c2, .int .i64 most] w fun e w' => e = .returned (.bool true) ∧ Below w.heap.size w w' := by
  obtain ⟨w1, hw1⟩ : ∃ w1, w1 = (((w.alloc (.cells #[.slice X L2.length c2] 26)).alloc (.cells #[.int .i64 most] 3)).alloc (.cells #[.bool false] 4)).alloc (.cells #[.int .i64 0] 3) := ⟨_, rfl⟩
  have HX1 : Hid (Ext w w1) := by rw [hw1]; exact Ext.trans (Ext.trans (Ext.trans (ext_alloc _ _) (ext_alloc _ _)) (ext_alloc _ _)) (ext_alloc _ _)
  have HZ1 : Hid (w1.heap.size = w.heap.size + 4) := by rw [hw1]; simp [Hid]
  have HB0 : Hid (Boxed w1 w.heap.size 26 (.slice X L2.length c2)) := by rw [hw1]; exact ext_heap (Ext.trans (Ext.trans (ext_alloc _ _) (ext_alloc _ _)) (ext_alloc _ _)) (heap_at _ _ rfl)
  have HB1 : Hid (Boxed w1 (w.heap.size + 1) 3 (.int .i64 most)) := by rw [hw1]; exact ext_heap (Ext.trans (ext_alloc _ _) (ext_alloc _ _)) (heap_at _ _ (by simp))
  have HB2 : Hid (Boxed w1 (w.heap.size + 2) 4 (.bool false)) := by rw [hw1]; exact ext_heap (ext_alloc _ _) (heap_at _ _ (by simp))
  have HB3 : Hid (Boxed w1 (w.heap.size + 3) 3 (.int .i64 0)) := by rw [hw1]; exact heap_at _ _ (by simp)
  have HSEQ := Lib.hid hseq
  have HC := Lib.hid hC
  have HINS := Lib.hid hins
  have HE2 := Lib.hid h2
  have HHI2 := Lib.hid hhi2
  have HL2 := Lib.hid hl2
  have HFIT := Lib.hid hfit
  have hlen : L.length = L2.length := by have := congrArg List.length hfit; simpa using this
  have HLEN := Lib.hid hlen
  have hlI : (L2.length : Int) ≤ 1000000000000 := by omega
  have hfn := copies_some bd
  clear hseq hC hins h2 hhi2 hl2 hfit hlen
  have hf2 : Fence.wide.fn 22 := trivial
  refine (callsIn_wide (n := 6)).1 ?_
  refine callsIn_of_wp_marks Tryd.func18 rfl trivial ?_
  simp only [Tryd.ntmps18, List.size_toArray, List.length_cons, List.length_nil, Nat.reduceAdd, Nat.reduceSub, Array.replicate_succ, Array.replicate_zero, List.push_toArray, List.append_toArray, List.nil_append, List.cons_append]
  gi_wp2_with fail
  rw [← hw1]
  clear hw1 hfn
  refine wpIn_over rfl enters_copies1 (Iter.ext HSEQ.out HX1.out) (fun _ => rfl) (GoesI w X L2.length c2 most) (fun c A => c = .ret ∧ Boxed A (w.heap.size + 2) 4 (.bool true) ∧ Below w.heap.size w A) (fun _ _ _ h => HC.out _ h.below) ?hI ?hIx ?h0 ?round ?done ?stop
  case hI =>
    intro n₁ k A1 A2 hn hi hc
    have z1 := HZ1.out
    exact ⟨hi.below.trans (hc.below (fun i hb => by have := hb.1; omega) hi.below.size), boxed_chg hi.num hc (fun hb => by have := hb.1; omega), boxed_chg hi.res hc (fun hb => by have := hb.1; omega),
      boxed_chg hi.most hc (fun hb => by have := hb.1; omega), boxed_chg hi.want hc (fun hb => by have := hb.1; omega), Nat.le_trans hi.z1 hc.size⟩
  case hIx =>
    rintro c A1 A2 ⟨rfl, hb, hbl⟩ hc
    have z1 := HZ1.out
    exact ⟨rfl, boxed_chg hb hc (fun h => by have h : w1.heap.size ≤ _ := h; omega), hbl.trans (hc.below (fun i h => by have h : w1.heap.size ≤ i := h; omega) hbl.size)⟩
  case h0 =>
    intro A1 hx
    exact ⟨Ext.trans HX1.out hx, ext_heap hx HB3.out, ext_heap hx HB2.out, ext_heap hx HB1.out, ext_heap hx HB0.out, Nat.le_refl _⟩
  case round =>
    rintro l2 n₁ k ⟨e, g⟩ A1 hl1 hl2 hn hnA hi hk ⟨p, hp, he, hmk, hmv⟩
    have he' : e = p.e := he
    subst he'
    have HINE := Lib.hid (HINS.out p (List.mem_of_getElem? hp))
    have HMK := Lib.hid hmk
    have HMV := Lib.hid hmv
    have HI1 := Lib.hid hi
    have HN1 := Lib.hid hn
    have HL12 := Lib.hid (And.intro hl1 hl2)
    have HK1 := Lib.hid hk
    obtain ⟨q, hq⟩ : ∃ q, L2[k]? = some q := ⟨_, List.getElem?_eq_getElem (by have := HLEN.out; omega)⟩
    have heq : p.e = q.1 := by
      have h1 := congrArg (fun l => l[k]?) HFIT.out
      simp only [List.getElem?_map, hp, hq, Option.map_some] at h1
      injection h1 with h1
    have HQ := Lib.hid hq
    have HEQ := Lib.hid heq
    obtain ⟨e, he⟩ : ∃ e, e = p.e := ⟨_, rfl⟩
    rw [← he] at HINE HMK HMV HEQ ⊢
    clear hl1 hl2 hn hnA hi hk hp hmk hmv hq heq he
    dsimp only at HMK HMV
    dsimp only [rowV, Ent.at_]
    gi_wp2
    obtain ⟨A2, hA2⟩ : ∃ A2, A2 = A1.alloc (.cells #[.slice g.kA e.key.length g.kc, .int .i64 e.seq, .int .i64 e.kind, .slice g.vA e.val.length g.vc] 40) := ⟨_, rfl⟩
    rw [← hA2]
    have HX2 : Hid (Ext A1 A2) := by rw [hA2]; exact ext_alloc _ _
    have HBE : Hid (A2.heap[A1.heap.size]? = some (.cells #[.slice g.kA e.key.length g.kc, .int .i64 e.seq, .int .i64 e.kind, .slice g.vA e.val.length g.vc] 40 (0, 0))) := by rw [hA2]; exact heap_at _ _ rfl
    clear hA2
    refine ⟨Step.of_chg (S := fun _ => False) (Chg.of_ext HX2.out) HI1.out.z1 (fun _ _ _ h => h), fun A3 hc => ?_⟩
    have HCH : Hid (Chg (fun i => i = l2) A1 A3) := (Chg.of_ext HX2.out).trans hc
    have HI3 : Hid (GoesI w X L2.length c2 most n₁ k A3) := by
      have hi := HI1.out
      have h12 := HL12.out
      have hc := HCH.out
      have z1 := HZ1.out
      exact ⟨hi.below.trans (hc.below (fun i hb => by omega) hi.below.size), boxed_chg hi.num hc (fun hb => by omega), boxed_chg hi.res hc (fun hb => by omega),
        boxed_chg hi.most hc (fun hb => by omega), boxed_chg hi.want hc (fun hb => by omega), Nat.le_trans hi.z1 hc.size⟩
    have HM3 : Hid (Em A3 0 A3.heap.size e g) := by
      obtain ⟨a1, a2, a3, a4, a5⟩ := HINE.out.s
      have k3 : Own n₁ e.key (.slice g.kA e.key.length g.kc) A3 := row_chg HMK.out HCH.out (fun i h1 h2 => by have := HL12.out.2; omega)
      have v3 : Own n₁ e.val (.slice g.vA e.val.length g.vc) A3 := row_chg HMV.out HCH.out (fun i h1 h2 => by have := HL12.out.2; omega)
      exact k3.em v3 HINE.out.bk HINE.out.bv (by omega) (by omega) (by rcases a5 with ⟨a, _⟩ | ⟨a, _⟩ <;> omega) (by rcases a5 with ⟨a, _⟩ | ⟨a, _⟩ <;> omega)
    have HB3' : Hid (A3.heap[A1.heap.size]? = some (.cells #[.slice g.kA e.key.length g.kc, .int .i64 e.seq, .int .i64 e.kind, .slice g.vA e.val.length g.vc] 40 (0, 0))) :=
      (hc.block _ (Array.getElem?_eq_some_iff.1 HBE.out).1 (fun e => by have := HI1.out.z1; have := HL12.out.2; omega)).trans HBE.out
    have HE3 := Lib.hid (HE2.out.below HI3.out.below HHI2.out)
    obtain ⟨b, o, rfl⟩ := HE3.out.base (by have := (List.getElem?_eq_some_iff.1 HQ.out).1; omega)
    obtain ⟨d0, d1, d2, d3⟩ := HE3.out.get HQ.out
    have HRS : Hid (∀ u, Ext A3 u → Calls Tryd.prog 22 #[.agg #[.slice g.kA e.key.length g.kc, .int .i64 e.seq, .int .i64 e.kind, .slice g.vA e.val.length g.vc], .agg #[.slice q.2.kA q.1.key.length q.2.kc, .int .i64 q.1.seq, .int .i64 q.1.kind, .slice q.2.vA q.1.val.length q.2.vc]] u fun x w' => x = .returned (.bool true) ∧ Ext u w') := fun u hu => by
      refine (rsame_any (HM3.out.below hu (Nat.le_refl _)) (((HE3.out.below hu (Nat.le_trans HHI2.out HI3.out.below.size)).each q (List.mem_of_getElem? HQ.out))) hu.size (Nat.le_trans (Nat.le_trans HHI2.out HI3.out.below.size) hu.size)).mono ?_
      rintro x w' ⟨z, hz, rfl, hx⟩
      have : z = true := hz.2 HEQ.out
      subst this
      exact ⟨rfl, hx⟩
    have b0 := HI3.out.num.cell
    have f0 := HI3.out.num.frozen
    have b1 := HI3.out.want.cell
    have b2 := HI3.out.most.cell
    have e0 := cell_of HB3'.out (k := 0) rfl
    have e1 := cell_of HB3'.out (k := 1) rfl
    have e2 := cell_of HB3'.out (k := 2) rfl
    have e3 := cell_of HB3'.out (k := 3) rfl
    have hkl : k < L2.length := (List.getElem?_eq_some_iff.1 HQ.out).1
    have dk : decide ((L2.length : Int) ≤ (k : Int)) = false := by simp; omega
    have dkn : decide (L2.length ≤ k) = false := by simp; omega
    have n1 : (0 : Int) ≤ (k : Int) := by omega
    have n2 : (k : Int) < (L2.length : Int) := by omega
    have HKL := Lib.hid hkl
    have HMIX : Tryd.prog.follows .mixedOrders = true := by kernel_rfl
    clear hc hkl
    gi_wp2
    refine flow_in HMIX (by kernel_rfl) (fun _ _ h => h) [Is (.int .i64 (k : Int)), Is (.slice (some ⟨b, o, none⟩) L2.length c2), Is (.int .i64 (L2.length : Int)), Is (.bool false), Is (.bool false), Is (.agg #[.slice g.kA e.key.length g.kc, .int .i64 e.seq, .int .i64 e.kind, .slice g.vA e.val.length g.vc]), Is (.slice (some ⟨b, o, none⟩) L2.length c2), Is (.int .i64 (k : Int)), Is (.pointer (some ⟨b, o + k * 4, none⟩)), Is (.agg #[.slice q.2.kA q.1.key.length q.2.kc, .int .i64 q.1.seq, .int .i64 q.1.kind, .slice q.2.vA q.1.val.length q.2.vc]), Is (.bool true), Is (.bool false), Is (.bool false)] (by kernel_rfl) (by kernel_rfl) ?mono (fun f1 => ?obl) ?fin
    case mono =>
      simp only [List.forall_mem_cons, List.not_mem_nil, false_imp_iff, implies_true, and_true]
      exact ⟨.is _, .is _, .is _, .is _, .is _, .is _, .is _, .is _, .is _, .is _, .is _, .is _, .is _⟩
    case fin =>
      intro g1 u hu hg
      simp only [puts, Act.put, List.setIfInBounds_toArray, List.set_cons_zero, List.set_cons_succ]
      have h12 : g1 12 = .bool false := hg 12 (by decide)
      rw [h12]
      have HU : Hid (Ext A3 u) := Ext.trans (Ext.drew A3) hu
      have b0 := ext_cell HU.out b0
      have b2 := ext_cell HU.out b2
      have f0 : u.frozen? ⟨w.heap.size + 3, 0, none⟩ = false := Boxed.frozen (ext_heap HU.out HI3.out.num)
      have hres := ext_heap HU.out HI3.out.res
      have r0 := Boxed.cell hres
      have rf := Boxed.frozen hres
      have HRES := Lib.hid hres
      clear h12 hg hu e0 e1 e2 e3 d0 d1 d2 d3 hres
      have hi := HI3.out
      have hnum : Boxed u (w.heap.size + 3) 3 (.int .i64 (k : Int)) := ext_heap HU.out hi.num
      have HNUM := Lib.hid hnum
      clear hi hnum
      by_cases hm : (k : Int) + 1 = most
      · have dm : ((k : Int) + 1 == most) = true := by simpa using hm
        clear hm
        gi_wp2
        have hi := HI3.out
        have z1 := HZ1.out
        have hS : Chg (fun i => i = w.heap.size + 3 ∨ i = w.heap.size + 2) A3 ((u.setCell ⟨w.heap.size + 3, 0, none⟩ (.int .i64 ((k : Int) + 1))).setCell ⟨w.heap.size + 2, 0, none⟩ (.bool true)) := ((Chg.of_ext HU.out).trans (Chg.setCell _ _ _ (.inl rfl))).trans (Chg.setCell _ _ _ (.inr rfl))
        have hb2 : Boxed (u.setCell ⟨w.heap.size + 3, 0, none⟩ (.int .i64 ((k : Int) + 1))) (w.heap.size + 2) 4 (.bool false) := (Below.heap_setCell _ _ _ _ (by show w.heap.size + 2 ≠ w.heap.size + 3; omega)).trans HRES.out
        exact ⟨Step.of_chg hS hi.z1 (fun i h1 h2 h3 => by omega), rfl, hb2.set _, hi.below.trans (hS.below (fun i hb => by omega) hi.below.size)⟩
      · have dm : ((k : Int) + 1 == most) = false := by simpa using hm
        clear hm
        gi_wp2
        have hi := HI3.out
        have hS : Chg (fun i => i = w.heap.size + 3) A3 (u.setCell ⟨w.heap.size + 3, 0, none⟩ (.int .i64 ((k : Int) + 1))) := (Chg.of_ext HU.out).trans (Chg.setCell _ _ _ rfl)
        have z1 := HZ1.out
        exact ⟨Step.of_chg hS hi.z1 (fun i h1 h2 h3 => by omega), hi.below.trans (hS.below (fun i hb => by omega) hi.below.size), HNUM.out.set _, boxed_chg hi.res hS (fun hb => by omega),
          boxed_chg hi.most hS (fun hb => by omega), boxed_chg hi.want hS (fun hb => by omega), Nat.le_trans hi.z1 hS.size⟩
    case obl =>
      refine ⟨fun u hu hd => ?_, ?_⟩
      · have hu2 := Ext.trans (Ext.drew A3) hu
        have q1 := ext_cell hu2 b0
        go_simp
        exact ⟨Ext.refl _, rfl⟩
      refine ⟨fun u hu hd => ?_, ?_⟩
      · simp only [Act.put, List.setIfInBounds_toArray, List.set_cons_zero, List.set_cons_succ]
        have hu2 := Ext.trans (Ext.drew A3) hu
        have q1 := ext_cell hu2 b1
        go_simp
        exact ⟨Ext.refl _, rfl⟩
      refine ⟨fun u hu hd => ?_, ?_⟩
      · simp only [Act.put, List.setIfInBounds_toArray, List.set_cons_zero, List.set_cons_succ]
        have e1 : f1 1 = (.slice (some ⟨b, o, none⟩) L2.length c2) := hd 1 (by kernel_rfl)
        go_simp
        exact ⟨Ext.refl _, rfl⟩
      refine ⟨fun u hu hd => ?_, ?_⟩
      · simp only [Act.put, List.setIfInBounds_toArray, List.set_cons_zero, List.set_cons_succ]
        have e0 : f1 0 = (.int .i64 (k : Int)) := hd 0 (by kernel_rfl)
        have e2 : f1 2 = (.int .i64 (L2.length : Int)) := hd 2 (by kernel_rfl)
        go_simp
        exact ⟨Ext.refl _, rfl⟩
      refine ⟨fun u hu hd => ?_, ?_⟩
      · simp only [Act.put, List.setIfInBounds_toArray, List.set_cons_zero, List.set_cons_succ]
        have e3 : f1 3 = (.bool false) := hd 3 (by kernel_rfl)
        go_simp
        exact ⟨Ext.refl _, rfl⟩
      refine ⟨fun u hu hd => ?_, ?_⟩
      · simp only [Act.put, List.setIfInBounds_toArray, List.set_cons_zero, List.set_cons_succ]
        have e4' : f1 4 = .bool false := hd 4 (by kernel_rfl)
        have hu2 := Ext.trans (Ext.drew A3) hu
        have q0 := ext_cell hu2 e0
        have q1 := ext_cell hu2 e1
        have q2 := ext_cell hu2 e2
        have q3 := ext_cell hu2 e3
        go_simp
        exact ⟨Ext.refl _, rfl⟩
      refine ⟨fun u hu hd => ?_, ?_⟩
      · simp only [Act.put, List.setIfInBounds_toArray, List.set_cons_zero, List.set_cons_succ]
        have e4' : f1 4 = .bool false := hd 4 (by kernel_rfl)
        have hu2 := Ext.trans (Ext.drew A3) hu
        have q1 := ext_cell hu2 b1
        go_simp
        exact ⟨Ext.refl _, rfl⟩
      refine ⟨fun u hu hd => ?_, ?_⟩
      · simp only [Act.put, List.setIfInBounds_toArray, List.set_cons_zero, List.set_cons_succ]
        have e4' : f1 4 = .bool false := hd 4 (by kernel_rfl)
        have hu2 := Ext.trans (Ext.drew A3) hu
        have q1 := ext_cell hu2 b0
        go_simp
        exact ⟨Ext.refl _, rfl⟩
      refine ⟨fun u hu hd => ?_, ?_⟩
      · simp only [Act.put, List.setIfInBounds_toArray, List.set_cons_zero, List.set_cons_succ]
        have e4' : f1 4 = .bool false := hd 4 (by kernel_rfl)
        have e6 : f1 6 = (.slice (some ⟨b, o, none⟩) L2.length c2) := hd 6 (by kernel_rfl)
        have e7 : f1 7 = (.int .i64 (k : Int)) := hd 7 (by kernel_rfl)
        go_simp
        exact ⟨Ext.refl _, rfl⟩
      refine ⟨fun u hu hd => ?_, ?_⟩
      · simp only [Act.put, List.setIfInBounds_toArray, List.set_cons_zero, List.set_cons_succ]
        have e4' : f1 4 = .bool false := hd 4 (by kernel_rfl)
        have e8 : f1 8 = (.pointer (some ⟨b, o + k * 4, none⟩)) := hd 8 (by kernel_rfl)
        have hu2 := Ext.trans (Ext.drew A3) hu
        have q0 := ext_cell hu2 d0
        have q1 := ext_cell hu2 d1
        have q2 := ext_cell hu2 d2
        have q3 := ext_cell hu2 d3
        go_simp
        exact ⟨Ext.refl _, rfl⟩
      refine ⟨fun u hu hd => ?_, ?_⟩
      · simp only [Act.put, List.setIfInBounds_toArray, List.set_cons_zero, List.set_cons_succ]
        have e4' : f1 4 = .bool false := hd 4 (by kernel_rfl)
        have e5 : f1 5 = (.agg #[.slice g.kA e.key.length g.kc, .int .i64 e.seq, .int .i64 e.kind, .slice g.vA e.val.length g.vc]) := hd 5 (by kernel_rfl)
        have e9 : f1 9 = (.agg #[.slice q.2.kA q.1.key.length q.2.kc, .int .i64 q.1.seq, .int .i64 q.1.kind, .slice q.2.vA q.1.val.length q.2.vc]) := hd 9 (by kernel_rfl)
        have hu2 := Ext.trans (Ext.drew A3) hu
        go_simp
        refine (HRS.out u hu2).mono ?_
        rintro x w9 ⟨rfl, hx9⟩
        exact ⟨_, rfl, hx9, rfl⟩
      refine ⟨fun u hu hd => ?_, ?_⟩
      · simp only [Act.put, List.setIfInBounds_toArray, List.set_cons_zero, List.set_cons_succ]
        have e4' : f1 4 = .bool false := hd 4 (by kernel_rfl)
        have e10 : f1 10 = (.bool true) := hd 10 (by kernel_rfl)
        go_simp
        exact ⟨Ext.refl _, rfl⟩
      refine ⟨fun u hu hd => ?_, ?_⟩
      · simp only [Act.put, List.setIfInBounds_toArray, List.set_cons_zero, List.set_cons_succ]
        have e4' : f1 4 = .bool false := hd 4 (by kernel_rfl)
        have e11 : f1 11 = (.bool false) := hd 11 (by kernel_rfl)
        go_simp
        exact ⟨Ext.refl _, rfl⟩
      trivial
  case done =>
    rintro D' n₁ W' hDl hDn hn hi hD
    rw [HLEN.out] at hi
    have HDL := Lib.hid (And.intro hDl hDn)
    have HDD := Lib.hid hD
    have HI := Lib.hid hi
    have q0 := hi.num.cell
    have q1 := hi.want.cell
    have q2 := hi.res.cell
    have f2 := hi.res.frozen
    clear hDl hDn hn hi hD
    gi_wp2
    have hne : D' ≠ w.heap.size + 2 := by have h1 := HDL.out; have h2 := HZ1.out; omega
    have HD2 : Hid ((W'.setCell ⟨w.heap.size + 2, 0, none⟩ (.bool true)).heap[D']? = some (.deferred (some []))) := (Below.heap_setCell _ _ _ _ hne).trans HDD.out
    have HBR : Hid (Boxed (W'.setCell ⟨w.heap.size + 2, 0, none⟩ (.bool true)) (w.heap.size + 2) 4 (.bool true)) := HI.out.res.set _
    have HBW : Hid (Below w.heap.size w (W'.setCell ⟨w.heap.size + 2, 0, none⟩ (.bool true))) := Below.setCell HI.out.below (show w.heap.size ≤ w.heap.size + 2 by omega) _
    refine ⟨by simp, .inl ⟨_, _, rfl, run_takeDeferred HD2.out, ?_⟩⟩
    refine ⟨_, results_cell_bool Tryd.results18 _ _ (w.heap.size + 2) true rfl (Boxed.cell (boxed_chg HBR.out (putObj_chg _ D' _) (fun e => hne e.symm))), ⟨rfl, ?_⟩⟩
    exact HBW.out.trans ((putObj_chg _ D' _).below (fun i e => by have h1 := HDL.out; have h2 := HZ1.out; omega) HBW.out.size)
  case stop =>
    rintro D' c W' hDl ⟨rfl, hbr, hbl⟩ hD
    have HDL := Lib.hid hDl
    have HBR := Lib.hid hbr
    have HBW := Lib.hid hbl
    have HDD := Lib.hid hD
    clear hDl hbr hbl hD
    gi_wp2
    have hne : D' ≠ w.heap.size + 2 := by have h1 := HDL.out; have h2 := HZ1.out; omega
    refine ⟨by simp, .inl ⟨_, _, rfl, run_takeDeferred HDD.out, ?_⟩⟩
    refine ⟨_, results_cell_bool Tryd.results18 _ _ (w.heap.size + 2) true rfl (Boxed.cell (boxed_chg HBR.out (putObj_chg _ D' _) (fun e => hne e.symm))), ⟨rfl, ?_⟩⟩
    exact HBW.out.trans ((putObj_chg _ D' _).below (fun i e => by have h1 := HDL.out; have h2 := HZ1.out; omega) HBW.out.size)
end Go.Proofs.YtpfaoiickmpmjaaDoor

/- From and Level: functions over which one ranges. -/
namespace Go.Proofs.YtpfaoiickmpmjaaDoor
open Go.ChangeShapes Go.WideShapes Go.ChangeAt Go.RowKit Go.Shelf

theorem Iter.promise {P : Program} {α : Type} {gf : Nat} {lb : Array Value} {len : Nat} {encs : α → Array Value} {Ok : Nat → Nat → α → World → Prop} {C C' : World → Prop} {w : World} (h : Iter P gf lb len encs Ok C w) (hc : ∀ A, C' A → C A) : Iter P gf lb len encs Ok C' w :=
  fun m l J Jx W hW hC => h m l J Jx W hW (fun n₁ k A hj => hc A (hC n₁ k A hj))
/-- What From and Level answer: a function that goes over the towers L, each in new memory. -/
def GoAns (w : World) (L : List Tw) (e : Ending) (w' : World) : Prop :=
  Ext w w' ∧ ∃ bd, e = .returned (.func (.func 61) #[] #[.pointer (some ⟨bd, 0, none⟩)]) ∧ Iter Tryd.prog 61 #[.pointer (some ⟨bd, 0, none⟩)] L.length rowV (CopOk L) (fun A => Below w'.heap.size w' A) w'
theorem rowOf_ins {T : List Tw} (h : ∀ t ∈ T, InE t.e) (q : Ent → Bool) (n : Nat) : ∀ t ∈ rowOf T q n, InE t.e := fun t ht => h t (List.mem_of_mem_drop (List.mem_filter.1 ht).1)
theorem go_ans {w w5 : World} {L : List Tw} {N : Nat} {caps : Array Value} {C : World → Prop} (hx : Ext w w5) (hin : Iter Tryd.prog 62 caps L.length rowV (RowOk L N) C w5) (hN : N ≤ w5.heap.size) (hins : ∀ t ∈ L, InE t.e) (hC : ∀ A, Below w5.heap.size w5 A → C A) :
    GoAns w L (.returned (.func (.func 61) #[] #[.pointer (some ⟨w5.heap.size, 0, none⟩)])) (w5.alloc (.cells #[.func (.func 62) #[] caps] 35)) := by
  have hx6 := ext_alloc w5 (.cells #[.func (.func 62) #[] caps] 35)
  refine ⟨Ext.trans hx hx6, w5.heap.size, rfl, Iter.promise (copies_iter (hin.ext hx6) enters_row1 (Nat.le_trans hN hx6.size) hins (cell_of (heap_at _ _ rfl) rfl)) fun A hA => hC A ?_⟩
  exact Below.trans hx6 ⟨hA.os, hA.tape, hA.output, hA.size, fun i hi => hA.block i (Nat.lt_of_lt_of_le hi hx6.size)⟩

/-- A row of nothing. -/
theorem row_far {w : World} {b0 b1 b2 lb : Nat} {n : Int} {x y z : Value} {hd : Addr} {Ok : Nat → Nat → (Ent × Hd) → World → Prop} {C : World → Prop} (hl : w.heap[lb]? = some (.cells #[.pointer (some hd), x, y] 65 (0, 0))) (hn : n < 0 ∨ 8 ≤ n)
    (x0 : w.cell? ⟨b0, 0, none⟩ = some (.pointer (some ⟨lb, 0, none⟩))) (x1 : w.cell? ⟨b1, 0, none⟩ = some (.int .i64 n)) (_x2 : w.cell? ⟨b2, 0, none⟩ = some z) :
    Iter Tryd.prog 62 #[.pointer (some ⟨b0, 0, none⟩), .pointer (some ⟨b1, 0, none⟩), .pointer (some ⟨b2, 0, none⟩)] 0 rowV Ok C w := by
  intro mm l J Jx W hx hC hJ hJx h0 hY
  have HJ0 := Lib.hid (h0 W (Ext.refl _))
  have HNN := Lib.hid (none_no (ext_heap hx hl))
  have x0 := ext_cell hx x0
  have x1 := ext_cell hx x1
  clear hC hJ hJx h0 hY hl hx
  by_cases h1 : n < 0
  · have d1 : decide (n < 0) = true := by simp; omega
    clear h1 hn
    go_enter Tryd.func62, Tryd.ntmps62
    go_wp2_with fail
    refine Calls.mono HNN.out ?_
    rintro e w' ⟨rfl, hw'⟩
    have hw' := hw'.symm
    subst hw'
    go_wp2
    refine bodyPost_ret (results_none rfl _ _ _) rfl ?_
    exact ⟨⟨_, rfl⟩, .inl ⟨_, Nat.le_refl _, HJ0.out⟩⟩
  · have d1 : decide (n < 0) = false := by simp; omega
    have d2 : decide (8 ≤ n) = true := by simp; omega
    clear h1 hn
    go_enter Tryd.func62, Tryd.ntmps62
    go_wp2_with fail
    refine Calls.mono HNN.out ?_
    rintro e w' ⟨rfl, hw'⟩
    have hw' := hw'.symm
    subst hw'
    go_wp2
    refine bodyPost_ret (results_none rfl _ _ _) rfl ?_
    exact ⟨⟨_, rfl⟩, .inl ⟨_, Nat.le_refl _, HJ0.out⟩⟩
/-- A list that is none. -/
def NoList (w : World) (d : Option Addr) : Prop := d = none ∨ ∃ lb, d = some ⟨lb, 0, none⟩ ∧ w.cell? ⟨lb, 0, none⟩ = some (.pointer none)
theorem NoList.ext {w w' : World} {d : Option Addr} (h : NoList w d) (hx : Ext w w') : NoList w' d := by
  rcases h with h | ⟨lb, h1, h2⟩
  · exact .inl h
  · exact .inr ⟨lb, h1, ext_cell hx h2⟩
/-- The three boxes of a row. -/
theorem row_boxes (w : World) (a b c : Value) (t1 t2 t3 : TypeId) : (((w.alloc (.cells #[a] t1)).alloc (.cells #[b] t2)).alloc (.cells #[c] t3)).cell? ⟨w.heap.size, 0, none⟩ = some a ∧ (((w.alloc (.cells #[a] t1)).alloc (.cells #[b] t2)).alloc (.cells #[c] t3)).cell? ⟨w.heap.size + 1, 0, none⟩ = some b ∧
    (((w.alloc (.cells #[a] t1)).alloc (.cells #[b] t2)).alloc (.cells #[c] t3)).cell? ⟨w.heap.size + 2, 0, none⟩ = some c :=
  ⟨cell_of (ext_heap (Ext.trans (ext_alloc _ _) (ext_alloc _ _)) (heap_at _ _ rfl)) rfl, cell_of (ext_heap (ext_alloc _ _) (heap_at _ _ (by simp))) rfl, cell_of (heap_at _ _ (by simp)) rfl⟩
theorem row3 (w : World) (a b c : Value) (t1 t2 t3 : TypeId) : Ext w (((w.alloc (.cells #[a] t1)).alloc (.cells #[b] t2)).alloc (.cells #[c] t3)) := Ext.trans (Ext.trans (ext_alloc _ _) (ext_alloc _ _)) (ext_alloc _ _)

set_option maxHeartbeats 2000000 in
theorem sfrom_any {w : World} {D : Nat → Prop} {lb hb lo hi : Nat} {v : Value} {T : List Tw} {key : List Nat} (h : Sk w D lb hb T) (hk : Bs w lo hi v key) (hhi : hi ≤ w.heap.size) (bk : ∀ x ∈ key, x < 256) (hl : key.length ≤ 1099511627776) :
    Calls Tryd.prog 19 #[.pointer (some ⟨lb, 0, none⟩), v] w (GoAns w (rowOf T (belowK key) 0)) := by
  have H := Lib.hid h
  have HBK := Lib.hid bk
  have HCL := Lib.hid (clone_any v lo hi key w hk hhi hl)
  clear h hk hhi bk hl
  go_enter Tryd.func19, Tryd.ntmps19
  go_wp2_with fail
  refine Calls.mono HCL.out ?_
  rintro e w1 ⟨v1, rfl, hown, hb1⟩
  obtain ⟨kA, kc, rfl⟩ := Own.slice (B := w.heap.size) (l := key) hown
  have HX1 : Hid (Ext w w1) := hb1
  have HB1 := Lib.hid (Own.bs (B := w.heap.size) (l := key) hown)
  clear hown hb1
  go_wp2_with fail
  obtain ⟨w2, hw2⟩ : ∃ w2, w2 = w1.alloc (.cells #[.slice kA key.length kc] 22) := ⟨_, rfl⟩
  rw [← hw2]
  have HX2 : Hid (Ext w1 w2) := by rw [hw2]; exact ext_alloc _ _
  have HAF := Lib.hid (from1_fn (w := w2) (p := w1.heap.size) (HB1.out.below HX2.out (Nat.le_refl _)) HX2.out.size HBK.out (by rw [hw2]; exact heap_at _ _ rfl))
  clear hw2
  refine Calls.mono (srow_any _ _ _ _ _) ?_
  rintro e w5 ⟨rfl, hw5⟩
  have hb := row_boxes w2 (.pointer (some ⟨lb, 0, none⟩)) (.int .i64 0) (.func (.func 45) #[] #[.pointer (some ⟨w1.heap.size, 0, none⟩)]) 28 3 75
  have hx := row3 w2 (.pointer (some ⟨lb, 0, none⟩)) (.int .i64 0) (.func (.func 45) #[] #[.pointer (some ⟨w1.heap.size, 0, none⟩)]) 28 3 75
  rw [← hw5] at hb hx
  have hx5 := Ext.trans (Ext.trans HX1.out HX2.out) hx
  have hit := row_iter (n := 0) (H.out.ext hx5) (HAF.out.ext hx) (H.out.asc.belowK key) (by decide) hb.1 hb.2.1 hb.2.2
  have HGO := Lib.hid (go_ans hx5 hit (Nat.le_refl _) (rowOf_ins H.out.ins _ _) (fun A hA k _ hlt => hA.block k hlt))
  clear hw5 hb hx hx5 hit
  go_wp2_with fail
  refine Calls.mono (scopies_any _ _ _) ?_
  rintro e w6 ⟨rfl, hw6⟩
  rw [← hw6] at HGO
  clear hw6
  go_wp2_with fail
  go_ret
  exact HGO.out

set_option maxHeartbeats 2000000 in
theorem slevel_any {w : World} {D : Nat → Prop} {lb hb n : Nat} {T : List Tw} (h : Sk w D lb hb T) (hn : n < 8) :
    Calls Tryd.prog 26 #[.pointer (some ⟨lb, 0, none⟩), .int .i64 (n : Int)] w (GoAns w (rowOf T nobodyE n)) := by
  have H := Lib.hid h
  have HN := Lib.hid hn
  clear h hn
  go_enter Tryd.func26, Tryd.ntmps26
  go_wp2_with fail
  refine Calls.mono (srow_any _ _ _ _ _) ?_
  rintro e w5 ⟨rfl, hw5⟩
  have hb := row_boxes w (.pointer (some ⟨lb, 0, none⟩)) (.int .i64 (n : Int)) (.func (.func 51) #[] #[]) 28 3 75
  have hx := row3 w (.pointer (some ⟨lb, 0, none⟩)) (.int .i64 (n : Int)) (.func (.func 51) #[] #[]) 28 3 75
  rw [← hw5] at hb hx
  have hit := row_iter (n := n) (H.out.ext hx) (nobody_fn w5) (nobody_pair _) HN.out hb.1 hb.2.1 hb.2.2
  have HGO := Lib.hid (go_ans hx hit (Nat.le_refl _) (rowOf_ins H.out.ins _ _) (fun A hA k _ hlt => hA.block k hlt))
  clear hw5 hb hx hit
  go_wp2_with fail
  refine Calls.mono (scopies_any _ _ _) ?_
  rintro e w6 ⟨rfl, hw6⟩
  rw [← hw6] at HGO
  clear hw6
  go_wp2_with fail
  go_ret
  exact HGO.out
set_option maxHeartbeats 2000000 in
theorem slevel_far {w : World} {D : Nat → Prop} {lb hb : Nat} {n : Int} {T : List Tw} (h : Sk w D lb hb T) (hn : n < 0 ∨ 8 ≤ n) :
    Calls Tryd.prog 26 #[.pointer (some ⟨lb, 0, none⟩), .int .i64 n] w (GoAns w []) := by
  have H := Lib.hid h
  have HN := Lib.hid hn
  clear h hn
  go_enter Tryd.func26, Tryd.ntmps26
  go_wp2_with fail
  refine Calls.mono (srow_any _ _ _ _ _) ?_
  rintro e w5 ⟨rfl, hw5⟩
  have hb := row_boxes w (.pointer (some ⟨lb, 0, none⟩)) (.int .i64 n) (.func (.func 51) #[] #[]) 28 3 75
  have hx := row3 w (.pointer (some ⟨lb, 0, none⟩)) (.int .i64 n) (.func (.func 51) #[] #[]) 28 3 75
  rw [← hw5] at hb hx
  have hit := row_far (Ok := RowOk [] 0) (C := fun _ => True) (H.out.ext hx).list HN.out hb.1 hb.2.1 hb.2.2
  have HGO := Lib.hid (go_ans (L := []) hx hit (Nat.zero_le _) (fun t ht => by cases ht) (fun A hA => trivial))
  clear hw5 hb hx hit
  go_wp2_with fail
  refine Calls.mono (scopies_any _ _ _) ?_
  rintro e w6 ⟨rfl, hw6⟩
  rw [← hw6] at HGO
  clear hw6
  go_wp2_with fail
  go_ret
  exact HGO.out
end Go.Proofs.YtpfaoiickmpmjaaDoor

/- The law's put and num; the reference's Height. -/
namespace Go.Proofs.YtpfaoiickmpmjaaDoor
open Go.ChangeShapes Go.WideShapes Go.ChangeAt Go.RowKit Go.Shelf

theorem snum (n : Int) (w : World) : Calls Tryd.prog 23 #[.int .i64 n] w fun e w' => e = .returned (.int .i64 n) ∧ w = w' := by
  go_enter Tryd.func23, Tryd.ntmps23
  go_wp2
  go_ret
  exact ⟨rfl, rfl⟩
set_option maxHeartbeats 2000000 in
theorem lput_any (k : List Nat) (s : Int) (hk : ∀ x ∈ k, x < 256) (hkl : k.length ≤ 1000) (h1 : -9223372036854775808 ≤ s) (h2 : s ≤ 9223372036854775807) (w : World) :
    Calls Tryd.prog 35 #[.string (tx k), .int .i64 s] w (LitAns w ⟨k, s, 1, []⟩) := by
  obtain ⟨w1, hw1⟩ : ∃ w1, w1 = w.alloc (.cells #[.slice none 0 0, .int .i64 0, .int .i64 0, .slice none 0 0] 40) := ⟨_, rfl⟩
  have HX : Hid (Ext w w1) := by rw [hw1]; exact ext_alloc _ _
  have HBX : Hid (w1.heap[w.heap.size]? = some (.cells #[.slice none 0 0, .int .i64 0, .int .i64 0, .slice none 0 0] 40 (0, 0))) := by rw [hw1]; exact heap_at _ _ rfl
  have HZ : Hid (w1.heap.size = w.heap.size + 1) := by rw [hw1]; simp [Hid]
  obtain ⟨A2, c2, w2, e2, x2, b2⟩ := conv_new w1 k hk hkl
  have hb := ext_heap x2 HBX.out
  have q0 := cell_of hb (k := 0) rfl
  have q1 := cell_of hb (k := 1) rfl
  have q2 := cell_of hb (k := 2) rfl
  have q3 := cell_of hb (k := 3) rfl
  have z0 := frozen_four hb (j := 0)
  have z1 := frozen_four hb (j := 1)
  have z2 := frozen_four hb (j := 2)
  have z3 := frozen_four hb (j := 3)
  have HB := Lib.hid hb
  have HK := Lib.hid b2
  have HX3 : Hid (Ext w w2) := Ext.trans HX.out x2
  have HBY := Lib.hid hk
  have HS := Lib.hid (And.intro h1 h2)
  clear x2 b2 hb hk hkl h1 h2
  go_enter Tryd.func35, Tryd.ntmps35
  rw [hw1] at e2
  go_wp2_with fail
  refine entry_ret1 (p := 4) (by kernel_rfl) rfl rfl (set_four HB.out) ?_
  have far : ∀ {l : List Nat} {v : Value} {u : World} {p : Addr} {x : Value}, p.block < w1.heap.size → Bs u w1.heap.size w2.heap.size v l → Bs (u.setCell p x) w1.heap.size w2.heap.size v l := fun hp h => h.setCell (.inl hp) _
  have hlt : w.heap.size < w1.heap.size := by rw [HZ.out]; omega
  refine ⟨Below.setCell (Below.setCell (Below.setCell (Below.setCell HX3.out (Nat.le_refl _) _) (Nat.le_refl _) _) (Nat.le_refl _) _) (Nat.le_refl _) _, ⟨A2, c2, none, 0⟩, rfl, ⟨?_, Bs.nil _ _ _, HBY.out, by simp, HS.out.1, HS.out.2, (by show (-9223372036854775808 : Int) ≤ _; dsimp only; omega), (by dsimp only; omega)⟩⟩
  exact (far hlt (far hlt (far hlt (far hlt HK.out)))).wide HX.out.size (by simp [World.setCell])

theorem ctzFrom_more : ∀ (f x : Nat), 0 < x → x < 2 ^ f → Lib.ctzFrom (f + 1) x = Lib.ctzFrom f x
  | 0, x, h0, h => by simp at h; omega
  | f + 1, x, h0, h => by
    show (if x % 2 = 1 then 0 else 1 + Lib.ctzFrom (f + 1) (x / 2)) = (if x % 2 = 1 then 0 else 1 + Lib.ctzFrom f (x / 2))
    split
    · rfl
    · rw [ctzFrom_more f (x / 2) (by omega) (by rw [Nat.pow_succ] at h; omega)]
theorem zz_step {h : Nat} (h0 : h ≠ 0) (hl : h < 4294967296) (h4 : h % 4 = 0) : Lib.ctz 32 h = 2 + Lib.ctz 32 (h / 4) := by
  unfold Lib.ctz
  rw [if_neg h0, if_neg (by omega)]
  have e1 : Lib.ctzFrom 32 h = 1 + Lib.ctzFrom 31 (h / 2) := by rw [Lib.ctzFrom, if_neg (by omega)]
  have e2 : Lib.ctzFrom 31 (h / 2) = 1 + Lib.ctzFrom 30 (h / 4) := by rw [Lib.ctzFrom, if_neg (by omega)]; congr 2; omega
  rw [e1, e2, ctzFrom_more 31 (h / 4) (by omega) (by omega), ctzFrom_more 30 (h / 4) (by omega) (by omega)]
  omega
theorem zz_stop {h : Nat} (h4 : h % 4 ≠ 0) : Lib.ctz 32 h ≤ 1 := by
  unfold Lib.ctz
  rw [if_neg (by omega)]
  by_cases h2 : h % 2 = 1
  · rw [Lib.ctzFrom, if_pos h2]; omega
  · rw [Lib.ctzFrom, if_neg h2, Lib.ctzFrom, if_pos (by omega)]; omega
/-- What the loop leaves as it is. -/
theorem hgt_step {n h : Nat} (hn : n < 8) (hl : h < 4294967296) (h4 : h % 4 = 0) : min (n + 1 + Lib.ctz 32 (h / 4) / 2) 8 = min (n + Lib.ctz 32 h / 2) 8 := by
  by_cases h0 : h = 0
  · subst h0
    show min (n + 1 + 32 / 2) 8 = min (n + 32 / 2) 8
    omega
  · rw [zz_step h0 hl h4]; omega

set_option maxHeartbeats 4000000 in
theorem rheight_any {w : World} {lo hi : Nat} {v : Value} {key : List Nat} {s : Int} (hk : Bs w lo hi v key) (bk : ∀ x ∈ key, x < 256) (s1 : -9223372036854775808 ≤ s) (s2 : s ≤ 9223372036854775807) (hl : key.length ≤ 1099511627776) :
    Calls Tryd.prog 12 #[v, .int .i64 s] w fun e w' => e = .returned (.int .i64 (hgt key s : Int)) ∧ w = w' := by
  obtain ⟨A, c, rfl, hcl, hcm, hnil, hby⟩ := hk
  have HBY := Lib.hid hby
  have HB := Lib.hid bk
  have hlI : (key.length : Int) ≤ 1099511627776 := by omega
  have hS1 := Lib.hid s1
  have hS2 := Lib.hid s2
  clear hby bk hnil hl s1 s2
  go_enter Tryd.func12, Tryd.ntmps12
  go_wp2
  go_loop [5, 6] (fun h i => ∃ k : Nat, k ≤ key.length ∧ i = .int .i64 (k : Int) ∧ h = .int .u32 (((key.take k).foldl fnv 2166136261 : Nat) : Int)) (fun _ i => key.length - (intOf i).toNat)
  case atStart => exact ⟨0, Nat.zero_le _, rfl, rfl⟩
  case round =>
    obtain ⟨k, hk, rfl, rfl⟩ := hrel
    obtain ⟨h, hh⟩ : ∃ h, h = (key.take k).foldl fnv 2166136261 := ⟨_, rfl⟩
    rw [← hh]
    have HHL : Hid (h < 4294967296) := by rw [hh]; exact fold_lt _ _ (by decide)
    have HH := Lib.hid hh
    clear hh
    by_cases hlt : k < key.length
    · have d : decide ((k : Int) < (key.length : Int)) = true := by simp; omega
      have dn : decide (k < key.length) = true := by simp; omega
      obtain ⟨b, o, rfl, _, _, hc⟩ := HBY.out.at_ hlt
      have n1 : (0 : Int) ≤ (k : Int) := by omega
      have n2 : (k : Int) < (key.length : Int) := by omega
      have hx := HB.out key[k] (List.getElem_mem hlt)
      have HX := Lib.hid hx
      have HST : Hid ((key.take (k + 1)).foldl fnv 2166136261 = fnv h key[k]) := by unfold Hid; rw [List.take_succ_eq_append_getElem hlt, List.foldl_append, ← HH.out, List.foldl_cons, List.foldl_nil]
      have HF := Lib.hid (fnv_int h key[k] HHL.out hx)
      have HLT := Lib.hid hlt
      obtain ⟨x, hxx⟩ : ∃ x : Nat, x = key[k]'hlt := ⟨_, rfl⟩
      rw [← hxx] at hc hx HX HST HF
      clear hxx hx hk hlt
      have hx0 : (x : Int) % 4294967296 = (x : Int) := by have := HX.out; omega
      have hF := HF.out
      go_wp2
      clear hF hx0 hc hlI
      refine ⟨⟨k + 1, HLT.out, rfl, ?_⟩, ?_⟩
      · rw [HST.out, HF.out]
      · have := HLT.out; simp [intOf]; omega
    · have d : decide ((k : Int) < (key.length : Int)) = false := by simp; omega
      have dn : decide (k < key.length) = false := by simp; omega
      obtain rfl : k = key.length := by omega
      have HKEY : Hid (h = sumK key) := by unfold Hid sumK; rw [HH.out, List.take_length]
      clear hlt hk HH d dn
      go_wp2
      go_loop [5, 7] (fun hv sv => ∃ j : Nat, j ≤ 8 ∧ sv = .int .i64 (7 - (j : Int)) ∧ hv = .int .u32 (((sbytes s j).foldl fnv h : Nat) : Int)) (fun _ sv => (intOf sv + 1).toNat)
      case atStart => exact ⟨0, Nat.zero_le _, rfl, rfl⟩
      case round =>
        obtain ⟨j, hj, rfl, rfl⟩ := hrel
        obtain ⟨h', hh'⟩ : ∃ h', h' = (sbytes s j).foldl fnv h := ⟨_, rfl⟩
        rw [← hh']
        have HHL' : Hid (h' < 4294967296) := by rw [hh']; exact fold_lt _ _ HHL.out
        have HH' := Lib.hid hh'
        obtain ⟨n, hn⟩ : ∃ n : Int, n = 7 - (j : Int) := ⟨_, rfl⟩
        have HNJ := Lib.hid hn
        rw [← hn]
        clear hh'
        by_cases hj8 : j = 8
        · obtain rfl : n = -1 := by omega
          have HJ8 := Lib.hid hj8
          have HGT : Hid (hgt key s = min (1 + Lib.ctz 32 h' / 2) 8) := by unfold Hid hgt sumS; rw [HH'.out, HJ8.out, HKEY.out]
          clear hn hj hj8
          go_wp2
          go_loop [5, 8] (fun hv nv => ∃ n h'' : Nat, 1 ≤ n ∧ n ≤ 8 ∧ nv = .int .i64 (n : Int) ∧ hv = .int .u32 (h'' : Int) ∧ Hid (h'' < 4294967296) ∧ Hid (hgt key s = min (n + Lib.ctz 32 h'' / 2) 8)) (fun _ nv => 8 - (intOf nv).toNat)
          case atStart => exact ⟨1, h', by decide, by decide, rfl, rfl, HHL', HGT⟩
          case round =>
            obtain ⟨n, h'', hn1, hn8, rfl, rfl, HL2, HG2⟩ := hrel
            by_cases hn : n < 8
            · have d : decide ((n : Int) < 8) = true := by simp; omega
              by_cases h4 : h'' % 4 = 0
              · have d2 : ((h'' : Int) % 4 == 0) = true := by simp; omega
                have HN := Lib.hid (And.intro hn h4)
                clear hn h4
                go_wp2
                clear d d2 hlI
                refine ⟨⟨n + 1, h'' / 4, by omega, by have := HN.out.1; omega, rfl, ?_, ?_, ?_⟩, ?_⟩
                · have := HL2.out; congr 1; omega
                · have := HL2.out; unfold Hid; omega
                · unfold Hid; rw [HG2.out, hgt_step HN.out.1 HL2.out HN.out.2]
                · have := HN.out.1; simp [intOf]; omega
              · have d2 : ((h'' : Int) % 4 == 0) = false := by simp; omega
                have HE : Hid (hgt key s = n) := by have := zz_stop h4; unfold Hid; rw [HG2.out]; omega
                clear h4 hn
                go_wp2
                go_ret
                refine ⟨?_, rfl⟩
                rw [HE.out]
                exact Eq.refl _
            · obtain rfl : n = 8 := by omega
              have HE : Hid (hgt key s = 8) := by unfold Hid; rw [HG2.out]; omega
              clear hn hn1 hn8
              go_wp2
              go_ret
              refine ⟨?_, rfl⟩
              rw [HE.out]
              exact Eq.refl _
        · have n1 : 0 ≤ n := by omega
          have n2 : n ≤ 7 := by omega
          have d1 : decide (0 ≤ n) = true := by simp; omega
          have hj1 : j + 1 ≤ 8 := by omega
          have HJ1 := Lib.hid hj1
          have hb : s % 18446744073709551616 / 2 ^ (8 * n).toNat % 256 = ((sbyte s j : Nat) : Int) := by
            have hj7 : j < 8 := by omega
            rw [show (8 * n).toNat = 56 - 8 * j by omega]
            unfold sbyte
            rcases j with _ | _ | _ | _ | _ | _ | _ | _ | j
            all_goals first | omega | (simp only [Nat.zero_add, Nat.reduceAdd, Nat.reduceMul, Nat.reduceSub, Int.reducePow]; omega)
          have HSB := Lib.hid hb
          have HF := Lib.hid (fnv_int h' (sbyte s j) HHL'.out (sbyte_lt s j))
          have HST : Hid ((sbytes s (j + 1)).foldl fnv h = fnv h' (sbyte s j)) := by
            unfold Hid sbytes
            rw [List.range_succ, List.map_append, List.foldl_append, List.map_cons, List.map_nil, List.foldl_cons, List.foldl_nil]
            rw [HH'.out]; unfold sbytes; exact Eq.refl _
          clear hn hj hj8 hj1 hb
          go_wp2
          refine ⟨⟨j + 1, HJ1.out, ?_, ?_⟩, ?_⟩
          · rw [HNJ.out]; congr 1; omega
          · rw [HST.out, ← HF.out, ← HSB.out, IntKind.wrap_u64]
          · clear d1; simp [intOf]; omega
end Go.Proofs.YtpfaoiickmpmjaaDoor
