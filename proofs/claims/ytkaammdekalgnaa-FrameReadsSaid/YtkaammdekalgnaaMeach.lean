/- Going over the whole frames. -/
import Derived.Test.YtkaammdekalgnaaMwhole
import Derived.Test.YtkaammdekalgnaaMput
import Derived.Laws.EntriesVeiled
namespace Go.Proofs.Ytkaammdekalgnaa
open Go.RowKit Go.Shelf
attribute [local go_sem] Oper.semAt_some

theorem WholeAns.no {w w' : World} {lo hi : Nat} {b : List Nat} {e : Ending} (h : WholeAns w lo hi b e w') (hw : whole1 b = none) : ∃ A n c, e = .returned (.tuple #[.slice A n c, .bool false]) ∧ Below w.heap.size w w' := by
  obtain ⟨hb, ⟨p, A, c, hp, _⟩ | ⟨_, A, n, c, he⟩⟩ := h
  · rw [hw] at hp; cases hp
  · exact ⟨A, n, c, he, hb⟩
theorem WholeAns.yes {w w' : World} {lo hi : Nat} {b p : List Nat} {e : Ending} (h : WholeAns w lo hi b e w') (hw : whole1 b = some p) : ∃ A c, e = .returned (.tuple #[.slice A p.length c, .bool true]) ∧ Below w.heap.size w w' ∧ Bs w lo hi (.slice A p.length c) p := by
  obtain ⟨hb, ⟨q, A, c, hp, he, hs⟩ | ⟨hp, _⟩⟩ := h
  · rw [hw] at hp; injection hp with hp; subst hp; exact ⟨A, c, he, hb, hs⟩
  · rw [hw] at hp; cases hp

/-- each makes a function over the bytes. -/
theorem each_any (A : Option Addr) (n c : Nat) (w : World) : Calls Try.prog 29 #[.slice A n c] w fun e w' =>
    e = .returned (.func (.func 38) #[] #[.pointer (some ⟨w.heap.size + 1, 0, none⟩)]) ∧ w' = (w.alloc (.cells #[.slice A n c] 22)).alloc (.cells #[.func (.func 41) #[] #[.pointer (some ⟨w.heap.size, 0, none⟩)]] 56) := by
  go_enter Try.func29, Try.ntmps29
  go_wp2_with fail
  refine (wholeIn_any A n c w).mono ?_
  rintro e w1 ⟨rfl, rfl⟩
  go_wp2_with fail
  go_ret
  exact ⟨rfl, by simp⟩
theorem enters_each : ∀ args w, (callFunc 38 args).run Try.prog w = .ok (.enter 38 args) w := enters_of Try.func38 (by kernel_rfl) rfl

/-- Bytes that stay, and the cells that the function over them looks at. -/
structure Looked (w : World) (lo hi bw bd : Nat) (A : Option Addr) (n c : Nat) (b : List Nat) : Prop where
  bs : Bs w lo hi (.slice A n c) b
  top : hi ≤ w.heap.size
  byt : ∀ x ∈ b, x < 256
  fn : w.cell? ⟨bw, 0, none⟩ = some (.func (.func 41) #[] #[.pointer (some ⟨bd, 0, none⟩)])
  at_ : w.cell? ⟨bd, 0, none⟩ = some (.slice A n c)
/-- The blocks that must stay. -/
def Mine (lo hi bw bd : Nat) (k : Nat) : Prop := lo ≤ k ∧ k < hi ∨ k = bw ∨ k = bd
/-- They are as they were. -/
def Kept (lo hi bw bd : Nat) (w A : World) : Prop := ∀ k, Mine lo hi bw bd k → k < w.heap.size → A.heap[k]? = w.heap[k]?
theorem Looked.kept {w w' : World} {lo hi bw bd n c : Nat} {A : Option Addr} {b : List Nat} (h : Looked w lo hi bw bd A n c b) (hk : Kept lo hi bw bd w w') (hs : w.heap.size ≤ w'.heap.size) : Looked w' lo hi bw bd A n c b := by
  have l1 := World.block_lt_of_cell? w _ h.fn
  have l2 := World.block_lt_of_cell? w _ h.at_
  refine ⟨h.bs.of fun _ h2 => h2.keep fun p h3 h4 => World.cell?_of_block (hk _ (.inl ⟨h3, h4⟩) (Nat.lt_of_lt_of_le h4 h.top)), Nat.le_trans h.top hs, h.byt, ?_, ?_⟩
  · rw [World.cell?_of_block (w := w) (a := ⟨bw, 0, none⟩) (hk bw (.inr (.inl rfl)) l1)]; exact h.fn
  · rw [World.cell?_of_block (w := w) (a := ⟨bd, 0, none⟩) (hk bd (.inr (.inr rfl)) l2)]; exact h.at_
theorem Looked.ext {w w' : World} {lo hi bw bd n c : Nat} {A : Option Addr} {b : List Nat} (h : Looked w lo hi bw bd A n c b) (hx : Ext w w') : Looked w' lo hi bw bd A n c b := h.kept (fun k _ hk => hx.block k hk) hx.size
theorem Looked.len {w : World} {lo hi bw bd n c : Nat} {A : Option Addr} {b : List Nat} (h : Looked w lo hi bw bd A n c b) : n = b.length ∧ b.length ≤ 9223372036854775807 := by
  have := h.bs.len
  unfold maxLen at this
  omega

/-- Of the k-th frame: where it begins, and a piece that reads as its payload. -/
def EachOk (lo hi : Nat) (b : List Nat) (_n₁ k : Nat) (x : Nat × Option Addr × Nat × Nat) (A : World) : Prop :=
  ∃ p, (frs b 0)[k]? = some (x.1, p) ∧ x.2.2.1 = p.length ∧ Bs A lo hi (.slice x.2.1 x.2.2.1 x.2.2.2) p
def eachV (x : Nat × Option Addr × Nat × Nat) : Array Value := #[.int .i64 (x.1 : Int), .slice x.2.1 x.2.2.1 x.2.2.2]

set_option maxRecDepth 100000 in
set_option maxHeartbeats 4000000 in
theorem each_iter {w : World} {lo hi bw bd n c : Nat} {A : Option Addr} {b : List Nat} (h : Looked w lo hi bw bd A n c b) :
    Iter Try.prog 38 #[.pointer (some ⟨bw, 0, none⟩)] (frs b 0).length eachV (EachOk lo hi b) (Kept lo hi bw bd w) w := by
  intro mm l J Jx W hx hC hJ hJx h0 hY
  have hlen := h.len
  obtain ⟨rfl, hb63⟩ := hlen
  have HLW := Lib.hid (h.ext hx)
  have H := Lib.hid h
  have HXW := Lib.hid hx.size
  have HC := Lib.hid hC
  have HJ := Lib.hid hJ
  have HJX := Lib.hid hJx
  have HJ0 := Lib.hid (h0 W (Ext.refl _))
  have HY := Lib.hid hY
  clear h hC hJ hJx h0 hY hx
  have hf1 : Fence.wide.fn 41 := trivial
  have hf2 : Fence.wide.fn 14 := trivial
  refine (callsIn_wide (n := 6)).1 ?_
  refine callsIn_of_wp Try.func38 rfl trivial ?_ rfl
  simp only [Try.ntmps38, List.size_toArray, List.length_cons, List.length_nil, Nat.reduceAdd, Nat.reduceSub, Array.replicate_succ, Array.replicate_zero, List.push_toArray, List.append_toArray, List.nil_append, List.cons_append]
  gi_wp2
  refine wpIn_wide.2 (wp_scope_straight (wpIn_wide (n := 6).1 (wpIn_seq (wpIn_label ?_))))
  change Code.wpIn _ _ _ _ _ _ _
  gi_wp2
  gi_loopw [3, 4, 5, 12, 15] (fun a _ _ _ _ wr => ∃ k m : Nat, m ≤ b.length ∧ a = .int .i64 (m : Int) ∧ Hid (Upto b k m) ∧ Hid (J W.heap.size k wr) ∧ Hid (Step W.heap.size W.heap.size W wr))
    (fun a _ _ _ _ _ => b.length - (intOf a).toNat)
  case atStart => exact ⟨0, 0, Nat.zero_le _, rfl, Upto.start b, HJ0, Step.refl _ _ _⟩
  case round =>
    obtain ⟨k, m, hm, rfl, HU, HJK, HST⟩ := hrel
    have hkept := HC.out _ _ _ HJK.out
    have hlk : Looked wr lo hi bw bd A b.length c b := H.out.kept hkept (Nat.le_trans HXW.out HST.out.size)
    have q1 := hlk.fn
    have HCW := Lib.hid (whole_any hlk.bs hlk.top hlk.byt hlk.at_ hm)
    have HLK := Lib.hid hlk
    clear hkept hlk
    rcases hw : whole1 (b.drop m) with _ | p
    · have HDN := Lib.hid (HU.out.stop hw)
      have HW := Lib.hid hw
      clear hw
      gi_wp2_with (gi_at_call 41; refine (callsIn_wide.2 HCW.out).mono ?_; rintro e w1 hans; obtain ⟨A', n', c', rfl, hb⟩ := hans.no HW.out; have HB := Lib.hid hb; clear hb hans)
      rw [Exit.noGoto_normal]
      go_end0
      exact ⟨⟨_, rfl⟩, .inl ⟨_, Nat.le_refl _, by rw [← HDN.out.1]; exact HJ.out _ _ _ _ (Nat.le_refl _) HJK.out (Chg.of_ext HB.out)⟩⟩
    · have HDN := Lib.hid (HU.out.next hw)
      have HPS := Lib.hid (whole1_spec hw)
      have HW := Lib.hid hw
      clear hw
      gi_wp2_with (first
        | (gi_at_call 41
           refine (callsIn_wide.2 HCW.out).mono ?_
           rintro e w1 hans
           obtain ⟨A', c', rfl, hb, hs⟩ := hans.yes HW.out
           have HB := Lib.hid hb
           have hj1 := HJ.out _ _ _ _ (Nat.le_refl _) HJK.out (Chg.of_ext hb)
           obtain ⟨fn, tmps, assign, body, hy, hR⟩ := HY.out W.heap.size k (m, A', p.length, c') w1 (Nat.le_refl _) (Nat.le_trans HST.out.size hb.size) hj1 HDN.out.1 ⟨p, HDN.out.2.1, rfl, hs.below hb HLK.out.top⟩
           dsimp only [eachV] at hy
           have HR := Lib.hid (roundIn_any (m' := 5) hR)
           clear hb hans hs hj1 hR))
      clear hy
      refine RoundIn.mono HR.out ?_
      rintro e W3 ⟨hst, (⟨rfl, hj⟩ | ⟨rfl, hjx⟩)⟩
      · have HST3 := Lib.hid ((HST.out.trans (Step.of_chg (S := fun _ => False) (Chg.of_ext HB.out) HST.out.size (fun _ _ _ h => h))).trans hst)
        have HJ3 := Lib.hid hj
        clear hst hj
        gi_wp2_with (gi_at_call 14; refine (callsIn_wide.2 (size_any _ _)).mono ?_; rintro e w4 ⟨rfl, rfl⟩)
        have hU := HDN.out.2.2
        have hw : wrap64 ((m : Int) + isize (p.length : Int)) = ((m + (p.length + 8) : Nat) : Int) := by
          have h1 := HPS.out
          have h2 := hU.1
          rw [isize_nat, show fsize p.length = p.length + 8 by unfold fsize; rw [if_pos ⟨h1.2.1, h1.2.2.1⟩]]
          unfold wrap64
          omega
        rw [hw]
        go_roundw
        case rel => exact ⟨k + 1, m + (p.length + 8), hU.1, rfl, hU, HJ3, HST3⟩
        case measure => have := hU.1; simp [intOf]; omega
      · have HX := Lib.hid hjx
        clear hst hjx
        gi_wp2
        rw [Exit.noGoto_normal]
        go_end0
        exact ⟨⟨_, rfl⟩, .inr HX.out⟩
end Go.Proofs.Ytkaammdekalgnaa
