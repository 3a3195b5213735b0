/- Going over what Latest saw. -/
import Derived.Test.YtcofnbeemfhcpaaIlatest
namespace Go.Proofs.Ytcofnbeemfhcpaa
open Go.RowKit Go.Shelf
attribute [local go_sem] Oper.semAt_some

/-- The row in the box, its value named. -/
structure SeenV (B sb : Nat) (v : Value) (R : List (Ent × Hd)) (A : World) : Prop where
  box : Boxed A sb 26 v
  row : A.ownsRow B 25 4 v R.length (erow R)
  each : ∀ p ∈ R, Mine B p A
theorem SeenV.chg {B sb : Nat} {v : Value} {R : List (Ent × Hd)} {A A' : World} {S : Nat → Prop} (h : SeenV B sb v R A) (hc : Chg S A A') (hS : ∀ k, B ≤ k → ¬ S k) (hb : ¬ S sb) : SeenV B sb v R A' :=
  ⟨boxed_chg h.box hc hb, rowN_kept h.row fun g hg => hc.block g (rowN_lt h.row g hg).2.1 (hS g (rowN_lt h.row g hg).1), fun p hp => (h.each p hp).chg hc hS⟩
theorem SeenV.ext {B sb : Nat} {v : Value} {R : List (Ent × Hd)} {A A' : World} (h : SeenV B sb v R A) (hx : Ext A A') : SeenV B sb v R A' := h.chg (S := fun _ => False) (Chg.of_ext hx) (fun _ _ h => h) (fun h => h)
theorem rowE_sl {A : World} {B n c : Nat} {X : Option Addr} {R : List (Ent × Hd)} (h : A.ownsRow B 25 4 (.slice X n c) n (erow R)) : Sl A 0 A.heap.size X (erow R) := by
  rcases h.2 with ⟨he, rfl⟩ | ⟨g, cap, cur, he, hb, hh, hn, hm, hcs, hx⟩
  · left
    exact List.eq_nil_of_length_eq_zero (by simpa using h.1)
  · injection he with he _ _
    subst he
    refine .inr ⟨g, 0, rfl, Nat.zero_le _, (Array.getElem?_eq_some_iff.1 hh).1, fun i u hu => ?_⟩
    rw [Nat.zero_add, cell_of_row A g i cur _ (0, 0) hh]
    rw [← hx, List.getElem?_take] at hu
    split at hu
    · rw [← Array.getElem?_toList]; exact hu
    · cases hu
theorem SeenV.es {B sb n c : Nat} {X : Option Addr} {R : List (Ent × Hd)} {A : World} (h : SeenV B sb (.slice X n c) R A) : Es A 0 A.heap.size X R := by
  have hn : n = R.length := by
    obtain ⟨A', c', e⟩ := rowN_slice h.row
    injection e
  subst hn
  exact ⟨rowE_sl h.row, fun p hp => (h.each p hp).em⟩

/-- Of the k-th: it, in memory of its own. -/
def SeqOk (R : List (Ent × Hd)) (n₁ k : Nat) (x : Ent × Hd) (A : World) : Prop := ∃ p, R[k]? = some p ∧ x.1 = p.1 ∧ Mine n₁ x A
def seqV (x : Ent × Hd) : Array Value := #[x.1.at_ x.2]
theorem enters_latest : ∀ args w, (callFunc 41 args).run Try.prog w = .ok (.enter 41 args) w := enters_of Try.func41 (by kernel_rfl) rfl

set_option maxRecDepth 100000 in
set_option maxHeartbeats 8000000 in
theorem seq_iter {w : World} {B sb : Nat} {v : Value} {R : List (Ent × Hd)} (h : SeenV B sb v R w) (hl : R.length ≤ 1000000000000) (hk : ∀ p ∈ R, p.1.key.length ≤ 1099511627776 ∧ p.1.val.length ≤ 1099511627776) :
    Iter Try.prog 41 #[.pointer (some ⟨sb, 0, none⟩)] R.length seqV (SeqOk R) (SeenV B sb v R) w := by
  intro mm l J Jx W hx hC hJ hJx h0 hY
  obtain ⟨X, c, rfl⟩ := rowN_slice h.row
  have HL := Lib.hid hl
  have HK := Lib.hid hk
  have HC := Lib.hid hC
  have HJ := Lib.hid hJ
  have HJX := Lib.hid hJx
  have HJ0 := Lib.hid (h0 W (Ext.refl _))
  have HY := Lib.hid hY
  have hlI : (R.length : Int) ≤ 1000000000000 := by omega
  clear h hl hk hC hJ hJx h0 hY hx
  have hf1 : Fence.wide.fn 40 := trivial
  refine (callsIn_wide (n := 6)).1 ?_
  refine callsIn_of_wp Try.func41 rfl trivial ?_ rfl
  simp only [Try.ntmps41, List.size_toArray, List.length_cons, List.length_nil, Nat.reduceAdd, Nat.reduceSub, Array.replicate_succ, Array.replicate_zero, List.push_toArray, List.append_toArray, List.nil_append, List.cons_append]
  have c1 := (HC.out _ _ _ HJ0.out).box.cell
  gi_wp2
  gi_loopw [7] (fun x wr => ∃ k : Nat, k ≤ R.length ∧ x = .int .i64 (k : Int) ∧ Hid (J W.heap.size k wr) ∧ Hid (Step W.heap.size W.heap.size W wr)) (fun x _ => R.length - (intOf x).toNat)
  case atStart => exact ⟨0, Nat.zero_le _, rfl, HJ0, Step.refl _ _ _⟩
  case round =>
    obtain ⟨k, hk, rfl, HJK, HST⟩ := hrel
    have HS := Lib.hid (HC.out _ _ _ HJK.out)
    by_cases hlt : k < R.length
    · have d : decide ((k : Int) < (R.length : Int)) = true := by simp; omega
      have dn : decide (k < R.length) = true := by simp; omega
      obtain ⟨b, o, rfl⟩ := HS.out.es.base (by omega)
      obtain ⟨p, hp⟩ : ∃ p, R[k]? = some p := ⟨_, List.getElem?_eq_getElem hlt⟩
      obtain ⟨d0, d1, d2, d3⟩ := HS.out.es.get hp
      obtain ⟨w4, hw4⟩ : ∃ w4, w4 = wr.alloc (.cells #[.slice p.2.kA p.1.key.length p.2.kc, .int .i64 p.1.seq, .int .i64 p.1.kind, .slice p.2.vA p.1.val.length p.2.vc] 25) := ⟨_, rfl⟩
      have HX4 : Hid (Ext wr w4) := by rw [hw4]; exact ext_alloc _ _
      have HM := Lib.hid ((HS.out.each p (List.mem_of_getElem? hp)).below HX4.out)
      have HPK := Lib.hid (HK.out p (List.mem_of_getElem? hp))
      have HCY := Lib.hid (copy_any HM.out.em (Nat.le_refl _) HPK.out.1 HPK.out.2)
      have HP := Lib.hid hp
      have HLT := Lib.hid hlt
      unfold Ent.at_ at HCY
      have n1 : (0 : Int) ≤ (k : Int) := by omega
      have n2 : (k : Int) < (R.length : Int) := by omega
      clear hp hlt hk
      subst hw4
      gi_wp2_with (first
        | (gi_at_call 40
           refine (callsIn_wide.2 HCY.out).mono ?_
           rintro x w5 ⟨hx5, g, rfl, hok, hov⟩
           have HX5 := Lib.hid (Ext.trans HX4.out hx5)
           have hj1 := HJ.out _ _ _ _ (Nat.le_refl _) HJK.out (Chg.of_ext HX5.out)
           have hmine : Mine W.heap.size (p.1, g) w5 := ⟨hok.base (Nat.le_trans HST.out.size HX4.out.size), hov.base (Nat.le_trans HST.out.size HX4.out.size), HM.out.good⟩
           obtain ⟨fn, tmps, assign, body, hy, hR⟩ := HY.out W.heap.size k (p.1, g) w5 (Nat.le_refl _) (Nat.le_trans HST.out.size HX5.out.size) hj1 HLT.out ⟨p, HP.out, rfl, hmine⟩
           dsimp only [seqV, Ent.at_] at hy
           unfold Ent.at_
           have HR := Lib.hid (roundIn_any (m' := 5) hR)
           clear hx5 hok hov hj1 hmine hR))
      refine RoundIn.mono HR.out ?_
      rintro x W3 ⟨hst, (⟨rfl, hj⟩ | ⟨rfl, hjx⟩)⟩
      · have HST3 := Lib.hid ((HST.out.trans (Step.of_chg (S := fun _ => False) (Chg.of_ext HX5.out) HST.out.size (fun _ _ _ h => h))).trans hst)
        have HJ3 := Lib.hid hj
        clear hst hj hy
        gi_wp2
        refine ⟨⟨k + 1, HLT.out, rfl, HJ3.out, HST3.out⟩, ?_⟩
        have := HLT.out; simp [intOf]; omega
      · have HX3 := Lib.hid hjx
        clear hst hjx hy
        gi_wp2
        refine bodyPost_ret (results_none rfl _ _ _) rfl ?_
        exact ⟨⟨_, rfl⟩, .inr HX3.out⟩
    · have hkl : k = R.length := by omega
      have d : decide ((k : Int) < (R.length : Int)) = false := by simp; omega
      have dn : decide (k < R.length) = false := by simp; omega
      have HKL := Lib.hid hkl
      clear hlt hk hkl
      gi_wp2
      go_end0
      exact ⟨⟨_, rfl⟩, .inl ⟨_, Nat.le_refl _, by rw [← HKL.out]; exact HJK.out⟩⟩
end Go.Proofs.Ytcofnbeemfhcpaa
