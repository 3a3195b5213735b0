/- read: the same reading of both readers. -/
import Derived.Test.YtdggemdgndiafaaRboth
namespace Go.Proofs.Ytdggemdgndiafaa
open Go.ChangeShapes Go.WideShapes Go.ChangeAt Go.RowKit

def Told (kind most : Int) (w : World) (r lo hi q lo2 hi2 : Nat) (l : List Nat) (e : Ending) (w' : World) : Prop :=
  ∃ (k : Int) (rest : List Nat), Reads kind most l k rest ∧ e = .returned (.tuple #[.int .i64 k, .bool true]) ∧ Both w' r lo hi q lo2 hi2 rest ∧ G2 r q w w'
theorem g2_alloc {r q : Nat} {w w' : World} {o : Obj} (h : G2 r q (w.alloc o) w') : G2 r q w w' := (g2_b ((Below.refl _ _).alloc (Nat.le_refl _) o)).trans h

set_option maxRecDepth 100000 in
set_option maxHeartbeats 4000000 in
theorem read_any (kind most : Int) (hm1 : -9223372036854775808 ≤ most) (hm2 : most ≤ 9223372036854775807) (r lo hi q lo2 hi2 : Nat) (l : List Nat) (w : World) (h : Both w r lo hi q lo2 hi2 l) (hl : l.length ≤ 1000000000000) :
    Calls Try.prog 28 #[.pointer (some ⟨r, 0, none⟩), .pointer (some ⟨q, 0, none⟩), .agg #[.int .i64 kind, .int .i64 most]] w (Told kind most w r lo hi q lo2 hi2 l) := by
  have HH := Lib.hid (h.alloc (.cells #[.int .i64 kind, .int .i64 most] 51))
  have HL := Lib.hid hl
  have HRL := Lib.hid h.rd.lt
  clear h hl
  by_cases e1 : kind = 1
  · subst e1
    clear hm1 hm2
    go_enter Try.func28, Try.ntmps28
    go_wp2_with fail
    refine (Number_out HH.out.rd).mono ?_
    rintro e w1 ⟨n, k, rest, ho, rfl, hr1, hg1⟩
    have hcell := box_cell hg1 HRL.out 1 rfl
    have HO := Lib.hid ho
    have HR1 := Lib.hid hr1
    have HG1 := Lib.hid hg1
    have HQ1 := Lib.hid (HH.out.q1 hg1)
    clear ho hr1 hg1
    go_wp2_with fail
    refine (RNumber_out HQ1.out).mono ?_
    rintro e w2 ⟨n', k', rest', ho', rfl, hq2, hg2⟩
    obtain ⟨rfl, rfl, rfl⟩ := HO.out.same ho'
    have HB := Lib.hid (HH.out.then HR1.out hg2 hq2)
    have HG := Lib.hid (g2_alloc ((g2_r (q := q) HG1.out).trans (g2_q (r := r) hg2)))
    have hnn : ((n : Int) == (n : Int)) = true := beq_self_eq_true _
    have hkk : (k == k) = true := beq_self_eq_true k
    clear ho' hq2 hg2
    go_wp2_with fail
    refine (errnum k _).mono ?_
    rintro e w3 ⟨rfl, rfl⟩
    go_wp2_with fail
    go_ret2
    exact ⟨k, rest, .inl ⟨rfl, n, HO.out⟩, rfl, HB.out, HG.out⟩
  by_cases e2 : kind = 2
  · subst e2
    clear e1 hm1 hm2
    go_enter Try.func28, Try.ntmps28
    go_wp2_with fail
    refine (Signed_out HH.out.rd).mono ?_
    rintro e w1 ⟨n, k, rest, ho, rfl, hr1, hg1⟩
    have hcell := box_cell hg1 HRL.out 1 rfl
    have HO := Lib.hid ho
    have HR1 := Lib.hid hr1
    have HG1 := Lib.hid hg1
    have HQ1 := Lib.hid (HH.out.q1 hg1)
    clear ho hr1 hg1
    go_wp2_with fail
    refine (RSigned_out HQ1.out).mono ?_
    rintro e w2 ⟨n', k', rest', ho', rfl, hq2, hg2⟩
    obtain ⟨rfl, rfl, rfl⟩ := HO.out.same ho'
    have HB := Lib.hid (HH.out.then HR1.out hg2 hq2)
    have HG := Lib.hid (g2_alloc ((g2_r (q := q) HG1.out).trans (g2_q (r := r) hg2)))
    have hnn : (n == n) = true := beq_self_eq_true _
    have hkk : (k == k) = true := beq_self_eq_true k
    clear ho' hq2 hg2
    go_wp2_with fail
    refine (errnum k _).mono ?_
    rintro e w3 ⟨rfl, rfl⟩
    go_wp2_with fail
    go_ret2
    exact ⟨k, rest, .inr (.inl ⟨rfl, n, HO.out⟩), rfl, HB.out, HG.out⟩
  by_cases e3 : kind = 3
  · subst e3
    clear e1 e2 hm1 hm2
    go_enter Try.func28, Try.ntmps28
    go_wp2_with fail
    refine (Flag_out HH.out.rd).mono ?_
    rintro e w1 ⟨n, k, rest, ho, rfl, hr1, hg1⟩
    have hcell := box_cell hg1 HRL.out 1 rfl
    have HO := Lib.hid ho
    have HR1 := Lib.hid hr1
    have HG1 := Lib.hid hg1
    have HQ1 := Lib.hid (HH.out.q1 hg1)
    clear ho hr1 hg1
    go_wp2_with fail
    refine (RFlag_out HQ1.out).mono ?_
    rintro e w2 ⟨n', k', rest', ho', rfl, hq2, hg2⟩
    obtain ⟨rfl, rfl, rfl⟩ := HO.out.same ho'
    have HB := Lib.hid (HH.out.then HR1.out hg2 hq2)
    have HG := Lib.hid (g2_alloc ((g2_r (q := q) HG1.out).trans (g2_q (r := r) hg2)))
    have hnn : (n == n) = true := beq_self_eq_true _
    have hkk : (k == k) = true := beq_self_eq_true k
    clear ho' hq2 hg2
    go_wp2_with fail
    refine (errnum k _).mono ?_
    rintro e w3 ⟨rfl, rfl⟩
    go_wp2_with fail
    go_ret2
    exact ⟨k, rest, .inr (.inr (.inl ⟨rfl, n, HO.out⟩)), rfl, HB.out, HG.out⟩
  by_cases e4 : kind = 4
  · subst e4
    clear e1 e2 e3
    go_enter Try.func28, Try.ntmps28
    go_wp2_with fail
    refine (Bytes_out HH.out.rd HL.out hm1 hm2).mono ?_
    rintro e w1 ⟨v, n, k, rest, ho, hbs, rfl, hr1, hg1⟩
    have hcell := box_cell hg1 HRL.out 1 rfl
    have hcell0 := box_cell hg1 HRL.out 0 rfl
    have HO := Lib.hid ho
    have HR1 := Lib.hid hr1
    have HG1 := Lib.hid hg1
    have HQ1 := Lib.hid (HH.out.q1 hg1)
    have HV := Lib.hid hbs
    obtain ⟨A, c, rfl, _, _, _, _⟩ := hbs
    rename_i y1 y2 y3 y4
    clear ho hr1 hg1 y1 y2 y3 y4
    by_cases hneg : most < 0
    · have d : decide (most < 0) = true := decide_eq_true hneg
      obtain ⟨rfl, rfl, rfl⟩ := HO.out.neg hneg
      have HB := Lib.hid (HH.out.then HR1.out (grown_refl w1 (some q)) HQ1.out)
      have HG := Lib.hid (g2_alloc ((g2_r (q := q) HG1.out)))
      clear hneg
      go_wp2_with fail
      refine (errnum 2 _).mono ?_
      rintro e w3 ⟨rfl, rfl⟩
      go_wp2_with fail
      go_ret2
      exact ⟨2, rest, .inr (.inr (.inr (.inl ⟨rfl, [], HO.out⟩))), rfl, HB.out, HG.out⟩
    · have d : decide (most < 0) = false := decide_eq_false hneg
      have h0 : 0 ≤ most := by omega
      clear hneg
      go_wp2_with fail
      refine (RBytes_out HQ1.out HL.out h0 hm2).mono ?_
      rintro e w2 ⟨v', n', k', rest', ho', hbs', rfl, hq2, hg2⟩
      obtain ⟨rfl, rfl, rfl⟩ := HO.out.same ho'
      have HB := Lib.hid (HH.out.then HR1.out hg2 hq2)
      have HG := Lib.hid (g2_alloc ((g2_r (q := q) HG1.out).trans (g2_q (r := r) hg2)))
      have hcv1 := cv (HV.out.grown hg2 (Nat.le_refl _) (fun k hk => by injection hk with hk; have := HH.out.qd.lt; omega))
      have hbs2 := hbs'
      obtain ⟨A', c', hv', _, _, _, _⟩ := hbs'
      rw [hv'] at hbs2
      have hcv2 := cv hbs2
      subst hv'
      rename_i y1 y2 y3 y4
      have hq : ((tx n).toList == (tx n).toList) = true := beq_self_eq_true _
      have hkk : (k == k) = true := beq_self_eq_true k
      clear ho' hq2 hg2 hbs2 y1 y2 y3 y4
      go_wp2_with fail
      refine (errnum k _).mono ?_
      rintro e w3 ⟨rfl, rfl⟩
      go_wp2_with fail
      go_ret2
      exact ⟨k, rest, .inr (.inr (.inr (.inl ⟨rfl, n, HO.out⟩))), rfl, HB.out, HG.out⟩
  by_cases e5 : kind = 5
  · subst e5
    clear e1 e2 e3 e4
    go_enter Try.func28, Try.ntmps28
    go_wp2_with fail
    refine (Take_out HH.out.rd HL.out hm1 hm2).mono ?_
    rintro e w1 ⟨v, n, k, rest, ho, hbs, rfl, hr1, hg1⟩
    have hcell := box_cell hg1 HRL.out 1 rfl
    have hcell0 := box_cell hg1 HRL.out 0 rfl
    have HO := Lib.hid ho
    have HR1 := Lib.hid hr1
    have HG1 := Lib.hid hg1
    have HQ1 := Lib.hid (HH.out.q1 hg1)
    have HV := Lib.hid hbs
    by_cases hneg : most < 0
    · obtain ⟨A, c, rfl, _, _, _⟩ := hbs
      rename_i y1 y2 y3
      clear ho hr1 hg1 y1 y2 y3
      have d : decide (most < 0) = true := decide_eq_true hneg
      obtain ⟨rfl, rfl, rfl⟩ := HO.out.neg hneg
      have HB := Lib.hid (HH.out.then HR1.out (grown_refl w1 (some q)) HQ1.out)
      have HG := Lib.hid (g2_alloc ((g2_r (q := q) HG1.out)))
      clear hneg
      go_wp2_with fail
      refine (errnum 2 _).mono ?_
      rintro e w3 ⟨rfl, rfl⟩
      go_wp2_with fail
      go_ret2
      exact ⟨2, rest, .inr (.inr (.inr (.inr (.inl ⟨rfl, [], HO.out⟩)))), rfl, HB.out, HG.out⟩
    · have d : decide (most < 0) = false := decide_eq_false hneg
      have h0 : 0 ≤ most := by omega
      clear hneg ho hr1 hg1 hbs
      go_wp2_with fail
      refine (RNumbers_out HQ1.out HL.out h0 hm2).mono ?_
      rintro e w2 ⟨v', n', k', rest', ho', hbs', rfl, hq2, hg2⟩
      obtain ⟨rfl, rfl, rfl⟩ := HO.out.same ho'
      have HB := Lib.hid (HH.out.then HR1.out hg2 hq2)
      have HG := Lib.hid (g2_alloc ((g2_r (q := q) HG1.out).trans (g2_q (r := r) hg2)))
      have HNM := Lib.hid (numbers_any _ _ n n w2 _ _ _ _ (HV.out.grown hg2 (Nat.le_refl _) (fun k hk => by injection hk with hk; have := HH.out.qd.lt; omega)) hbs')
      have hkk : (k == k) = true := beq_self_eq_true k
      have hq : decide (n = n) = true := by simp
      rw [hq] at HNM
      clear ho' hq2 hg2 hbs' hq
      go_wp2_with fail
      refine Calls.mono HNM.out ?_
      rintro e w4 ⟨rfl, hb4⟩
      have HB4 := Lib.hid (HB.out.below hb4)
      have HG4 := Lib.hid (HG.out.trans (g2_b hb4))
      clear hb4
      go_wp2_with fail
      refine (errnum k _).mono ?_
      rintro e w3 ⟨rfl, rfl⟩
      go_wp2_with fail
      go_ret2
      exact ⟨k, rest, .inr (.inr (.inr (.inr (.inl ⟨rfl, n, HO.out⟩)))), rfl, HB4.out, HG4.out⟩
  · have b1 : (kind == 1) = false := by rw [beq_eq_false_iff_ne]; exact e1
    have b2 : (kind == 2) = false := by rw [beq_eq_false_iff_ne]; exact e2
    have b3 : (kind == 3) = false := by rw [beq_eq_false_iff_ne]; exact e3
    have b4 : (kind == 4) = false := by rw [beq_eq_false_iff_ne]; exact e4
    have b5 : (kind == 5) = false := by rw [beq_eq_false_iff_ne]; exact e5
    have HE := Lib.hid (And.intro e1 (And.intro e2 (And.intro e3 (And.intro e4 e5))))
    clear e1 e2 e3 e4 e5
    go_enter Try.func28, Try.ntmps28
    go_wp2_with fail
    go_ret2
    exact ⟨0, l, .inr (.inr (.inr (.inr (.inr ⟨HE.out, rfl, rfl⟩)))), rfl, HH.out, g2_alloc (G2.refl _ _ _)⟩
end Go.Proofs.Ytdggemdgndiafaa
