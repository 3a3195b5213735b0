/- Krent Krread Krbget, joined. -/
import Derived.Test.YtbafmfdlbicadaaMb13
import Derived.Test.YtbafmfdlbicadaaMb6
import Derived.Test.YtbafmfdlbicadaaMb9
import Derived.OwnWalk
import Derived.Test.YtbafmfdlbicadaaMb10

/- The reference's entry: the next of a block's bytes. -/
namespace Go.Proofs.Ytbafmfdlbicadaa
open Go.ChangeShapes Go.WideShapes Go.ChangeAt Go.RowKit

theorem Qd.set {w : World} {r lo hi g j : Nat} {l : List Nat} (h : Qd w r lo hi l) (hg : hi ≤ g) (hr : r ≠ g) (u : Value) : Qd (w.setCell ⟨g, j, none⟩ u) r lo hi l := by
  obtain ⟨v, h1, h2⟩ := h.ex
  exact ⟨⟨v, (Below.heap_setCell _ _ _ _ hr).trans h1, h2.setCell (.inr hg) u⟩, h.apart, by have := h.top; simpa [World.setCell] using this, h.byt⟩
/-- What the reference's entry answers. -/
def REntAns (ah l : List Nat) (w : World) (r lo hi : Nat) (x : Ending) (w' : World) : Prop :=
  w.grownBy w' (some r) ∧ ((∃ (e : Ent) (g : Hd) (rest : List Nat), Stands ah l e rest ∧ x = .returned (.tuple #[e.at_ g, .bool true]) ∧ Qd w' r lo hi rest ∧ Em w' w.heap.size w'.heap.size e g) ∨
    ((∃ (e : Ent) (g : Hd), x = .returned (.tuple #[e.at_ g, .bool false])) ∧ ∀ e rest, ¬ Stands ah l e rest))
theorem Stands.of {ah l l1 l2 l3 l4 rest sb vb : List Nat} {n sq kd : Nat} (hn : n ≤ ah.length) (h0 : l = form n ++ l1) (h1 : l1 = bytesForm sb ++ l2) (h2 : l2 = form sq ++ l3) (h3 : l3 = form kd ++ l4)
    (h4 : l4 = (if (kd : Int) = 1 then bytesForm vb else []) ++ rest) (hm : mayN (ah.take n ++ sb).length (sq : Int) (kd : Int) vb.length = true) : Stands ah l ⟨ah.take n ++ sb, sq, kd, vb⟩ rest := by
  have hl : (ah.take n).length = n := by rw [List.length_take]; omega
  have e1 : (ah.take n ++ sb).take n = ah.take n := by
    rw [List.take_append_of_le_length (by omega), List.take_of_length_le (by omega)]
  have e2 : (ah.take n ++ sb).drop n = sb := by
    rw [List.drop_append_of_le_length (by omega), List.drop_of_length_le (by omega), List.nil_append]
  refine ⟨hm, n, hn, by rw [List.length_append]; omega, e1.symm, ?_⟩
  show l = form n ++ (bytesForm ((ah.take n ++ sb).drop n) ++ (form (sq : Int).toNat ++ (form (kd : Int).toNat ++ ((if (kd : Int) = 1 then bytesForm vb else []) ++ rest))))
  rw [e2, Int.toNat_natCast, Int.toNat_natCast, h0, h1, h2, h3, h4]

set_option maxRecDepth 100000 in
set_option maxHeartbeats 16000000 in
theorem rent_any {w : World} {r lo hi lo2 hi2 c : Nat} {l ah : List Nat} {A : Option Addr} (h : Qd w r lo hi l) (hv : Bs w lo2 hi2 (.slice A ah.length c) ah) (hhi2 : hi2 ≤ w.heap.size) (hr2 : r < lo2 ∨ hi2 ≤ r) (hah : ∀ x ∈ ah, x < 256) (hal : ah.length ≤ 1000000000000) (hl : l.length ≤ 1000000000000) :
    Calls Try.prog 43 #[.pointer (some ⟨r, 0, none⟩), .slice A ah.length c] w (REntAns ah l w r lo hi) := by
  obtain ⟨w1, hw1⟩ : ∃ w1, w1 = w.alloc (.cells #[.slice none 0 0, .int .i64 0, .int .i64 0, .slice none 0 0] 46) := ⟨_, rfl⟩
  have HX1 : Hid (Ext w w1) := by rw [hw1]; exact ext_alloc _ _
  have HZ1 : Hid (w1.heap.size = w.heap.size + 1) := by rw [hw1]; simp [Hid]
  have HR1 : Hid (w1.heap[w.heap.size]? = some (.cells #[.slice none 0 0, .int .i64 0, .int .i64 0, .slice none 0 0] 46 (0, 0))) := by rw [hw1]; exact heap_at _ _ rfl
  have HV := Lib.hid (hv.below HX1.out hhi2)
  have HQ1 := Lib.hid (h.below HX1.out h.top h.lt)
  have HTOP := Lib.hid h.top
  have HRW := Lib.hid h.lt
  have HH := Lib.hid (And.intro hhi2 hr2)
  have HAH := Lib.hid hah
  have HL := Lib.hid (And.intro hal hl)
  have HBYT := Lib.hid h.byt
  have HRB : Hid (∀ u : World, w1.grownBy u (some r) → u.heap[w.heap.size]? = some (.cells #[.slice none 0 0, .int .i64 0, .int .i64 0, .slice none 0 0] 46 (0, 0))) := fun u hg =>
    (hg.block _ (by rw [HZ1.out]; omega) (fun e => by injection e with e; have := HRW.out; omega)).trans HR1.out
  have HWG : Hid (∀ u : World, w1.grownBy u (some r) → w.grownBy u (some r)) := fun u hg =>
    ⟨hg.os.trans HX1.out.os, hg.tape.trans HX1.out.tape, hg.output.trans HX1.out.output, Nat.le_trans HX1.out.size hg.size, fun i hi hne => (hg.block i (Nat.lt_of_lt_of_le hi HX1.out.size) hne).trans (HX1.out.block i hi)⟩
  have hu : IntKind.u64.wrap (ah.length : Int) = (ah.length : Int) := by rw [IntKind.wrap_u64]; omega
  have HC : Hid (ah.length ≤ c ∧ c ≤ maxLen) := by obtain ⟨_, _, e1, h1, h2, _⟩ := hv; injection e1 with _ _ e3; rw [e3]; exact ⟨h1, h2⟩
  clear h hv hhi2 hr2 hah hal hl
  go_enter Try.func43, Try.ntmps43
  go_wp2_with fail
  rw [← hw1]
  clear hw1
  refine (RNumber_out HQ1.out).mono ?_
  rintro x w2 ⟨n, k1, l1, ho, rfl, hqd, hg⟩
  have HO1 := Lib.hid ho
  have HQ2 := Lib.hid hqd
  have HG2 := Lib.hid hg
  clear ho hqd hg HQ1
  by_cases hk : k1 = 0
  rotate_left
  · have hk1 : (k1 != 0) = true := by simpa using hk
    have HNO : Hid (∀ e rest, ¬ Stands ah l e rest) := fun e rest hs => by
      obtain ⟨m, r9, hb, _⟩ := hs.num
      exact hk (HO1.out.same (.inl ⟨rfl, hb.n64, hb.eq⟩)).2.1
    clear hk
    have HRM := Lib.hid (HRB.out _ HG2.out)
    have q0 := cell_of HRM.out (k := 0) rfl
    have q1 := cell_of HRM.out (k := 1) rfl
    have q2 := cell_of HRM.out (k := 2) rfl
    have q3 := cell_of HRM.out (k := 3) rfl
    have z0 := frozen_four HRM.out (j := 0)
    have z1 := frozen_four HRM.out (j := 1)
    have z2 := frozen_four HRM.out (j := 2)
    have z3 := frozen_four HRM.out (j := 3)
    go_wp2_with fail
    refine entry_ret (p := 4) (q := 5) (by kernel_rfl) rfl rfl rfl (set_four HRM.out) ?_
    exact ⟨grown_new (grown_new (grown_new (grown_new (HWG.out _ HG2.out) (Nat.le_refl _)) (Nat.le_refl _)) (Nat.le_refl _)) (Nat.le_refl _), .inr ⟨⟨⟨[], 0, 0, []⟩, ⟨none, 0, none, 0⟩, rfl⟩, HNO.out⟩⟩
  subst hk
  have HB : Hid (Begins l n l1) := by
    rcases HO1.out with ⟨_, hb⟩ | ⟨h0, _⟩
    · exact hb
    · exact absurd h0 (by decide)
  by_cases hn : ah.length < n
  · have d : decide (ah.length < n) = true := by simpa using hn
    have dI : decide ((ah.length : Int) < (n : Int)) = true := by simp; omega
    have HNO : Hid (∀ e rest, ¬ Stands ah l e rest) := fun e rest hs => by
      have h1 := (hs.one HB.out).1
      omega
    clear hn
    have HRM := Lib.hid (HRB.out _ HG2.out)
    have q0 := cell_of HRM.out (k := 0) rfl
    have q1 := cell_of HRM.out (k := 1) rfl
    have q2 := cell_of HRM.out (k := 2) rfl
    have q3 := cell_of HRM.out (k := 3) rfl
    have z0 := frozen_four HRM.out (j := 0)
    have z1 := frozen_four HRM.out (j := 1)
    have z2 := frozen_four HRM.out (j := 2)
    have z3 := frozen_four HRM.out (j := 3)
    go_wp2_with fail
    refine entry_ret (p := 4) (q := 5) (by kernel_rfl) rfl rfl rfl (set_four HRM.out) ?_
    exact ⟨grown_new (grown_new (grown_new (grown_new (HWG.out _ HG2.out) (Nat.le_refl _)) (Nat.le_refl _)) (Nat.le_refl _)) (Nat.le_refl _), .inr ⟨⟨⟨[], 0, 0, []⟩, ⟨none, 0, none, 0⟩, rfl⟩, HNO.out⟩⟩
  have d : decide (ah.length < n) = false := by simpa using hn
  have dI : decide ((ah.length : Int) < (n : Int)) = false := by simp; omega
  have HN : Hid (n ≤ ah.length) := by unfold Hid; omega
  clear hn
  have HL1 : Hid (l1.length < l.length) := by
    have h1 := HB.out.eq
    have h2 := congrArg List.length h1
    rw [List.length_append] at h2
    have := form_pos n
    unfold Hid; omega
  go_wp2_with fail
  refine (RBytes_slice HQ2.out (Nat.le_trans (Nat.le_of_lt HL1.out) HL.out.2) (by decide) (by decide)).mono ?_
  rintro x w3 ⟨sA, sc, sb, k2, l2, ho, hbs, rfl, hqd, hg⟩
  have HO2 := Lib.hid ho
  have HS3 := Lib.hid hbs
  have HQ3 := Lib.hid hqd
  have HG3 := Lib.hid (HG2.out.trans hg)
  have HZ3 : Hid (w1.heap.size ≤ w2.heap.size ∧ w2.heap.size ≤ w3.heap.size) := ⟨HG2.out.size, hg.size⟩
  clear ho hbs hqd hg HQ2
  go_wp2_with fail
  refine (RNumber_out HQ3.out).mono ?_
  rintro x w4 ⟨sq, k3, l3, ho, rfl, hqd, hg⟩
  have HO3 := Lib.hid ho
  have HS4 := Lib.hid (HS3.out.grown hg (Nat.le_refl _) (fun k hk => by injection hk with hk; left; have := HRW.out; have := HZ1.out; have := HZ3.out; omega))
  have HQ4 := Lib.hid hqd
  have HG4 := Lib.hid (HG3.out.trans hg)
  have HZ4 : Hid (w3.heap.size ≤ w4.heap.size) := hg.size
  clear ho hqd hg HQ3
  go_wp2_with fail
  refine (RNumber_out HQ4.out).mono ?_
  rintro x w5 ⟨kd, k4, l4, ho, rfl, hqd, hg⟩
  have HO4 := Lib.hid ho
  have HS5 := Lib.hid (HS4.out.grown hg HZ4.out (fun k hk => by injection hk with hk; left; have := HRW.out; have := HZ1.out; have := HZ3.out; omega))
  have HQ5 := Lib.hid hqd
  have HG5 := Lib.hid (HG4.out.trans hg)
  have HZ5 : Hid (w3.heap.size ≤ w5.heap.size) := Nat.le_trans HZ4.out hg.size
  clear ho hqd hg HQ4
  have HALL : Hid (∀ e rest, Stands ah l e rest → (k2 = 0 ∧ k3 = 0 ∧ k4 = 0) ∧ e.key = ah.take n ++ sb ∧ e.seq = (sq : Int) ∧ e.kind = (kd : Int) ∧ Stands4 l4 e rest) := fun e rest hs => by
    obtain ⟨_, h1⟩ := hs.one HB.out
    obtain ⟨a2, h2, h3⟩ := h1.two HO2.out
    obtain ⟨a3, h4, h5⟩ := h3.three HO3.out
    obtain ⟨a4, h6, h7⟩ := h5.four HO4.out
    exact ⟨⟨a2, a3, a4⟩, h2, h4, h6, h7⟩
  have HBD : Hid (∀ e rest, Stands ah l e rest → sq ≤ 2147483647 ∧ 1 ≤ kd ∧ kd ≤ 2) := fun e rest hs => by
    obtain ⟨_, _, h3, h4, _⟩ := HALL.out e rest hs
    obtain ⟨b1, b2, b3, b4, b5⟩ := mayN_iff.1 hs.1
    refine ⟨by omega, ?_, ?_⟩ <;> rcases b5 with ⟨b, _⟩ | ⟨b, _⟩ <;> omega
  by_cases hc : k2 = 0
  rotate_left
  · have HNO : Hid (∀ e rest, ¬ Stands ah l e rest) := fun e rest hs => hc (HALL.out e rest hs).1.1
    have g : (k2 != 0) = true := by simpa using hc
    clear hc
    have HRM := Lib.hid (HRB.out _ HG5.out)
    have q0 := cell_of HRM.out (k := 0) rfl
    have q1 := cell_of HRM.out (k := 1) rfl
    have q2 := cell_of HRM.out (k := 2) rfl
    have q3 := cell_of HRM.out (k := 3) rfl
    have z0 := frozen_four HRM.out (j := 0)
    have z1 := frozen_four HRM.out (j := 1)
    have z2 := frozen_four HRM.out (j := 2)
    have z3 := frozen_four HRM.out (j := 3)
    go_wp2_with fail
    refine entry_ret (p := 4) (q := 5) (by kernel_rfl) rfl rfl rfl (set_four HRM.out) ?_
    exact ⟨grown_new (grown_new (grown_new (grown_new (HWG.out _ HG5.out) (Nat.le_refl _)) (Nat.le_refl _)) (Nat.le_refl _)) (Nat.le_refl _), .inr ⟨⟨⟨[], 0, 0, []⟩, ⟨none, 0, none, 0⟩, rfl⟩, HNO.out⟩⟩
  subst hc
  by_cases hc : k3 = 0
  rotate_left
  · have HNO : Hid (∀ e rest, ¬ Stands ah l e rest) := fun e rest hs => hc (HALL.out e rest hs).1.2.1
    have g : (k3 != 0) = true := by simpa using hc
    clear hc
    have HRM := Lib.hid (HRB.out _ HG5.out)
    have q0 := cell_of HRM.out (k := 0) rfl
    have q1 := cell_of HRM.out (k := 1) rfl
    have q2 := cell_of HRM.out (k := 2) rfl
    have q3 := cell_of HRM.out (k := 3) rfl
    have z0 := frozen_four HRM.out (j := 0)
    have z1 := frozen_four HRM.out (j := 1)
    have z2 := frozen_four HRM.out (j := 2)
    have z3 := frozen_four HRM.out (j := 3)
    go_wp2_with fail
    refine entry_ret (p := 4) (q := 5) (by kernel_rfl) rfl rfl rfl (set_four HRM.out) ?_
    exact ⟨grown_new (grown_new (grown_new (grown_new (HWG.out _ HG5.out) (Nat.le_refl _)) (Nat.le_refl _)) (Nat.le_refl _)) (Nat.le_refl _), .inr ⟨⟨⟨[], 0, 0, []⟩, ⟨none, 0, none, 0⟩, rfl⟩, HNO.out⟩⟩
  subst hc
  by_cases hc : k4 = 0
  rotate_left
  · have HNO : Hid (∀ e rest, ¬ Stands ah l e rest) := fun e rest hs => hc (HALL.out e rest hs).1.2.2
    have g : (k4 != 0) = true := by simpa using hc
    clear hc
    have HRM := Lib.hid (HRB.out _ HG5.out)
    have q0 := cell_of HRM.out (k := 0) rfl
    have q1 := cell_of HRM.out (k := 1) rfl
    have q2 := cell_of HRM.out (k := 2) rfl
    have q3 := cell_of HRM.out (k := 3) rfl
    have z0 := frozen_four HRM.out (j := 0)
    have z1 := frozen_four HRM.out (j := 1)
    have z2 := frozen_four HRM.out (j := 2)
    have z3 := frozen_four HRM.out (j := 3)
    go_wp2_with fail
    refine entry_ret (p := 4) (q := 5) (by kernel_rfl) rfl rfl rfl (set_four HRM.out) ?_
    exact ⟨grown_new (grown_new (grown_new (grown_new (HWG.out _ HG5.out) (Nat.le_refl _)) (Nat.le_refl _)) (Nat.le_refl _)) (Nat.le_refl _), .inr ⟨⟨⟨[], 0, 0, []⟩, ⟨none, 0, none, 0⟩, rfl⟩, HNO.out⟩⟩
  subst hc
  by_cases hc : sq ≤ 2147483647
  rotate_left
  · have HNO : Hid (∀ e rest, ¬ Stands ah l e rest) := fun e rest hs => hc (HBD.out e rest hs).1
    have g : decide ((2147483647 : Int) < (sq : Int)) = true := by simp; omega
    have gn : decide (2147483647 < sq) = true := by simp; omega
    clear hc
    have HRM := Lib.hid (HRB.out _ HG5.out)
    have q0 := cell_of HRM.out (k := 0) rfl
    have q1 := cell_of HRM.out (k := 1) rfl
    have q2 := cell_of HRM.out (k := 2) rfl
    have q3 := cell_of HRM.out (k := 3) rfl
    have z0 := frozen_four HRM.out (j := 0)
    have z1 := frozen_four HRM.out (j := 1)
    have z2 := frozen_four HRM.out (j := 2)
    have z3 := frozen_four HRM.out (j := 3)
    go_wp2_with fail
    refine entry_ret (p := 4) (q := 5) (by kernel_rfl) rfl rfl rfl (set_four HRM.out) ?_
    exact ⟨grown_new (grown_new (grown_new (grown_new (HWG.out _ HG5.out) (Nat.le_refl _)) (Nat.le_refl _)) (Nat.le_refl _)) (Nat.le_refl _), .inr ⟨⟨⟨[], 0, 0, []⟩, ⟨none, 0, none, 0⟩, rfl⟩, HNO.out⟩⟩
  have g5 : decide ((2147483647 : Int) < (sq : Int)) = false := by simp; omega
  have g5n : decide (2147483647 < sq) = false := by simp; omega
  have HSQ := Lib.hid hc
  clear hc
  by_cases hc : 1 ≤ kd
  rotate_left
  · have HNO : Hid (∀ e rest, ¬ Stands ah l e rest) := fun e rest hs => hc (HBD.out e rest hs).2.1
    obtain rfl : kd = 0 := by omega
    clear hc
    have HRM := Lib.hid (HRB.out _ HG5.out)
    have q0 := cell_of HRM.out (k := 0) rfl
    have q1 := cell_of HRM.out (k := 1) rfl
    have q2 := cell_of HRM.out (k := 2) rfl
    have q3 := cell_of HRM.out (k := 3) rfl
    have z0 := frozen_four HRM.out (j := 0)
    have z1 := frozen_four HRM.out (j := 1)
    have z2 := frozen_four HRM.out (j := 2)
    have z3 := frozen_four HRM.out (j := 3)
    go_wp2_with fail
    refine entry_ret (p := 4) (q := 5) (by kernel_rfl) rfl rfl rfl (set_four HRM.out) ?_
    exact ⟨grown_new (grown_new (grown_new (grown_new (HWG.out _ HG5.out) (Nat.le_refl _)) (Nat.le_refl _)) (Nat.le_refl _)) (Nat.le_refl _), .inr ⟨⟨⟨[], 0, 0, []⟩, ⟨none, 0, none, 0⟩, rfl⟩, HNO.out⟩⟩
  have g6 : decide ((kd : Int) < 1) = false := by simp; omega
  have g6n : decide (kd < 1) = false := by simp; omega
  have g6z : decide (kd = 0) = false := by simp; omega
  have g6e : (kd == 0) = false := by simp; omega
  have HK1 := Lib.hid hc
  clear hc
  by_cases hc : kd ≤ 2
  rotate_left
  · have HNO : Hid (∀ e rest, ¬ Stands ah l e rest) := fun e rest hs => hc (HBD.out e rest hs).2.2
    have g : decide ((2 : Int) < (kd : Int)) = true := by simp; omega
    have gn : decide (2 < kd) = true := by simp; omega
    clear hc
    have HRM := Lib.hid (HRB.out _ HG5.out)
    have q0 := cell_of HRM.out (k := 0) rfl
    have q1 := cell_of HRM.out (k := 1) rfl
    have q2 := cell_of HRM.out (k := 2) rfl
    have q3 := cell_of HRM.out (k := 3) rfl
    have z0 := frozen_four HRM.out (j := 0)
    have z1 := frozen_four HRM.out (j := 1)
    have z2 := frozen_four HRM.out (j := 2)
    have z3 := frozen_four HRM.out (j := 3)
    go_wp2_with fail
    refine entry_ret (p := 4) (q := 5) (by kernel_rfl) rfl rfl rfl (set_four HRM.out) ?_
    exact ⟨grown_new (grown_new (grown_new (grown_new (HWG.out _ HG5.out) (Nat.le_refl _)) (Nat.le_refl _)) (Nat.le_refl _)) (Nat.le_refl _), .inr ⟨⟨⟨[], 0, 0, []⟩, ⟨none, 0, none, 0⟩, rfl⟩, HNO.out⟩⟩
  have g7 : decide ((2 : Int) < (kd : Int)) = false := by simp; omega
  have g7n : decide (2 < kd) = false := by simp; omega
  have HK2 := Lib.hid hc
  clear hc
  have HE1 : Hid (l = form n ++ l1) := HB.out.eq
  have HE2 : Hid (l1 = bytesForm sb ++ l2) := HO2.out.zero
  have HE3 : Hid (l2 = form sq ++ l3) := HO3.out.zero
  have HE4 : Hid (l3 = form kd ++ l4) := HO4.out.zero
  have HS32 : Hid (sb.length ≤ 32) := by
    rcases HO2.out with ⟨_, h1, _⟩ | ⟨h0, _⟩
    · unfold Hid; omega
    · exact absurd rfl h0
  have HSB : Hid (∀ x ∈ sb, x < 256) := fun x hx => HBYT.out x (by rw [HE1.out, HE2.out]; exact List.mem_append.2 (.inr (List.mem_append.2 (.inl (List.mem_append.2 (.inr hx))))))
  have HSUB : Hid (∀ x ∈ l4, x ∈ l) := fun x hx => by rw [HE1.out, HE2.out, HE3.out, HE4.out]; simp [hx]
  have HL4 : Hid (l4.length ≤ 1000000000000) := by
    have := HL.out; have := HO2.out.len.2.1; have := HO3.out.len.1; have := HO4.out.len.1; have := HL1.out; unfold Hid; omega
  obtain ⟨A2, hA2, hA2n, hrun⟩ := head_run .u64 A ah.length c n HN.out HC.out.1
  have hrun' : ∀ w, (Instr.slice 22 (.slice A ah.length c) none (some (.int .u64 (n : Int))) none).run Try.prog w = .ok (.slice A2 n c) w := hrun
  have HAB : Hid (Bs w5 lo2 hi2 (.slice A2 n c) (ah.take n)) := by
    obtain ⟨A', c', e1, h1, h2, h3, h4⟩ := HV.out
    injection e1 with e1 e2 e3
    subst e1 e3
    have hl : (ah.take n).length = n := by rw [List.length_take]; have := HN.out; omega
    have h5 : By w5 lo2 hi2 A ah := Sl.grown h4 HG5.out (by have := HH.out.1; have := HZ1.out; omega) (fun k hk => by injection hk with hk; have := HH.out.2; omega)
    have h6 := hA2 ah rfl _ _ _ h5
    exact ⟨A2, c, by rw [hl], by rw [hl]; have := HN.out; have := HC.out.1; omega, h2, fun e => h3 (hA2n e), h6⟩
  clear hA2 hA2n hrun
  have e1 : wrap64 (sq : Int) = (sq : Int) := wrap_small (by have := HSQ.out; omega)
  have e2 : wrap64 (kd : Int) = (kd : Int) := wrap_small (by have := HK2.out; omega)
  have e1' : IntKind.i64.wrap (sq : Int) = (sq : Int) := by have := HSQ.out; rw [IntKind.wrap_i64]; omega
  have e2' : IntKind.i64.wrap (kd : Int) = (kd : Int) := by have := HK2.out; rw [IntKind.wrap_i64]; omega
  obtain ⟨p0, hp0⟩ : ∃ p, p = ah.take n := ⟨_, rfl⟩
  have HP0 := Lib.hid hp0
  have HP0L : Hid (p0.length ≤ 1000000000000) := by rw [hp0]; have := HL.out.1; unfold Hid; rw [List.length_take]; omega
  have HP0B : Hid (∀ x ∈ p0, x < 256) := fun x hx => HAH.out x (List.mem_of_mem_take (by rw [← hp0]; exact hx))
  rw [← hp0] at HAB
  clear hp0
  go_wp2_with (at_builtin; refine wpList_addbytes rfl (.const (.slice none 0 0)) (.tmp 72) rfl w5.heap.size _ [] rfl (Own.nil _ _) lo2 hi2 _ p0 rfl HAB.out (by have := HP0L.out; simp; omega) (Nat.le_refl _) ?_)
  intro A6 c6 w6 ho6 hb6

  have HO6 := Lib.hid ho6
  have HX6 : Hid (Ext w5 w6) := hb6 _ (Below.refl _ _)
  have HS6 := Lib.hid (HS5.out.below HX6.out HZ5.out)
  obtain ⟨key, hkey⟩ : ∃ key, key = p0 ++ sb := ⟨_, rfl⟩
  have HKEY := Lib.hid hkey
  clear ho6 hb6 hrun' hkey
  go_wp2_with (at_builtin; refine wpList_addbytes rfl (.tmp 73) (.tmp 74) rfl w5.heap.size _ p0 rfl HO6.out w2.heap.size w3.heap.size _ sb rfl HS6.out (by have := HP0L.out; have := HS32.out; omega) HX6.out.size ?_)
  intro kA kc w7 ho7 hb7
  have hln : p0.length + sb.length = key.length := by rw [HKEY.out, List.length_append]
  rw [hln] at ho7 ⊢
  rw [← HKEY.out] at ho7
  clear hln
  have HX7 : Hid (Ext w5 w7) := hb7 _ HX6.out
  have HO7 := Lib.hid ho7
  have HKB : Hid (∀ x ∈ key, x < 256) := fun x hx => by
    rw [HKEY.out] at hx
    rcases List.mem_append.1 hx with hx | hx
    · exact HP0B.out x hx
    · exact HSB.out x hx
  clear ho7 hb7 d dI
  by_cases hk1 : kd = 1
  · subst hk1
    have e3 : ((1 : Int) == 1) = true := rfl
    go_upto_region 11 with (fail)
    obtain ⟨w8, hw8⟩ : ∃ w8, w8 = w7.alloc (.cells #[.slice kA key.length kc, .int .i64 (sq : Int), .int .i64 1, .slice none 0 0] 46) := ⟨_, rfl⟩
    rw [← hw8]
    have HX8 : Hid (Ext w7 w8) := by rw [hw8]; exact ext_alloc _ _
    have HB8 : Hid (w8.heap[w7.heap.size]? = some (.cells #[.slice kA key.length kc, .int .i64 (sq : Int), .int .i64 1, .slice none 0 0] 46 (0, 0))) := by rw [hw8]; exact heap_at _ _ rfl
    have HZ8 : Hid (w8.heap.size = w7.heap.size + 1) := by rw [hw8]; simp [Hid]
    have HX58 : Hid (Ext w5 w8) := Ext.trans HX7.out HX8.out
    have HQ8 := Lib.hid (HQ5.out.below HX58.out HQ5.out.top HQ5.out.lt)
    have HG8 := Lib.hid (grown_ext HG5.out HX58.out)
    obtain ⟨g, hg⟩ : ∃ g, g = w7.heap.size := ⟨_, rfl⟩
    have HGG : Hid (w1.heap.size ≤ g ∧ w5.heap.size ≤ g ∧ r < w.heap.size ∧ w8.heap.size = g + 1 ∧ w1.heap.size = w.heap.size + 1) := by have := HG5.out.size; have := HX7.out.size; have := HZ8.out; have := HRW.out; have := HZ1.out; unfold Hid; omega
    have HK8 : Hid (Own w1.heap.size key (.slice kA key.length kc) w8) := (HO7.out.below HX8.out).base HG5.out.size
    have HKG : Hid (∀ b, (Value.slice kA key.length kc).ownBlock = some b → b < g) := fun b hb => by rw [hg]; exact (row_lt HO7.out b hb).2
    rw [← hg] at HB8 ⊢
    clear hw8 hg
    go_wp2_with fail
    refine (RBytes_slice HQ8.out HL4.out (by decide) (by decide)).mono ?_
    rintro x w9 ⟨vA, vc, vb, k5, l5, ho5, hbs, rfl, hqd, hg⟩
    have HO5 := Lib.hid ho5
    have HV9 := Lib.hid hbs
    have HQ9 := Lib.hid hqd
    have HG9 := Lib.hid (HG8.out.trans hg)
    have HZ9 : Hid (w8.heap.size ≤ w9.heap.size) := hg.size
    have HE9 : Hid (w9.heap[g]? = some (.cells #[.slice kA key.length kc, .int .i64 (sq : Int), .int .i64 1, .slice none 0 0] 46 (0, 0))) := (hg.block g (Array.getElem?_eq_some_iff.1 HB8.out).1 (fun e => by injection e with e; have := HGG.out; omega)).trans HB8.out
    have HK9 : Hid (Own w1.heap.size key (.slice kA key.length kc) w9) := HK8.out.grown hg (by have := HGG.out; omega)
    clear ho5 hbs hqd hg
    by_cases hk5 : k5 = 0
    rotate_left
    · have g5' : (k5 != 0) = true := by simpa using hk5
      have HNO : Hid (∀ e rest, ¬ Stands ah l e rest) := fun e rest hs => by
        obtain ⟨_, _, _, h3, h4⟩ := HALL.out e rest hs
        exact hk5 (h4.put h3 HO5.out).1
      clear hk5
      have HRM := Lib.hid (HRB.out _ HG9.out)
      have q0 := cell_of HRM.out (k := 0) rfl
      have q1 := cell_of HRM.out (k := 1) rfl
      have q2 := cell_of HRM.out (k := 2) rfl
      have q3 := cell_of HRM.out (k := 3) rfl
      have z0 := frozen_four HRM.out (j := 0)
      have z1 := frozen_four HRM.out (j := 1)
      have z2 := frozen_four HRM.out (j := 2)
      have z3 := frozen_four HRM.out (j := 3)
      go_wp2_with fail
      refine entry_ret (p := 4) (q := 5) (by kernel_rfl) rfl rfl rfl (set_four HRM.out) ?_
      exact ⟨grown_new (grown_new (grown_new (grown_new (HWG.out _ HG9.out) (Nat.le_refl _)) (Nat.le_refl _)) (Nat.le_refl _)) (Nat.le_refl _), .inr ⟨⟨⟨[], 0, 0, []⟩, ⟨none, 0, none, 0⟩, rfl⟩, HNO.out⟩⟩
    subst hk5
    obtain ⟨wz, hwz⟩ : ∃ wz, wz = w9.setCell ⟨g, 3, none⟩ (.slice vA vb.length vc) := ⟨_, rfl⟩
    have HEZ : Hid (wz.heap[g]? = some (.cells #[.slice kA key.length kc, .int .i64 (sq : Int), .int .i64 1, .slice vA vb.length vc] 46 (0, 0))) := by rw [hwz]; exact heap_setCell_same w9 g 3 _ _ _ HE9.out
    have HGZ : Hid (w1.grownBy wz (some r)) := by rw [hwz]; exact grown_new HG9.out HGG.out.1
    have HQZ : Hid (Qd wz r lo hi l5) := by rw [hwz]; exact HQ9.out.set (by have := HTOP.out; have := HGG.out; omega) (by have := HGG.out; omega) _
    have HKZ : Hid (Own w1.heap.size key (.slice kA key.length kc) wz) := by
      rw [hwz]; exact HK9.out.wall fun b hb => Below.heap_setCell _ _ _ _ (by have := HKG.out b hb; show b ≠ g; omega)
    have HVZ : Hid (Bs wz w8.heap.size w9.heap.size (.slice vA vb.length vc) vb) := by rw [hwz]; exact HV9.out.setCell (.inl (by have := HGG.out; show g < w8.heap.size; omega)) _
    have HZZ : Hid (wz.heap.size = w9.heap.size) := by rw [hwz]; simp [Hid, World.setCell]
    have c3 := cell_of HE9.out (k := 3) rfl
    have z3 := frozen_four (j := 3) HE9.out
    obtain ⟨z, hz⟩ : ∃ z, z = mayN key.length (sq : Int) 1 vb.length := ⟨_, rfl⟩
    have HMAY : Hid (∀ u, Calls Try.prog 54 #[.agg #[.slice kA key.length kc, .int .i64 (sq : Int), .int .i64 1, .slice vA vb.length vc]] u fun e w' => e = .returned (.bool z) ∧ Ext u w') := fun u => by
      rw [hz]; exact rmay_any kA vA key.length kc vb.length vc (sq : Int) 1 u
    have HST : Hid (z = true → Stands ah l ⟨key, sq, 1, vb⟩ l5) := fun ht => by
      have hm : mayN (ah.take n ++ sb).length (sq : Int) ((1 : Nat) : Int) vb.length = true := by rw [← HP0.out, ← HKEY.out, ← ht, hz]; rfl
      have hs := Stands.of HN.out HE1.out HE2.out HE3.out HE4.out (by rw [if_pos (by rfl)]; exact HO5.out.zero) hm
      rw [← HP0.out, ← HKEY.out] at hs
      exact hs
    have HNO : Hid (z = false → ∀ e rest, ¬ Stands ah l e rest) := fun ht e rest hs => by
      obtain ⟨_, h1, h2, h3, h4⟩ := HALL.out e rest hs
      obtain ⟨_, h5, _⟩ := h4.put h3 HO5.out
      have hm := hs.1
      unfold Ent.may at hm
      rw [h1, h2, h3, h5, ← HP0.out, ← HKEY.out] at hm
      rw [ht] at hz
      exact absurd (hz.trans hm) (by decide)
    have HEM : Hid (∀ u, Ext wz u → Em u w1.heap.size u.heap.size ⟨key, sq, 1, vb⟩ ⟨kA, kc, vA, vc⟩) := fun u hu => by
      have hs := hu.size
      have := HZZ.out; have := HZ9.out; have := HGG.out
      exact ⟨Bs.of_own (HKZ.out.below hu), (HVZ.out.below hu (by omega)).wide (by omega) (by omega), HKB.out, fun x hx => HBYT.out x (HSUB.out x (HO5.out.len.2.2 x hx)), by dsimp only; omega, by have := HSQ.out; dsimp only; omega, by dsimp only; omega, by dsimp only; omega⟩
    clear hz
    go_upto_region 15 with (fail)
    rw [← hwz]
    clear c3 z3 hwz
    have p0c := cell_of HEZ.out (k := 0) rfl
    have p1c := cell_of HEZ.out (k := 1) rfl
    have p2c := cell_of HEZ.out (k := 2) rfl
    have p3c := cell_of HEZ.out (k := 3) rfl
    refine flow_tail (by kernel_rfl) [Is (.agg #[.slice kA key.length kc, .int .i64 (sq : Int), .int .i64 1, .slice vA vb.length vc]), Is (.agg #[.slice kA key.length kc, .int .i64 (sq : Int), .int .i64 1, .slice vA vb.length vc]), Is (.bool z)] 3 (by kernel_rfl) (by kernel_rfl) (by kernel_rfl) (by kernel_rfl) ?mono (fun f1 => ?obl) ?fin
    case mono =>
      simp only [List.forall_mem_cons, List.not_mem_nil, false_imp_iff, implies_true, and_true]
      exact ⟨.is _, .is _, .is _⟩
    case fin =>
      intro g1 u hu hg
      simp only [List.take_succ_cons, List.take_zero, List.drop_succ_cons, List.drop_zero, puts, Act.put, List.setIfInBounds_toArray, List.set_cons_zero, List.set_cons_succ]
      have e0 : g1 0 = .agg #[.slice kA key.length kc, .int .i64 (sq : Int), .int .i64 1, .slice vA vb.length vc] := hg 0 (by decide)
      have e2 : g1 2 = .bool z := hg 2 (by decide)
      rw [e0, e2]
      have HXU : Hid (Ext wz u) := Ext.trans (Ext.drew wz) hu
      have HGU := Lib.hid (grown_ext HGZ.out HXU.out)
      clear hg hu e0 e2 p0c p1c p2c p3c
      have HRM := Lib.hid (HRB.out _ HGU.out)
      have q0 := cell_of HRM.out (k := 0) rfl
      have q1 := cell_of HRM.out (k := 1) rfl
      have q2 := cell_of HRM.out (k := 2) rfl
      have q3 := cell_of HRM.out (k := 3) rfl
      have z0 := frozen_four HRM.out (j := 0)
      have z1 := frozen_four HRM.out (j := 1)
      have z2 := frozen_four HRM.out (j := 2)
      have z3 := frozen_four HRM.out (j := 3)
      go_wp2_with fail
      refine entry_ret (p := 4) (q := 5) (by kernel_rfl) rfl rfl rfl (set_four HRM.out) ?_
      refine ⟨grown_new (grown_new (grown_new (grown_new (HWG.out _ HGU.out) (Nat.le_refl _)) (Nat.le_refl _)) (Nat.le_refl _)) (Nat.le_refl _), ?_⟩
      rcases hzz : z with _ | _
      · exact .inr ⟨⟨⟨key, sq, 1, vb⟩, ⟨kA, kc, vA, vc⟩, rfl⟩, HNO.out hzz⟩
      · refine .inl ⟨⟨key, sq, 1, vb⟩, ⟨kA, kc, vA, vc⟩, l5, HST.out hzz, rfl, ?_, ?_⟩
        · have hq := HQZ.out.below HXU.out HQZ.out.top HQZ.out.lt
          have hne : r ≠ w.heap.size := by have := HRW.out; omega
          exact (((hq.set HTOP.out hne _).set HTOP.out hne _).set HTOP.out hne _).set HTOP.out hne _
        · have h0 : w.heap.size < w1.heap.size := by have := HZ1.out; omega
          exact (((((HEM.out u HXU.out).setCell (.inl h0) _).setCell (.inl h0) _).setCell (.inl h0) _).setCell (.inl h0) _).wide (Nat.le_of_lt h0) (by simp [World.setCell])
    case obl =>
      refine ⟨fun u hu hd => ?_, ?_⟩
      · have hu2 := Ext.trans (Ext.drew wz) hu
        have q0 := ext_cell hu2 p0c
        have q1 := ext_cell hu2 p1c
        have q2 := ext_cell hu2 p2c
        have q3 := ext_cell hu2 p3c
        go_simp
        exact ⟨Ext.refl _, rfl⟩
      refine ⟨fun u hu hd => ?_, ?_⟩
      · simp only [Act.put, List.setIfInBounds_toArray, List.set_cons_zero, List.set_cons_succ]
        have hu2 := Ext.trans (Ext.drew wz) hu
        have q0 := ext_cell hu2 p0c
        have q1 := ext_cell hu2 p1c
        have q2 := ext_cell hu2 p2c
        have q3 := ext_cell hu2 p3c
        go_simp
        exact ⟨Ext.refl _, rfl⟩
      refine ⟨fun u hu hd => ?_, ?_⟩
      · simp only [Act.put, List.setIfInBounds_toArray, List.set_cons_zero, List.set_cons_succ]
        have e1 : f1 1 = .agg #[.slice kA key.length kc, .int .i64 (sq : Int), .int .i64 1, .slice vA vb.length vc] := hd 1 (by kernel_rfl)
        have hu2 := Ext.trans (Ext.drew wz) hu
        go_simp
        refine (HMAY.out u).mono ?_
        rintro y w9 ⟨rfl, hx9⟩
        exact ⟨_, rfl, hx9, rfl⟩
      trivial
  · have e3 : ((kd : Int) == 1) = false := by simp; omega
    have e3n : (kd == 1) = false := by simp; omega
    have HD1 := Lib.hid hk1
    clear hk1
    obtain ⟨g, hg⟩ : ∃ g, g = w7.heap.size := ⟨_, rfl⟩
    obtain ⟨w8, hw8⟩ : ∃ w8, w8 = w7.alloc (.cells #[.slice kA key.length kc, .int .i64 (sq : Int), .int .i64 (kd : Int), .slice none 0 0] 46) := ⟨_, rfl⟩
    have HX8 : Hid (Ext w7 w8) := by rw [hw8]; exact ext_alloc _ _
    have HB8 : Hid (w8.heap[g]? = some (.cells #[.slice kA key.length kc, .int .i64 (sq : Int), .int .i64 (kd : Int), .slice none 0 0] 46 (0, 0))) := by rw [hw8, hg]; exact heap_at _ _ rfl
    have HX58 : Hid (Ext w5 w8) := Ext.trans HX7.out HX8.out
    have HQ8 := Lib.hid (HQ5.out.below HX58.out HQ5.out.top HQ5.out.lt)
    have HG8 := Lib.hid (grown_ext HG5.out HX58.out)
    have HK8 : Hid (Own w1.heap.size key (.slice kA key.length kc) w8) := (HO7.out.below HX8.out).base HG5.out.size
    obtain ⟨z, hz⟩ : ∃ z, z = mayN key.length (sq : Int) (kd : Int) 0 := ⟨_, rfl⟩
    have HMAY : Hid (∀ u, Calls Try.prog 54 #[.agg #[.slice kA key.length kc, .int .i64 (sq : Int), .int .i64 (kd : Int), .slice none 0 0]] u fun e w' => e = .returned (.bool z) ∧ Ext u w') := fun u => by
      rw [hz]; exact rmay_any kA none key.length kc 0 0 (sq : Int) (kd : Int) u
    have HST : Hid (z = true → Stands ah l ⟨key, sq, kd, []⟩ l4) := fun ht => by
      have hm : mayN (ah.take n ++ sb).length (sq : Int) (kd : Int) ([] : List Nat).length = true := by rw [← HP0.out, ← HKEY.out, ← ht, hz]; rfl
      have hs := Stands.of HN.out HE1.out HE2.out HE3.out HE4.out (by rw [if_neg (by have := HD1.out; omega)]; rfl) hm
      rw [← HP0.out, ← HKEY.out] at hs
      exact hs
    have HNO : Hid (z = false → ∀ e rest, ¬ Stands ah l e rest) := fun ht e rest hs => by
      obtain ⟨_, h1, h2, h3, h4⟩ := HALL.out e rest hs
      obtain ⟨h5, _⟩ := h4.del (by rw [h3]; have := HD1.out; omega)
      have hm := hs.1
      unfold Ent.may at hm
      rw [h1, h2, h3, h5, ← HP0.out, ← HKEY.out] at hm
      rw [ht] at hz
      exact absurd (hz.trans hm) (by decide)
    have HEM : Hid (∀ u, Ext w8 u → Em u w1.heap.size u.heap.size ⟨key, sq, kd, []⟩ ⟨kA, kc, none, 0⟩) := fun u hu => by
      exact ⟨Bs.of_own (HK8.out.below hu), Bs.nil _ _ _, HKB.out, by simp, by dsimp only; omega, by have := HSQ.out; dsimp only; omega, by dsimp only; omega, by have := HK2.out; dsimp only; omega⟩
    clear hz
    go_upto_region 15 with (fail)
    rw [← hw8, ← hg]
    clear hw8 hg
    have p0c := cell_of HB8.out (k := 0) rfl
    have p1c := cell_of HB8.out (k := 1) rfl
    have p2c := cell_of HB8.out (k := 2) rfl
    have p3c := cell_of HB8.out (k := 3) rfl
    refine flow_tail (by kernel_rfl) [Is (.agg #[.slice kA key.length kc, .int .i64 (sq : Int), .int .i64 (kd : Int), .slice none 0 0]), Is (.agg #[.slice kA key.length kc, .int .i64 (sq : Int), .int .i64 (kd : Int), .slice none 0 0]), Is (.bool z)] 3 (by kernel_rfl) (by kernel_rfl) (by kernel_rfl) (by kernel_rfl) ?mono (fun f1 => ?obl) ?fin
    case mono =>
      simp only [List.forall_mem_cons, List.not_mem_nil, false_imp_iff, implies_true, and_true]
      exact ⟨.is _, .is _, .is _⟩
    case fin =>
      intro g1 u hu hg
      simp only [List.take_succ_cons, List.take_zero, List.drop_succ_cons, List.drop_zero, puts, Act.put, List.setIfInBounds_toArray, List.set_cons_zero, List.set_cons_succ]
      have e0 : g1 0 = .agg #[.slice kA key.length kc, .int .i64 (sq : Int), .int .i64 (kd : Int), .slice none 0 0] := hg 0 (by decide)
      have e2 : g1 2 = .bool z := hg 2 (by decide)
      rw [e0, e2]
      have HXU : Hid (Ext w8 u) := Ext.trans (Ext.drew w8) hu
      have HGU := Lib.hid (grown_ext HG8.out HXU.out)
      clear hg hu e0 e2 p0c p1c p2c p3c
      have HRM := Lib.hid (HRB.out _ HGU.out)
      have q0 := cell_of HRM.out (k := 0) rfl
      have q1 := cell_of HRM.out (k := 1) rfl
      have q2 := cell_of HRM.out (k := 2) rfl
      have q3 := cell_of HRM.out (k := 3) rfl
      have z0 := frozen_four HRM.out (j := 0)
      have z1 := frozen_four HRM.out (j := 1)
      have z2 := frozen_four HRM.out (j := 2)
      have z3 := frozen_four HRM.out (j := 3)
      go_wp2_with fail
      refine entry_ret (p := 4) (q := 5) (by kernel_rfl) rfl rfl rfl (set_four HRM.out) ?_
      refine ⟨grown_new (grown_new (grown_new (grown_new (HWG.out _ HGU.out) (Nat.le_refl _)) (Nat.le_refl _)) (Nat.le_refl _)) (Nat.le_refl _), ?_⟩
      rcases hzz : z with _ | _
      · exact .inr ⟨⟨⟨key, sq, kd, []⟩, ⟨kA, kc, none, 0⟩, rfl⟩, HNO.out hzz⟩
      · refine .inl ⟨⟨key, sq, kd, []⟩, ⟨kA, kc, none, 0⟩, l4, HST.out hzz, rfl, ?_, ?_⟩
        · have hq := HQ8.out.below HXU.out HQ8.out.top HQ8.out.lt
          have hne : r ≠ w.heap.size := by have := HRW.out; omega
          exact (((hq.set HTOP.out hne _).set HTOP.out hne _).set HTOP.out hne _).set HTOP.out hne _
        · have h0 : w.heap.size < w1.heap.size := by have := HZ1.out; omega
          exact (((((HEM.out u HXU.out).setCell (.inl h0) _).setCell (.inl h0) _).setCell (.inl h0) _).setCell (.inl h0) _).wide (Nat.le_of_lt h0) (by simp [World.setCell])
    case obl =>
      refine ⟨fun u hu hd => ?_, ?_⟩
      · have hu2 := Ext.trans (Ext.drew w8) hu
        have q0 := ext_cell hu2 p0c
        have q1 := ext_cell hu2 p1c
        have q2 := ext_cell hu2 p2c
        have q3 := ext_cell hu2 p3c
        go_simp
        exact ⟨Ext.refl _, rfl⟩
      refine ⟨fun u hu hd => ?_, ?_⟩
      · simp only [Act.put, List.setIfInBounds_toArray, List.set_cons_zero, List.set_cons_succ]
        have hu2 := Ext.trans (Ext.drew w8) hu
        have q0 := ext_cell hu2 p0c
        have q1 := ext_cell hu2 p1c
        have q2 := ext_cell hu2 p2c
        have q3 := ext_cell hu2 p3c
        go_simp
        exact ⟨Ext.refl _, rfl⟩
      refine ⟨fun u hu hd => ?_, ?_⟩
      · simp only [Act.put, List.setIfInBounds_toArray, List.set_cons_zero, List.set_cons_succ]
        have e1 : f1 1 = .agg #[.slice kA key.length kc, .int .i64 (sq : Int), .int .i64 (kd : Int), .slice none 0 0] := hd 1 (by kernel_rfl)
        have hu2 := Ext.trans (Ext.drew w8) hu
        go_simp
        refine (HMAY.out u).mono ?_
        rintro y w9 ⟨rfl, hx9⟩
        exact ⟨_, rfl, hx9, rfl⟩
      trivial
end Go.Proofs.Ytbafmfdlbicadaa

/- The reference's Read of a block. -/
namespace Go.Proofs.Ytbafmfdlbicadaa
open Go.ChangeShapes Go.WideShapes Go.ChangeAt Go.RowKit

def vlen : Value → Nat
  | .slice _ n _ => n
  | _ => 0
/-- What the reference's Read answers. -/
def RReadBAns (w : World) (b : List Nat) (x : Ending) (w' : World) : Prop :=
  Ext w w' ∧ ((∃ (R : List (Ent × Hd)) (A RA : Option Addr) (c rc : Nat), IsB b (R.map Prod.fst) ∧ x = .returned (.tuple #[.slice A R.length c, .slice RA (ats (R.map Prod.fst) (R.map Prod.fst).length).length rc, .int .i64 0]) ∧ Es w' w.heap.size w'.heap.size A R ∧ OwnI w.heap.size (ats (R.map Prod.fst) (R.map Prod.fst).length) (.slice RA (ats (R.map Prod.fst) (R.map Prod.fst).length).length rc) w' ∧ R.length ≤ c) ∨
    ((∀ L, ¬ IsB b L) ∧ x = .returned (.tuple #[.slice none 0 0, .slice none 0 0, .int .i64 4])))
theorem Held.esB {B : Nat} {A : Option Addr} {c : Nat} {R : List (Ent × Hd)} {w : World} (h : Held B (.slice A R.length c) R w) : Es w B w.heap.size A R := by
  refine ⟨?_, fun p hp => ?_⟩
  · rcases h.row.2 with ⟨h1, h2⟩ | ⟨g, cap, cur, hv, hg, hh, r⟩
    · injection h1 with e1 e2 _
      have : R = [] := List.eq_nil_of_length_eq_zero e2
      subst this; exact Sl.nil _ _ _ _
    · injection hv with e1 _ _
      subst e1
      refine .inr ⟨g, 0, rfl, hg, (Array.getElem?_eq_some_iff.1 hh).1, fun i u hu => ?_⟩
      have := h.row.cells (g := g) rfl i u hu
      rwa [addr_add] at this
  · obtain ⟨lo, hi, h1, h2, h3, _⟩ := h.each p hp
    exact h3.wide h1 h2
theorem Held.cap {B : Nat} {A : Option Addr} {c : Nat} {R : List (Ent × Hd)} {w : World} (h : Held B (.slice A R.length c) R w) : R.length ≤ c := by
  rcases h.row.2 with ⟨h1, _⟩ | ⟨g, cap, cur, hv, _, _, hn, _⟩
  · injection h1 with _ e2 _; omega
  · injection hv with _ _ e3; omega
/-- Where the reading of the entries is. -/
structure RdSt (w : World) (B q lo hi : Nat) (bd : List Nat) (v : Value) (R : List (Ent × Hd)) (bA : Option Addr) (bc : Nat) (ah rest : List Nat) (u : World) : Prop where
  ahead : Ahead bd R.length ah rest
  took : ∀ L, BodyIs L bd → R.map Prod.fst = L.take R.length
  qd : Qd u q lo hi rest
  held : Held B v R u
  may : ∀ p ∈ R, p.1.may = true
  bf : Bs u B u.heap.size (.slice bA ah.length bc) ah
  ahb : ∀ x ∈ ah, x < 256
  ahl : ah.length ≤ 32
  few : R.length ≤ 1025
  x : Ext w u
  size : B ≤ u.heap.size
  len : rest.length ≤ 1000000000000

theorem wpList_pushgrown {ops : Array Oper} {rest : List Oper} {o : Oper} {a : Act} {Q : Exit → Act → World → Prop} {u : World} (hgd : o.guard = none) (s x : Operand)
    (ho : o.op = .call { callee := .builtin .append, args := #[s, x], argTypes := #[26, 26] }) (B : Nat) (v : Value) (R : List (Ent × Hd)) (hs : a.eval s = v) (hgot : Held B v R u)
    (p : Ent × Hd) (gb : Nat) (hx : a.eval x = .slice (some ⟨gb, 0, none⟩) 1 1) (hblk : u.heap[gb]? = some (.cells (ecells p).toArray 46 (0, 0)))
    (hp : ∃ lo hi, B ≤ lo ∧ hi ≤ u.heap.size ∧ Em u lo hi p.1 p.2 ∧ ∀ g, v.ownBlock = some g → g < lo ∨ hi ≤ g) (hlen : R.length ≤ 1000000000000) (hB : B ≤ u.heap.size)
    (h : ∀ A' c' w', Held B (.slice A' (R.length + 1) c') (R ++ [p]) w' → u.grownBy w' v.ownBlock → wpList Try.prog ops Q rest (a.put o.dst (.slice A' (R.length + 1) c')) w') :
    wpList Try.prog ops Q (o :: rest) a u := by
  obtain ⟨i0, hi0', ix0, ix1, ix2⟩ := info_parts einfo
  refine wpList_append_own_at _ hgd s x 26 ho B 46 i0 _ 4 64 Try.underlying26 hi0' ix0 ix1 ix2 rfl (by decide) v R.length (erow R) hs hgot.row ⟨gb, 0, none⟩ 1 1 (ecells p) hx rfl (fun j q hj => ?n1) (fun q hq => ?n2) ?n3 ?n4 hB (fun v' w5 ho hgr _ hat => ?rest)
  case n1 => rw [addr_add, Nat.zero_add]; exact cell_of hblk (by simpa using hj)
  case n2 => exact erow_one [p] q (by simpa [erow] using hq)
  case n3 => unfold maxLen; omega
  case n4 => omega
  case rest =>
    have hlt := rowN_lt hgot.row
    have hke : ∀ q : Ent × Hd, (∃ lo hi, B ≤ lo ∧ hi ≤ u.heap.size ∧ Em u lo hi q.1 q.2 ∧ ∀ g, v.ownBlock = some g → g < lo ∨ hi ≤ g) → ∃ lo hi, B ≤ lo ∧ hi ≤ w5.heap.size ∧ Em w5 lo hi q.1 q.2 ∧ ∀ g, v'.ownBlock = some g → g < lo ∨ hi ≤ g := by
      rintro q ⟨lo, hi, h1, h2, h3, h4⟩
      refine ⟨lo, hi, h1, Nat.le_trans h2 hgr.size, h3.grown hgr h2 h4, fun g hg => ?_⟩
      rcases hat with e | e
      · exact h4 g (e ▸ hg)
      · rw [e] at hg; injection hg with hg; omega
    have hgot' : Held B v' (R ++ [p]) w5 := by
      refine ⟨by rw [List.length_append, erow_append]; simpa [erow] using ho, fun q hq => ?_⟩
      rcases List.mem_append.1 hq with hq | hq
      · exact hke q (hgot.each q hq)
      · rw [List.mem_singleton] at hq; subst hq; exact hke q hp
    obtain ⟨A', c', rfl⟩ := rowN_slice ho
    exact h A' c' w5 hgot' hgr

set_option maxRecDepth 100000 in
set_option maxHeartbeats 16000000 in
theorem rread_any {w : World} {lo hi c : Nat} {A : Option Addr} {b : List Nat} (hv : Bs w lo hi (.slice A b.length c) b) (hhi : hi ≤ w.heap.size) (hb : ∀ x ∈ b, x < 256) (hl : b.length ≤ 1000000000) :
    Calls Try.prog 22 #[.slice A b.length c] w (RReadBAns w b) := by
  have HV := Lib.hid hv
  have HHI := Lib.hid hhi
  have HBY := Lib.hid hb
  have HL := Lib.hid hl
  have HC : Hid (b.length ≤ c ∧ c ≤ maxLen) := by obtain ⟨_, _, e1, h1, h2, _⟩ := hv; injection e1 with _ _ e3; rw [e3]; exact ⟨h1, h2⟩
  have HLAST : Hid (∀ L, IsB b L → 1 ≤ L.length ∧ L.length ≤ 1024 ∧ num4 (b.drop (b.length - 4)) = (L.length + 3) / 4 ∧ 4 * num4 (b.drop (b.length - 4)) + 4 ≤ b.length) := fun L h => by
    obtain ⟨_, _, h3, h4⟩ := h.last
    have h1 := h.1.1
    have h2 := h.1.2.1
    refine ⟨h1, h2, h3, ?_⟩
    omega
  clear hv hhi hb hl
  go_enter Try.func22, Try.ntmps22
  by_cases h8 : b.length < 8
  · have d : decide ((b.length : Int) < 8) = true := by simp; omega
    have dn : decide (b.length < 8) = true := decide_eq_true h8
    have HNO : Hid (∀ L, ¬ IsB b L) := fun L h => by have := HLAST.out L h; omega
    clear h8
    go_wp2_with fail
    go_ret3
    exact ⟨Ext.refl _, .inr ⟨HNO.out, rfl⟩⟩
  have d8 : decide ((b.length : Int) < 8) = false := by simp; omega
  have d8n : decide (b.length < 8) = false := decide_eq_false h8
  obtain ⟨m, hm⟩ : ∃ m, m = b.length - 4 := ⟨_, rfl⟩
  have HM : Hid (m + 4 = b.length ∧ 4 ≤ m) := by unfold Hid; omega
  have hw : wrap64 ((b.length : Int) - 4) = (m : Int) := by have := HL.out; unfold wrap64; omega
  obtain ⟨t, ht⟩ : ∃ t, t = b.drop m := ⟨_, rfl⟩
  have htl : t.length = b.length - m := by rw [ht, List.length_drop]
  obtain ⟨A2, hA2, hA2n, hrun⟩ := tail_run A b.length c m (by omega) HC.out.1
  have hrun' : ∀ w, (Instr.slice 22 (.slice A b.length c) (some (.int .i64 (m : Int))) none none).run Try.prog w = .ok (.slice A2 t.length (c - m)) w := by rw [htl]; exact hrun
  have HT : Hid (Bs w lo hi (.slice A2 t.length (c - m)) t) := by
    obtain ⟨A', c', e1, h1, h2, h3, h4⟩ := HV.out
    injection e1 with e1 e2 e3
    subst e1 e3
    have h6 := hA2 b rfl _ _ _ h4
    rw [← ht] at h6
    exact ⟨A2, _, rfl, by rw [htl]; omega, by omega, fun e => by have := h3 (hA2n e); omega, h6⟩
  have HT4 : Hid (t.length = 4) := by unfold Hid; omega
  have HTB : Hid (∀ x ∈ t, x < 256) := fun x hx => HBY.out x (List.mem_of_mem_drop (by rw [← ht]; exact hx))
  obtain ⟨N, hN⟩ : ∃ N, N = num4 t := ⟨_, rfl⟩
  have HNL : Hid (N < 4294967296) := by rw [hN]; exact num4_lt HT4.out HTB.out
  have HNN : Hid (num4 (b.drop (b.length - 4)) = N) := by rw [← hm, ← ht]; exact hN.symm
  have HNT := Lib.hid hN
  clear h8 hA2 hA2n hrun hm ht htl hN
  go_wp2_with fail
  refine (rnum8_any HT.out HT4.out HTB.out).mono ?_
  rintro x w1 ⟨rfl, hx1⟩
  have HX1 := Lib.hid hx1
  clear hx1 hrun'
  rw [← HNT.out]
  by_cases hc : 1 ≤ N
  rotate_left
  · have HNO : Hid (∀ L, ¬ IsB b L) := fun L h => by have := HLAST.out L h; have := HNN.out; omega
    have g : decide ((N : Int) < 1) = true := by simp; omega
    obtain rfl : N = 0 := by omega
    clear hc
    go_wp2_with fail
    go_ret3
    exact ⟨HX1.out, .inr ⟨HNO.out, rfl⟩⟩
  have g1 : decide ((N : Int) < 1) = false := by simp; omega
  have g1n : decide (N < 1) = false := by simp; omega
  have g1z : decide (N = 0) = false := by simp; omega
  have g1e : (N == 0) = false := by simp; omega
  have HN1 := Lib.hid hc
  clear hc
  by_cases hc : N ≤ 1024
  rotate_left
  · have HNO : Hid (∀ L, ¬ IsB b L) := fun L h => by have := HLAST.out L h; have := HNN.out; omega
    have g : decide ((1024 : Int) < (N : Int)) = true := by simp; omega
    have gn : decide (1024 < N) = true := by simp; omega
    clear hc
    go_wp2_with fail
    go_ret3
    exact ⟨HX1.out, .inr ⟨HNO.out, rfl⟩⟩
  have g2 : decide ((1024 : Int) < (N : Int)) = false := by simp; omega
  have g2n : decide (1024 < N) = false := by simp; omega
  have HN2 := Lib.hid hc
  clear hc
  obtain ⟨q4, hq4⟩ : ∃ q, q = 4 * N := ⟨_, rfl⟩
  have hw2 : wrap64 (4 * (N : Int)) = (q4 : Int) := by have := HN2.out; unfold wrap64; omega
  obtain ⟨r4, hr4⟩ : ∃ q, q = q4 + 4 := ⟨_, rfl⟩
  have hw3 : wrap64 ((q4 : Int) + 4) = (r4 : Int) := by have := HN2.out; unfold wrap64; omega
  have HQR : Hid (q4 = 4 * N ∧ r4 = q4 + 4) := ⟨hq4, hr4⟩
  clear hq4 hr4
  by_cases hc : r4 ≤ b.length
  rotate_left
  · have HNO : Hid (∀ L, ¬ IsB b L) := fun L h => by have := HLAST.out L h; have := HNN.out; have := HQR.out; omega
    have g : decide ((b.length : Int) < (r4 : Int)) = true := by simp; omega
    have gn : decide (b.length < r4) = true := by simp; omega
    clear hc
    go_wp2_with fail
    go_ret3
    exact ⟨HX1.out, .inr ⟨HNO.out, rfl⟩⟩
  have g3 : decide ((b.length : Int) < (r4 : Int)) = false := by simp; omega
  have g3n : decide (b.length < r4) = false := by simp; omega
  obtain ⟨k, hk⟩ : ∃ k, k = m - q4 := ⟨_, rfl⟩
  have HK : Hid (k + q4 = m ∧ k ≤ b.length) := by have := HM.out; have := HQR.out; unfold Hid; omega
  have hw4 : wrap64 ((m : Int) - (q4 : Int)) = (k : Int) := by have := HK.out; have := HM.out; have := HL.out; unfold wrap64; omega
  obtain ⟨bd, hbd⟩ : ∃ bd, bd = bodyOf b := ⟨_, rfl⟩
  have HBD := Lib.hid hbd
  have hbk : bd = b.take k := by rw [hbd]; unfold bodyOf; rw [HNN.out]; have := HK.out; have := HM.out; have := HQR.out; congr 1; omega
  have hbl : bd.length = k := by rw [hbk, List.length_take]; have := HK.out; omega
  obtain ⟨A3, hA3, hA3n, hrun3⟩ := head_run .i64 A b.length c k HK.out.2 HC.out.1
  have hrun' : ∀ w, (Instr.slice 22 (.slice A b.length c) none (some (.int .i64 (k : Int))) none).run Try.prog w = .ok (.slice A3 bd.length c) w := by rw [hbl]; exact hrun3
  have HB3 : Hid (Bs w1 lo hi (.slice A3 bd.length c) bd) := by
    obtain ⟨A', c', e1, h1, h2, h3, h4⟩ := HV.out.below HX1.out HHI.out
    injection e1 with e1 e2 e3
    subst e1 e3
    have h6 := hA3 b rfl _ _ _ h4
    rw [← hbk] at h6
    exact ⟨A3, _, rfl, by have := HK.out; omega, h2, fun e => h3 (hA3n e), h6⟩
  have HBDL : Hid (bd.length ≤ 1000000000) := by have := HK.out; have := HL.out; unfold Hid; omega
  have HBDB : Hid (∀ x ∈ bd, x < 256) := fun x hx => HBY.out x (List.mem_of_mem_take (by rw [← hbk]; exact hx))
  clear hc hk hbd hbk hbl hA3 hA3n hrun3
  go_upto_region 7 with (fail)
  obtain ⟨w2, hw2'⟩ : ∃ w2, w2 = w1.alloc (.cells #[.slice A3 bd.length c] 74) := ⟨_, rfl⟩
  rw [← hw2']
  have HX2 : Hid (Ext w w2) := by rw [hw2']; exact Ext.trans HX1.out (ext_alloc _ _)
  obtain ⟨q, hq⟩ : ∃ q, q = w1.heap.size := ⟨_, rfl⟩
  rw [← hq]
  have HZ2 : Hid (w2.heap.size = q + 1 ∧ w.heap.size ≤ q) := ⟨by rw [hw2', hq]; simp, by rw [hq]; exact HX1.out.size⟩
  have HQ2 : Hid (Qd w2 q lo hi bd) := ⟨⟨.slice A3 bd.length c, by rw [hw2', hq]; exact heap_at _ _ rfl, by rw [hw2']; exact HB3.out.below (ext_alloc _ _) (Nat.le_trans HHI.out HX1.out.size)⟩, by have := HHI.out; have := HZ2.out; omega, by have := HHI.out; have := HZ2.out; omega, HBDB.out⟩
  clear hw2' hq hrun' hw hw2 hw3 hw4 d8 d8n g1 g1n g1z g1e g2 g2n g3 g3n
  go_wp2_with fail
  go_loopw [7, 8, 9, 10] (fun v bf _ _ wr => ∃ (R : List (Ent × Hd)) (vA : Option Addr) (vc : Nat) (bA : Option Addr) (bc : Nat) (ah rest : List Nat), v = .slice vA R.length vc ∧ bf = .slice bA ah.length bc ∧ Hid (RdSt w w2.heap.size q lo hi bd (.slice vA R.length vc) R bA bc ah rest wr)) (fun v _ _ _ _ => 1100 - vlen v)
  case atStart => exact ⟨[], none, 0, none, 0, [], bd, rfl, rfl, ⟨Ahead.start _, fun L _ => (List.take_zero).symm, HQ2.out, Held.nil _ _, by simp, Bs.nil _ _ _, by simp, by simp, by simp, HX2.out, Nat.le_refl _, by have := HBDL.out; omega⟩⟩
  case round =>
    obtain ⟨R, vA, vc, bA, bc, ah, rest, rfl, rfl, HST⟩ := hrel
    have HLEFT := Lib.hid (RLeft_any _ _ _ _ _ HST.out.qd)
    have HEND : Hid (∀ L, IsB b L → R.length ≤ L.length) := fun L h => by have := h.body; rw [← HBD.out] at this; exact (HST.out.ahead.is L this).1
    by_cases hr0 : rest.length = 0
    · have HR0 : Hid (rest = []) := List.eq_nil_of_length_eq_zero hr0
      have f1 : decide ((0 : Int) < (rest.length : Int)) = false := decide_eq_false (by omega)
      have f1n : decide (0 < rest.length) = false := decide_eq_false (by omega)
      have HALL : Hid (∀ L, IsB b L → L = R.map Prod.fst) := fun L h => by
        have hb := h.body
        rw [← HBD.out] at hb
        have ha := HST.out.ahead
        rw [HR0.out] at ha
        have h1 := ha.ends hb
        have h2 := HST.out.took L hb
        rw [h2, ← h1, List.take_length]
      have hes := HST.out.held.es
      have HMB := Lib.hid (rmayb_any (c := vc) hes (Nat.le_refl _) (by have := HST.out.few; omega) (fun p hp => by have := mayN_iff.1 (HST.out.may p hp); omega))
      clear hr0 hes
      go_wp2_with fail
      refine HLEFT.out.mono ?_
      rintro x _ ⟨rfl, rfl⟩
      go_wp2_with fail
      refine HMB.out.mono ?_
      rintro x w3 ⟨z, hz, rfl, hx3⟩
      have HX3 := Lib.hid hx3
      have HZ := Lib.hid hz
      clear hx3 hz
      rcases z with _ | _
      · have HNO : Hid (∀ L, ¬ IsB b L) := fun L h => by
          have h1 := h.1
          rw [HALL.out L h] at h1
          exact absurd (HZ.out.2 h1) (by decide)
        go_wp2_with fail
        go_ret3
        exact ⟨Ext.trans HST.out.x HX3.out, .inr ⟨HNO.out, rfl⟩⟩
      have HMY : Hid (MayB (R.map Prod.fst)) := HZ.out.1 rfl
      obtain ⟨Ls, hLs⟩ : ∃ Ls, Ls = R.map Prod.fst := ⟨_, rfl⟩
      have HW := Lib.hid (rwrite_any (c := vc) (HST.out.held.es.below HX3.out (Nat.le_refl _)) HX3.out.size HMY.out)
      rw [← hLs] at HW HMY HALL
      have HLS := Lib.hid hLs
      clear hLs
      go_wp2_with fail
      refine HW.out.mono ?_
      rintro x w4 ⟨WA, wc, RA, rc, rfl, hst⟩
      have HW4 := Lib.hid hst
      have HBW : Hid (∀ x ∈ _root_.Go.Proofs.Ytbafmfdlbicadaa.wr Ls, x < 256) := wr_lt HMY.out (fun e he => by
        rw [HLS.out] at he
        obtain ⟨p, hp, rfl⟩ := List.mem_map.1 he
        obtain ⟨_, _, _, _, hem, _⟩ := HST.out.held.each p hp
        exact ⟨hem.bk, hem.bv⟩)
      obtain ⟨W, hW⟩ : ∃ W, W = _root_.Go.Proofs.Ytbafmfdlbicadaa.wr Ls := ⟨_, rfl⟩
      have HWE := Lib.hid hW
      rw [← hW] at HW4 HBW ⊢
      have v1 := cv_any HW4.out.b.bs
      have v2 := cv_any (HV.out.below (Ext.trans (Ext.trans HST.out.x HX3.out) HW4.out.x) HHI.out)
      have t1 := tx_same HBW.out HBY.out
      clear hst hW
      by_cases he : W = b
      · rw [decide_eq_true he] at t1
        have HE := Lib.hid he
        clear he
        go_wp2_with fail
        go_ret3
        have hs := HLS.out
        subst hs
        exact ⟨Ext.trans (Ext.trans HST.out.x HX3.out) HW4.out.x, .inl ⟨R, vA, RA, vc, rc, ⟨HMY.out, by rw [← HWE.out]; exact HE.out⟩, rfl, (HST.out.held.esB.below (Ext.trans HX3.out HW4.out.x) (Nat.le_refl _)).wide (by have := HZ2.out; omega) (Ext.trans HX3.out HW4.out.x).size, HW4.out.r.base (Ext.trans HST.out.x HX3.out).size, HST.out.held.cap⟩⟩
      · rw [decide_eq_false he] at t1
        have HNO : Hid (∀ L, ¬ IsB b L) := fun L h => he (by rw [HWE.out, ← HALL.out L h]; exact h.2)
        clear he
        go_wp2_with fail
        go_ret3
        exact ⟨Ext.trans (Ext.trans HST.out.x HX3.out) HW4.out.x, .inr ⟨HNO.out, rfl⟩⟩
    have f1 : decide ((0 : Int) < (rest.length : Int)) = true := decide_eq_true (by omega)
    have f1n : decide (0 < rest.length) = true := decide_eq_true (by omega)
    have HRN : Hid (rest ≠ []) := fun h => hr0 (by rw [h]; rfl)
    clear hr0
    by_cases hf : R.length ≤ 1024
    rotate_left
    · have f2 : decide ((R.length : Int) ≤ 1024) = false := by simp; omega
      have f2n : decide (R.length ≤ 1024) = false := by simp; omega
      have HNO : Hid (∀ L, ¬ IsB b L) := fun L h => by have := HEND.out L h; have := HLAST.out L h; omega
      have hes := HST.out.held.es
      have HMB := Lib.hid (rmayb_any (c := vc) hes (Nat.le_refl _) (by have := HST.out.few; omega) (fun p hp => by have := mayN_iff.1 (HST.out.may p hp); omega))
      have HMN : Hid (¬ MayB (R.map Prod.fst)) := fun h => by have := h.2.1; rw [List.length_map] at this; omega
      clear hf hes
      go_wp2_with fail
      refine HLEFT.out.mono ?_
      rintro x _ ⟨rfl, rfl⟩
      go_wp2_with fail
      refine HMB.out.mono ?_
      rintro x w3 ⟨z, hz, rfl, hx3⟩
      have HX3 := Lib.hid hx3
      have hzf : z = false := by
        rcases z with _ | _
        · rfl
        · exact absurd (hz.1 rfl) HMN.out
      subst hzf
      clear hx3 hz
      go_wp2_with fail
      go_ret3
      exact ⟨Ext.trans HST.out.x HX3.out, .inr ⟨HNO.out, rfl⟩⟩
    have f2 : decide ((R.length : Int) ≤ 1024) = true := by simp; omega
    have f2n : decide (R.length ≤ 1024) = true := by simp; omega
    have HF := Lib.hid hf
    have HENT := Lib.hid (rent_any HST.out.qd HST.out.bf (Nat.le_refl _) (.inl (by have := HZ2.out; omega)) HST.out.ahb (by have := HST.out.ahl; omega) HST.out.len)
    clear hf
    go_wp2_with fail
    refine HLEFT.out.mono ?_
    rintro x _ ⟨rfl, rfl⟩
    go_wp2_with fail
    refine HENT.out.mono ?_
    rintro x w3 ⟨hg, (⟨e, g, rest', hs, rfl, hqd, hem⟩ | ⟨⟨a0, a1, a2, a3, rfl⟩, hno⟩)⟩
    rotate_left
    · have HX3 : Hid (Ext w w3) := HST.out.x.grown hg HST.out.x.size (fun k hk => by injection hk with hk; have := HZ2.out; omega)
      have HNO : Hid (∀ L, ¬ IsB b L) := fun L h => by
        have hb := h.body
        rw [← HBD.out] at hb
        obtain ⟨e, _, hs⟩ := HST.out.ahead.stands hb HRN.out
        exact hno _ _ hs
      clear hg hno
      unfold Ent.at_
      go_wp2_with fail
      go_ret3
      exact ⟨Ext.trans HX3.out (ext_alloc _ _), .inr ⟨HNO.out, rfl⟩⟩
    have HG3 := Lib.hid hg
    have HS3 := Lib.hid hs
    have HQ3 := Lib.hid hqd
    have HEM3 := Lib.hid hem
    have HX3 : Hid (Ext w w3) := HST.out.x.grown hg HST.out.x.size (fun k hk => by injection hk with hk; have := HZ2.out; omega)
    have HH3 := Lib.hid (HST.out.held.grown hg (by have := HZ2.out; omega))
    clear hg hs hqd hem
    unfold Ent.at_
    go_upto_region 13 with (fail)
    obtain ⟨w5, hw5⟩ : ∃ w5, w5 = w3.alloc (.cells #[.slice g.kA e.key.length g.kc, .int .i64 e.seq, .int .i64 e.kind, .slice g.vA e.val.length g.vc] 46) := ⟨_, rfl⟩
    rw [← hw5]
    have HX5 : Hid (Ext w3 w5) := by rw [hw5]; exact ext_alloc _ _
    have HB5 : Hid (w5.heap[w3.heap.size]? = some (.cells #[.slice g.kA e.key.length g.kc, .int .i64 e.seq, .int .i64 e.kind, .slice g.vA e.val.length g.vc] 46 (0, 0))) := by rw [hw5]; exact heap_at _ _ rfl
    have c0 := cell_of HB5.out (k := 0) rfl
    have c1 := cell_of HB5.out (k := 1) rfl
    have c2 := cell_of HB5.out (k := 2) rfl
    have c3 := cell_of HB5.out (k := 3) rfl
    have HH5 := Lib.hid (HH3.out.below HX5.out)
    have HEM5 := Lib.hid (HEM3.out.below HX5.out (Nat.le_refl _))
    have HROW := Lib.hid (rowN_lt HST.out.held.row)
    have HSZ : Hid (w2.heap.size ≤ wr.heap.size ∧ wr.heap.size ≤ w3.heap.size ∧ w3.heap.size ≤ w5.heap.size) := ⟨HST.out.size, HG3.out.size, HX5.out.size⟩
    obtain ⟨g5, hg5⟩ : ∃ g5, g5 = w3.heap.size := ⟨_, rfl⟩
    rw [← hg5] at c0 c1 c2 c3 HB5 ⊢
    have HG5 := Lib.hid hg5
    clear hw5 hg5
    go_wp2_with (at_builtin; refine wpList_pushgrown rfl (.tmp 62) (.tmp 64) rfl w2.heap.size _ R rfl (HH5.out.below (ext_alloc _ _)) (e, g) w5.heap.size rfl ?blk ?each ?len ?hB ?_)
    case blk => exact heap_at _ _ rfl
    case each => exact ⟨wr.heap.size, HSZ.out.1, w3.heap.size, Nat.le_trans HSZ.out.2.2 (Nat.le_succ _), HEM5.out.below (ext_alloc _ _) HSZ.out.2.2, fun g' hg' => .inl (HROW.out g' hg').2.1⟩
    case len => have := HF.out; omega
    case hB => have := HSZ.out; exact Nat.le_trans (Nat.le_trans (Nat.le_trans HSZ.out.1 HSZ.out.2.1) HSZ.out.2.2) (ext_alloc _ _).size
    intro A6 c6 w6 hh6 hg6
    have hne : ∀ k, (Value.slice vA R.length vc).ownBlock = some k → w2.heap.size ≤ k ∧ k < g5 := fun k hk => by have := HROW.out k hk; have := HSZ.out; have := HG5.out; omega
    have HB6 : Hid (w6.heap[g5]? = some (.cells #[.slice g.kA e.key.length g.kc, .int .i64 e.seq, .int .i64 e.kind, .slice g.vA e.val.length g.vc] 46 (0, 0))) :=
      (hg6.block g5 (Nat.lt_of_lt_of_le (Array.getElem?_eq_some_iff.1 HB5.out).1 (ext_alloc _ _).size) (fun h => by have := hne _ h.symm; omega)).trans (ext_heap (ext_alloc _ _) HB5.out)
    have HX6 : Hid (Below w2.heap.size w3 w6) := ((HX5.out.mono (Nat.le_trans HSZ.out.1 HSZ.out.2.1)).trans ((ext_alloc _ _).mono (by have := HSZ.out; omega))).grown hg6 (by have := HSZ.out; exact Nat.le_trans (by omega) (ext_alloc _ _).size) (fun k hk => (hne k hk).1)
    have HH6 := Lib.hid hh6
    have HQ6 := Lib.hid (HQ3.out.below HX6.out (by have := HQ2.out.top; omega) (by have := HZ2.out; omega))
    have HXW : Hid (Ext w w6) := Below.trans HX3.out (HX6.out.mono (by have := HZ2.out; omega))
    have k0 := cell_of HB6.out (k := 0) rfl
    clear hh6 hg6 hne c0 c1 c2 c3
    go_wp2_with fail
    go_roundw
    case rel =>
      obtain ⟨h1, h2⟩ := HST.out.ahead.next HRN.out (fun e' r' hs' => by obtain ⟨a, b⟩ := hs'.unique HS3.out; exact ⟨a, b⟩)
      have hlen : (R ++ [(e, g)]).length = R.length + 1 := by simp
      refine ⟨R ++ [(e, g)], A6, c6, g.kA, g.kc, e.key, rest', by rw [hlen], rfl, ?_⟩
      rw [hlen]
      obtain ⟨elo, ehi, q1, q2, q3, _⟩ := HH6.out.each (e, g) (by simp)
      refine ⟨by rw [hlen]; exact h1, fun L hL => ?_, HQ6.out, by simpa using HH6.out, fun p hp => ?_, q3.k.wide q1 q2, q3.bk, (mayN_iff.1 HS3.out.1).2.1, by rw [hlen]; have := HF.out; omega, HXW.out, ?_, ?_⟩
      · rw [hlen, List.map_append, HST.out.took L hL, List.take_add_one, h2 L hL]; rfl
      · rcases List.mem_append.1 hp with hp | hp
        · exact HST.out.may p hp
        · rw [List.mem_singleton] at hp; rw [hp]; exact HS3.out.1
      · have := HX6.out.size; have := HSZ.out; omega
      · have hle : rest'.length ≤ rest.length := by
          obtain ⟨_, n, _, _, _, h⟩ := HS3.out
          have := congrArg List.length h
          simp only [List.length_append] at this
          omega
        exact Nat.le_trans hle HST.out.len
    case measure => have := HF.out; simp [vlen]; omega
end Go.Proofs.Ytbafmfdlbicadaa

/- The reference's Get of a block. -/
namespace Go.Proofs.Ytbafmfdlbicadaa
open Go.ChangeShapes Go.WideShapes Go.ChangeAt Go.RowKit

set_option maxRecDepth 100000 in
set_option maxHeartbeats 4000000 in
theorem rbget_any {w : World} {lo hi lo2 hi2 c kc : Nat} {A kA : Option Addr} {b key : List Nat} {s : Int} (hv : Bs w lo hi (.slice A b.length c) b) (hhi : hi ≤ w.heap.size) (hb : ∀ x ∈ b, x < 256) (hl : b.length ≤ 1000000000)
    (hk : Bs w lo2 hi2 (.slice kA key.length kc) key) (hhi2 : hi2 ≤ w.heap.size) (bk : ∀ x ∈ key, x < 256) :
    Calls Try.prog 25 #[.slice A b.length c, .slice kA key.length kc, .int .i64 s] w (BGetAns w b key s) := by
  obtain ⟨w1, hw1⟩ : ∃ w1, w1 = w.alloc (.cells #[.slice none 0 0, .int .i64 0, .int .i64 0, .slice none 0 0] 46) := ⟨_, rfl⟩
  have HX1 : Hid (Ext w w1) := by rw [hw1]; exact ext_alloc _ _
  have HZ1 : Hid (w1.heap.size = w.heap.size + 1) := by rw [hw1]; simp [Hid]
  have HR1 : Hid (w1.heap[w.heap.size]? = some (.cells #[.slice none 0 0, .int .i64 0, .int .i64 0, .slice none 0 0] 46 (0, 0))) := by rw [hw1]; exact heap_at _ _ rfl
  have HRD := Lib.hid (rread_any (hv.below HX1.out hhi) (Nat.le_trans hhi HX1.out.size) hb hl)
  have HKY := Lib.hid (hk.below HX1.out hhi2)
  have HH := Lib.hid hhi2
  have HBK := Lib.hid bk
  clear hv hhi hb hl hk hhi2 bk
  go_enter Try.func25, Try.ntmps25
  go_wp2_with fail
  rw [← hw1]
  clear hw1
  refine HRD.out.mono ?_
  rintro x w2 ⟨hx2, (⟨R, X, RA, cR, rc, his, rfl, hes, _⟩ | ⟨hno, rfl⟩)⟩
  · have HX2 := Lib.hid hx2
    have HIS := Lib.hid his
    have HES := Lib.hid hes
    have HG := Lib.hid (rget_any (c := cR) (s := s) hes (Nat.le_refl _) (by have := his.1.2.1; rw [List.length_map] at this; omega) (HKY.out.below hx2 (Nat.le_trans HH.out HX1.out.size)) (Nat.le_trans HH.out (Nat.le_trans HX1.out.size hx2.size)) HBK.out)
    obtain ⟨oo, hoo⟩ : ∃ oo, oo = (R.map Prod.fst).find? (seenE key s) := ⟨_, rfl⟩
    rw [← hoo] at HG
    have HOO := Lib.hid hoo
    clear hx2 his hes hoo
    go_wp2_with fail
    refine HG.out.mono ?_
    rintro x w3 ⟨hx3, hm⟩
    have HX3 := Lib.hid hx3
    have HRM : Hid (w3.heap[w.heap.size]? = some (.cells #[.slice none 0 0, .int .i64 0, .int .i64 0, .slice none 0 0] 46 (0, 0))) := ext_heap (Ext.trans HX2.out HX3.out) HR1.out
    have q0 := cell_of HRM.out (k := 0) rfl
    have q1 := cell_of HRM.out (k := 1) rfl
    have q2 := cell_of HRM.out (k := 2) rfl
    have q3 := cell_of HRM.out (k := 3) rfl
    have z0 := frozen_four HRM.out (j := 0)
    have z1 := frozen_four HRM.out (j := 1)
    have z2 := frozen_four HRM.out (j := 2)
    have z3 := frozen_four HRM.out (j := 3)
    have HXX : Hid (Ext w w3) := Ext.trans HX1.out (Ext.trans HX2.out HX3.out)
    clear hx3
    rcases oo with _ | e
    · obtain rfl : x = .returned (.tuple #[zeroE.at_ ⟨none, 0, none, 0⟩, .int .i64 6]) := hm
      unfold Ent.at_ zeroE
      go_wp2_with fail
      refine entry_ret2 (p := 6) (q := 7) (by kernel_rfl) rfl rfl rfl (set_four HRM.out) ?_
      refine ⟨Below.setCell (Below.setCell (Below.setCell (Below.setCell HXX.out (Nat.le_refl _) _) (Nat.le_refl _) _) (Nat.le_refl _) _) (Nat.le_refl _) _, .inr ⟨_, HIS.out, ?_⟩⟩
      rw [← HOO.out]
      exact rfl
    · obtain ⟨g, rfl, hem⟩ : ∃ g : Hd, x = .returned (.tuple #[e.at_ g, .int .i64 0]) ∧ Em w2 w1.heap.size w2.heap.size e g := hm
      have HEM : Hid (Em w3 w1.heap.size w3.heap.size e g) := (hem.below HX3.out (Nat.le_refl _)).wide (Nat.le_refl _) HX3.out.size
      clear hem
      unfold Ent.at_
      go_wp2_with fail
      refine entry_ret2 (p := 6) (q := 7) (by kernel_rfl) rfl rfl rfl (set_four HRM.out) ?_
      refine ⟨Below.setCell (Below.setCell (Below.setCell (Below.setCell HXX.out (Nat.le_refl _) _) (Nat.le_refl _) _) (Nat.le_refl _) _) (Nat.le_refl _) _, .inr ⟨_, HIS.out, ?_⟩⟩
      rw [← HOO.out]
      have h0 : w.heap.size < w1.heap.size := by have := HZ1.out; omega
      exact ⟨g, rfl, (((((HEM.out).setCell (.inl h0) _).setCell (.inl h0) _).setCell (.inl h0) _).setCell (.inl h0) _).wide (Nat.zero_le _) (by simp [World.setCell])⟩
  · have HX2 := Lib.hid hx2
    have HNO := Lib.hid hno
    have HRM : Hid (w2.heap[w.heap.size]? = some (.cells #[.slice none 0 0, .int .i64 0, .int .i64 0, .slice none 0 0] 46 (0, 0))) := ext_heap HX2.out HR1.out
    have q0 := cell_of HRM.out (k := 0) rfl
    have q1 := cell_of HRM.out (k := 1) rfl
    have q2 := cell_of HRM.out (k := 2) rfl
    have q3 := cell_of HRM.out (k := 3) rfl
    have z0 := frozen_four HRM.out (j := 0)
    have z1 := frozen_four HRM.out (j := 1)
    have z2 := frozen_four HRM.out (j := 2)
    have z3 := frozen_four HRM.out (j := 3)
    have HXX : Hid (Ext w w2) := Ext.trans HX1.out HX2.out
    clear hx2 hno
    go_wp2_with fail
    refine entry_ret2 (p := 6) (q := 7) (by kernel_rfl) rfl rfl rfl (set_four HRM.out) ?_
    exact ⟨Below.setCell (Below.setCell (Below.setCell (Below.setCell HXX.out (Nat.le_refl _) _) (Nat.le_refl _) _) (Nat.le_refl _) _) (Nat.le_refl _) _, .inl ⟨HNO.out, rfl⟩⟩
end Go.Proofs.Ytbafmfdlbicadaa
