/- WireReaders: a reader reads what stands ahead of it, as the reference's does, and is told the same when it asks again. -/
import Derived.Test.YtdggemdgndiafaaRopen
import Derived.Test.YtdggemdgndiafaaWmore
namespace Go.Proofs.Ytdggemdgndiafaa.wireReaders
open Go.ChangeShapes Go.WideShapes Go.ChangeAt Go.RowKit

theorem end_eq (l : List Nat) : (endErr l == 0) = ((l.length : Int) == 0) := by
  cases l with
  | nil => rfl
  | cons x l => simp [endErr]; omega
theorem nat_eq (n : Nat) : (n == 0) = ((n : Int) == 0) := by
  by_cases h : n = 0
  · subst h; rfl
  · have a : (n == 0) = false := by simpa using h
    have b : ((n : Int) == 0) = false := by rw [beq_eq_false_iff_ne]; omega
    rw [a, b]
theorem own_alloc {w : World} {B : Nat} {e : TypeId} {v : Value} {n : Nat} {xs : List Value} (h : w.ownsRow B e 1 v n xs) (o : Obj) : (w.alloc o).ownsRow B e 1 v n xs := own_below h ((Below.refl _ _).alloc (Nat.le_refl _) o)

set_option maxRecDepth 100000 in
set_option maxHeartbeats 4000000 in
theorem walk (w : World) (v : Value) (b : List Nat) (hv : Bs w 0 w.heap.size v b) (hbyt : ∀ x ∈ b, x < 256) (A : Option Addr) (c : Nat) (ps : List (Int × Int)) (h : Ops w 0 w.heap.size A ps) (hc : c ≤ maxLen) (hlc : ps.length ≤ c) :
    Calls Try.prog 6 #[v, .slice A ps.length c] w fun e w' => e = .returned (.bool true) ∧ Below w.heap.size w w' := by
  obtain ⟨A0, c0, rfl, x1, x2, x3, x4⟩ := hv
  obtain ⟨i0, hi0, ix0, ix1, ix2⟩ := info_parts t5info
  have HI := Lib.hid hi0
  have hlen : ps.length ≤ 9223372036854775807 := by unfold maxLen at hc; omega
  have hblen : b.length ≤ 9223372036854775807 := by unfold maxLen at x2; omega
  have HO := Lib.hid h
  have HC := Lib.hid (And.intro hc hlc)
  have HNIL := Lib.hid x3
  have HBY := Lib.hid x4
  have HBYT := Lib.hid hbyt
  have HX := Lib.hid (And.intro x1 x2)
  clear h hc hlc hi0 x1 x2 x3 x4 hbyt
  by_cases g1 : 9000 < b.length
  · have d1 : decide ((9000 : Int) < (b.length : Int)) = true := decide_eq_true (by omega)
    have d1n : decide (9000 < b.length) = true := decide_eq_true g1
    clear g1
    go_enter Try.func6, Try.ntmps6
    go_wp2_with fail
    refine (known_any w).mono ?_
    rintro e w1 ⟨rfl, hb⟩
    go_wp2_with fail
    go_ret
    exact ⟨rfl, hb⟩
  have d1 : decide ((9000 : Int) < (b.length : Int)) = false := decide_eq_false (by omega)
  have d1n : decide (9000 < b.length) = false := decide_eq_false g1
  by_cases g2 : 300 < ps.length
  · have d2 : decide ((300 : Int) < (ps.length : Int)) = true := decide_eq_true (by omega)
    have d2n : decide (300 < ps.length) = true := decide_eq_true g2
    clear g1 g2
    go_enter Try.func6, Try.ntmps6
    go_wp2_with fail
    refine (known_any w).mono ?_
    rintro e w1 ⟨rfl, hb⟩
    go_wp2_with fail
    go_ret
    exact ⟨rfl, hb⟩
  have d2 : decide ((300 : Int) < (ps.length : Int)) = false := decide_eq_false (by omega)
  have d2n : decide (300 < ps.length) = false := decide_eq_false g2
  have hb9 : b.length ≤ 9000 := by omega
  have hp3 : ps.length ≤ 300 := by omega
  clear g1 g2
  go_enter Try.func6, Try.ntmps6
  go_wp2_with (at_builtin; refine wpList_addall rfl (.const (.slice none 0 0)) (.tmp 24) 23 rfl w.heap.size 5 i0 (.int .u8 0) 1 Try.underlying23 HI.out ix0 ix1 ix2 rfl _ _ _ rfl (World.ownsRow_nil _ _ _ _) 0 w.heap.size A0 b.length c0 (bv b) rfl HNIL.out (bv_length b) HBY.out (bv_one b) (by unfold maxLen; omega) (by omega) (Nat.le_refl _) ?_)
  intro v1 w1 hown1' hb1'
  have hown1 : w1.ownsRow w.heap.size 5 1 v1 b.length (bv b) := by simpa using hown1'
  have hb1 := hb1' w (Below.refl _ _)
  clear hown1' hb1'
  obtain ⟨A1, c1, rfl, y1, y2, y3, y4⟩ := Bs.of_own hown1
  have HO1 := Lib.hid hown1
  have HB1 := Lib.hid hb1
  clear hown1 hb1 y1 y2 y3 y4
  go_wp2_with fail
  refine (open_any _ w.heap.size w1.heap.size b w1 (Bs.of_own HO1.out) (Nat.le_refl _) (by omega) HBYT.out).mono ?_
  rintro e w2 ⟨r, lo, hi, rfl, hrd, hr1, hlo1, hb2⟩
  have HRD := Lib.hid hrd
  have HB2 := Lib.hid hb2
  have HR1 := Lib.hid hr1
  have HLO1 := Lib.hid hlo1
  have HBY2 := Lib.hid (show By w2 0 w.heap.size A0 b from Sl.below (Sl.below HBY.out HB1.out (Nat.le_refl _)) hb2 HB1.out.size)
  have hpn := fun u => pnil r 0 u
  clear hrd hb2 hr1 hlo1
  go_wp2_with (at_builtin; refine wpList_addall rfl (.const (.slice none 0 0)) (.tmp 28) 23 rfl w2.heap.size 5 i0 (.int .u8 0) 1 Try.underlying23 HI.out ix0 ix1 ix2 rfl _ _ _ rfl (World.ownsRow_nil _ _ _ _) 0 w.heap.size A0 b.length c0 (bv b) rfl HNIL.out (bv_length b) HBY2.out (bv_one b) (by unfold maxLen; omega) (by omega) (Nat.le_refl _) ?_)
  intro v3 w3 hown3' hb3'
  have hown3 : w3.ownsRow w2.heap.size 5 1 v3 b.length (bv b) := by simpa using hown3'
  have hb3 := hb3' w2 (Below.refl _ _)
  clear hown3' hb3'
  obtain ⟨A3, c3, rfl, z1, z2, z3, z4⟩ := Bs.of_own hown3
  clear z1 z2 z3 z4
  have HBO := Lib.hid (both_new HRD.out hb3 hown3)
  have HB3 := Lib.hid (HB1.out.trans ((HB2.out.mono HB1.out.size).trans (hb3.mono (Nat.le_trans HB1.out.size HB2.out.size))))
  have HO3 := Lib.hid (own_alloc (own_below (own_below HO1.out HB2.out) hb3) (.cells #[.slice A3 b.length c3] 47))
  have HLT := Lib.hid HO1.out.lt
  have HROW := Lib.hid (Row.of_own HO3.out HBYT.out).2
  obtain ⟨ro, hro⟩ : ∃ ro, ro = (Value.slice A1 b.length c1).ownBlock := ⟨_, rfl⟩
  rw [← hro] at HROW HLT
  have HZ := Lib.hid (And.intro HB2.out.size hb3.size)
  clear hown3 hb3 hro
  go_wp2_with fail
  obtain ⟨q, hq⟩ : ∃ q, q = w3.heap.size := ⟨_, rfl⟩
  rw [← hq] at HBO
  rw [← hq]
  obtain ⟨lo2, hlo2⟩ : ∃ lo2, lo2 = w2.heap.size := ⟨_, rfl⟩
  rw [← hlo2] at HBO
  have HFAR : Hid (∀ k, ro = some k → k < r ∧ k < q ∧ k < lo ∧ k < lo2) := fun k hk => by
    have h1 := (HLT.out k hk).2; have h2 := HR1.out; have h3 := HLO1.out; have h4 := HZ.out; omega
  have HRQ : Hid (w.heap.size ≤ r ∧ w.heap.size ≤ q) := by
    have h2 := HR1.out; have h4 := HZ.out; have h5 := HB1.out.size; exact Lib.hid (by omega)
  have HBS := Lib.hid (HB3.out.alloc HB3.out.size (.cells #[.slice A3 b.length c3] 47))
  clear hq hlo2 HO1 HB1 HRD HB2 HR1 HLO1 HBY2 HZ HO3 HB3
  go_loopw [8] (fun i wr => ∃ k : Nat, k ≤ b.length ∧ i = .int .i64 (k : Int) ∧ Hid (Row wr ro A1 b.length) ∧ Hid (Both wr r lo hi q lo2 q b) ∧ Hid (Below w.heap.size w wr)) (fun i _ => b.length - (intOf i).toNat)
  case atStart => exact ⟨0, Nat.zero_le _, rfl, HROW, HBO, HBS⟩
  case round =>
    obtain ⟨k, hk, rfl, HRW, HBT, HBL⟩ := hrel
    by_cases hlt : k < b.length
    · obtain ⟨g, hrog, rfl, ⟨x, hx, hcell⟩, hfz⟩ := HRW.out k hlt
      have e1 : decide ((k : Int) < (b.length : Int)) = true := decide_eq_true (by omega)
      have e1n : decide (k < b.length) = true := decide_eq_true hlt
      have HG := Lib.hid hrog
      clear hrog hx
      go_wp2_with fail
      go_roundw
      case rel => exact ⟨k + 1, by omega, by go_num, Lib.hid (HRW.out.set (x := 1) (by omega)), Lib.hid (HBT.out.grown (grownBy_set _ g _ _) (fun j hj => HFAR.out j (HG.out.trans hj))), Lib.hid (HBL.out.grown (grownBy_set _ g _ _) HBL.out.size (fun j hj => (HLT.out j (HG.out.trans hj)).1))⟩
      case measure => simp [intOf]; omega
    · have e1 : decide ((k : Int) < (b.length : Int)) = false := decide_eq_false (by omega)
      have e1n : decide (k < b.length) = false := decide_eq_false hlt
      clear HRW HFAR HLT HROW HBO HBS hlt hk
      go_wp2_with fail
      go_loopw [9] (fun i wr => ∃ (k : Nat) (l : List Nat), k ≤ ps.length ∧ i = .int .i64 (k : Int) ∧ Hid (l.length ≤ 9000) ∧ Hid (Both wr r lo hi q lo2 q l) ∧ Hid (Below w.heap.size w wr)) (fun i _ => ps.length - (intOf i).toNat)
      case atStart => exact ⟨0, b, Nat.zero_le _, rfl, Lib.hid hb9, HBT, HBL⟩
      case round =>
        clear HBT HBL
        obtain ⟨k, l, hk, rfl, HLL, HBT, HBL⟩ := hrel
        by_cases hlt : k < ps.length
        · have e2 : decide ((k : Int) < (ps.length : Int)) = true := decide_eq_true (by omega)
          have e2n : decide (k < ps.length) = true := decide_eq_true hlt
          obtain ⟨bo, o, rfl, hbd, hat⟩ := HO.out.at_ hlt
          obtain ⟨kind, hkd⟩ : ∃ kind, kind = ps[k].1 := ⟨_, rfl⟩
          obtain ⟨most, hmo⟩ : ∃ most, most = ps[k].2 := ⟨_, rfl⟩
          rw [← hkd, ← hmo] at hat
          rw [← hmo] at hbd
          have HAT := Lib.hid hat
          have HBD := Lib.hid hbd
          obtain ⟨f0, f1⟩ := hat _ HBL.out
          clear hkd hmo hbd hat
          go_wp2_with fail
          refine (RLeft_any _ _ _ _ _ HBT.out.qd).mono ?_
          rintro e wz ⟨rfl, rfl⟩
          go_wp2_with fail
          refine (read_any kind most HBD.out.1 HBD.out.2 _ _ _ _ _ _ _ _ HBT.out (by have := HLL.out; omega)).mono ?_
          rintro e wy ⟨k1, rest, hrd, rfl, hbt, hgg⟩
          have HRDS := Lib.hid hrd
          have HBY1 := Lib.hid hbt
          have HBL1 := Lib.hid (HBL.out.trans (below_g2 hgg HBL.out.size HRQ.out.1 HRQ.out.2))
          obtain ⟨f2, f3⟩ := HAT.out _ HBL1.out
          have HRL := Lib.hid hrd.len
          obtain ⟨z, hz⟩ : ∃ z : Bool, ((rest.length : Int) == 0) = z := ⟨_, rfl⟩
          obtain ⟨en, hen⟩ : ∃ en, en = endErr rest := ⟨_, rfl⟩
          have hz2 : (en == 0) = z := by rw [hen, end_eq, hz]
          have hz3 : (rest.length == 0) = z := by rw [← hz]; exact nat_eq _
          have hz4 : (z != z) = false := by simp
          have HEND := Lib.hid (end_any _ _ _ _ _ hbt.rd)
          rw [← hen] at HEND
          have n1 : ((rest.length : Int) != (rest.length : Int)) = false := by simp
          clear hrd hbt hgg f0 f1 hen
          by_cases hk1 : k1 = 0
          · subst hk1
            go_wp2_with fail
            refine (left_any _ _ _ _ _ HBY1.out.rd).mono ?_
            rintro e wx ⟨rfl, rfl⟩
            go_wp2_with fail
            refine (RLeft_any _ _ _ _ _ HBY1.out.qd).mono ?_
            rintro e wx ⟨rfl, rfl⟩
            go_wp2_with fail
            refine Calls.mono HEND.out ?_
            rintro e wx ⟨rfl, rfl⟩
            go_wp2_with fail
            refine (errnum en _).mono ?_
            rintro e wx ⟨rfl, rfl⟩
            go_wp2_with fail
            refine (RLeft_any _ _ _ _ _ HBY1.out.qd).mono ?_
            rintro e wx ⟨rfl, rfl⟩
            go_wp2_with fail
            refine (read_any kind most HBD.out.1 HBD.out.2 _ _ _ _ _ _ _ _ HBY1.out (by have := HRL.out; have := HLL.out; omega)).mono ?_
            rintro e wv ⟨k2, rest2, hrd2, rfl, hbt2, hgg2⟩
            have HB2 := Lib.hid hbt2
            have HBL2 := Lib.hid (HBL1.out.trans (below_g2 hgg2 HBL1.out.size HRQ.out.1 HRQ.out.2))
            have HLL2 := Lib.hid (show rest2.length ≤ 9000 by have := hrd2.len; have := HRL.out; have := HLL.out; omega)
            clear hrd2 hbt2 hgg2
            go_wp2_with fail
            go_roundw
            case rel => exact ⟨k + 1, rest2, by omega, by go_num, HLL2, HB2, HBL2⟩
            case measure => simp [intOf]; omega
          · have h1 : (k1 != 0) = true := by simpa using hk1
            obtain rfl := HRDS.out.stay hk1
            clear hk1
            go_wp2_with fail
            refine (left_any _ _ _ _ _ HBY1.out.rd).mono ?_
            rintro e wx ⟨rfl, rfl⟩
            go_wp2_with fail
            refine (RLeft_any _ _ _ _ _ HBY1.out.qd).mono ?_
            rintro e wx ⟨rfl, rfl⟩
            go_wp2_with fail
            refine Calls.mono HEND.out ?_
            rintro e wx ⟨rfl, rfl⟩
            go_wp2_with fail
            refine (errnum en _).mono ?_
            rintro e wx ⟨rfl, rfl⟩
            go_wp2_with fail
            refine (RLeft_any _ _ _ _ _ HBY1.out.qd).mono ?_
            rintro e wx ⟨rfl, rfl⟩
            go_wp2_with fail
            refine (RLeft_any _ _ _ _ _ HBY1.out.qd).mono ?_
            rintro e wx ⟨rfl, rfl⟩
            go_wp2_with fail
            refine (read_any kind most HBD.out.1 HBD.out.2 _ _ _ _ _ _ _ _ HBY1.out (by have := HRL.out; have := HLL.out; omega)).mono ?_
            rintro e wv ⟨k2, rest2, hrd2, rfl, hbt2, hgg2⟩
            obtain ⟨rfl, rfl⟩ := HRDS.out.same hrd2
            have hkk : (k1 != k1) = false := by simp
            have HB2 := Lib.hid hbt2
            have HBL2 := Lib.hid (HBL1.out.trans (below_g2 hgg2 HBL1.out.size HRQ.out.1 HRQ.out.2))
            clear hrd2 hbt2 hgg2
            go_wp2_with fail
            go_roundw
            case rel => exact ⟨k + 1, rest, by omega, by go_num, HLL, HB2, HBL2⟩
            case measure => simp [intOf]; omega
        · have e2 : decide ((k : Int) < (ps.length : Int)) = false := decide_eq_false (by omega)
          have e2n : decide (k < ps.length) = false := decide_eq_false hlt
          clear hlt
          go_wp2_with fail
          refine (known_any _).mono ?_
          rintro e wx ⟨rfl, hbk⟩
          go_wp2_with fail
          go_ret
          exact ⟨rfl, HBL.out.trans (hbk.mono HBL.out.size)⟩
end Go.Proofs.Ytdggemdgndiafaa.wireReaders
