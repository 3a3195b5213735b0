/- WireTakes: a list of pairs is written and read; too long by one, cut. -/
import Derived.Test.YtdggemdgndiafaaTout
import Derived.Test.YtdggemdgndiafaaRnum
import Derived.Test.YtdggemdgndiafaaWkeeps
import Derived.Test.YtdggemdgndiafaaWmore
import Derived.Deep.DeepCutAuto
import Derived.BigQuiet
namespace Go.Proofs.Ytdggemdgndiafaa.wireTakes
open Go.ChangeShapes Go.WideShapes Go.ChangeAt Go.RowKit

theorem pairs_byt (xs : List (Nat × Nat)) : ∀ x ∈ pairsForm xs, x < 256 := by
  intro x hx
  unfold pairsForm at hx
  rcases List.mem_append.1 hx with h | h
  · exact form_bytes _ x h
  · obtain ⟨l, hl, hxl⟩ := List.mem_flatten.1 h
    simp only [List.mem_map] at hl
    obtain ⟨p, _, rfl⟩ := hl
    rcases List.mem_append.1 hxl with h1 | h1
    · exact form_bytes _ x h1
    · exact form_bytes _ x h1

set_option maxRecDepth 100000 in
set_option maxHeartbeats 8000000 in
theorem walk (w : World) (A : Option Addr) (c : Nat) (xs : List (Nat × Nat)) (h : Sl w 0 w.heap.size A (uv2 xs)) (hU : Two64 xs) (hc : c ≤ maxLen) (hlc : xs.length ≤ c) (cut : Int) (hcut : (Lit.int .i64 cut).wf = true) :
    Calls Try.prog 9 #[.slice A xs.length c, .int .i64 cut] w fun e w' => e = .returned (.bool true) ∧ Below w.heap.size w w' := by
  obtain ⟨i0, hi0, ix0, ix1, ix2⟩ := info_parts t5info
  have HI := Lib.hid hi0
  have hlen : xs.length ≤ 9223372036854775807 := by unfold maxLen at hc; omega
  have hcu : -9223372036854775808 ≤ cut ∧ cut ≤ 9223372036854775807 := by simpa [Lit.wf, IntKind.min, IntKind.max, IntKind.signed, IntKind.bits] using hcut
  have HS := Lib.hid h
  have HU := Lib.hid hU
  have HCU := Lib.hid hcu
  clear h hU hi0 hc hlc hcut
  by_cases g1 : 3000 < xs.length
  · have d1 : decide ((3000 : Int) < (xs.length : Int)) = true := decide_eq_true (by omega)
    have d1n : decide (3000 < xs.length) = true := decide_eq_true g1
    clear g1 hcu
    go_enter Try.func9, Try.ntmps9
    go_wp2_with fail
    refine (known_any w).mono ?_
    rintro e w1 ⟨rfl, hb⟩
    go_wp2_with fail
    go_ret
    exact ⟨rfl, hb⟩
  have d1 : decide ((3000 : Int) < (xs.length : Int)) = false := decide_eq_false (by omega)
  have d1n : decide (3000 < xs.length) = false := decide_eq_false g1
  have hl3 : xs.length ≤ 3000 := by omega
  have hw1 : IntKind.u64.wrap (xs.length : Int) = (xs.length : Int) := by rw [IntKind.wrap_u64]; omega
  have HL3 := Lib.hid hl3
  have HP := Lib.hid (PutTwo_any A c 0 w.heap.size xs xs.length rfl w HS.out (Nat.le_refl _) HU.out hl3)
  clear g1 hcu
  go_enter Try.func9, Try.ntmps9
  go_wp2_with fail
  refine Calls.mono HP.out ?_
  rintro e w1 ⟨vb, rfl, hownb, hb1⟩
  obtain ⟨L, hL⟩ : ∃ L, L = pairsForm xs := ⟨_, rfl⟩
  rw [← hL] at hownb
  have HLL : Hid (L.length ≤ 70000) := Lib.hid (by rw [hL, ← pre2_all]; exact pre2_len xs HU.out hl3 (Nat.le_refl _))
  have HLE := Lib.hid hL
  have HB1 := Lib.hid hb1
  have HBS := Lib.hid (Bs.of_own hownb)
  obtain ⟨Ab, cb, rfl, y1, y2, y3, y4⟩ := Bs.of_own hownb
  have HCB := Lib.hid (And.intro y1 y2)
  have HNB := Lib.hid y3
  clear hownb hb1 y1 y2 y3 y4 hL
  go_wp2_with fail
  refine (rnumber_any xs.length ⟨by omega⟩ w1).mono ?_
  rintro e w2 ⟨vw, rfl, hownw, hb2⟩
  have HOW : Hid (w2.ownsRow w1.heap.size 5 1 vw (pre2 xs 0).length (bv (pre2 xs 0))) := Lib.hid (by rw [pre2_zero]; exact hownw)
  have HB2 := Lib.hid hb2
  clear hownw hb2
  go_wp2_with fail
  go_loopw [7, 8] (fun v i wr => ∃ k : Nat, k ≤ xs.length ∧ i = .int .i64 (k : Int) ∧ Hid (wr.ownsRow w1.heap.size 5 1 v (pre2 xs k).length (bv (pre2 xs k))) ∧ Hid (Below w1.heap.size w1 wr)) (fun _ i _ => xs.length - (intOf i).toNat)
  case atStart => exact ⟨0, Nat.zero_le _, rfl, HOW, HB2⟩
  case round =>
    clear HOW HB2
    obtain ⟨k, hk, rfl, HO, HB⟩ := hrel
    by_cases hlt : k < xs.length
    · have e1 : decide ((k : Int) < (xs.length : Int)) = true := decide_eq_true (by omega)
      have e1n : decide (k < xs.length) = true := decide_eq_true hlt
      obtain ⟨b, o, rfl, hc0, hc1⟩ := uv2_at HS.out hlt
      have HX := Lib.hid (HU.out xs[k] (List.getElem_mem hlt))
      have HPS := Lib.hid (pre2_succ xs hlt)
      have HPL := Lib.hid (pre2_len xs HU.out HL3.out (k := k + 1) hlt)
      obtain ⟨x, y, hxy⟩ : ∃ x y, xs[k] = (x, y) := ⟨_, _, rfl⟩
      rw [hxy] at HX HPS hc0 hc1
      simp only at hc0 hc1
      have hbl : b < w.heap.size := World.block_lt_of_cell? w _ hc0
      have HC : Hid (∀ u, Below w1.heap.size wr.drew u → u.cell? ⟨b, o + k * 2, none⟩ = some (.int .u64 (x : Int)) ∧ u.cell? ⟨b, o + k * 2 + 1, none⟩ = some (.int .u64 (y : Int))) := fun u hu => by
        have hb := HB1.out.trans ((HB.out.drew.trans hu).mono HB1.out.size)
        exact ⟨(hb.cell (p := ⟨b, o + k * 2, none⟩) hbl).trans hc0, (hb.cell (p := ⟨b, o + k * 2 + 1, none⟩) hbl).trans hc1⟩
      have HR1 := Lib.hid (fun u => rnumber_any x HX.out.1 u)
      have HR2 := Lib.hid (fun u => rnumber_any y HX.out.2 u)
      have hki : (k : Int) < (xs.length : Int) := by omega
      clear hxy hc0 hc1 hbl
      go_upto_region 8 with (fail)
      refine atB_start (B := w1.heap.size) (by kernel_rfl) (n := 16) rfl ?_
      have HBD := Lib.hid HB.out.drew
      have HOD : Hid (wr.drew.ownsRow w1.heap.size 5 1 u7 (pre2 xs k).length (bv (pre2 xs k))) := HO
      clear HO HB
      generalize wr.drew = wd at *
      (refine atB_read 0 (v := ?_) rfl (by kernel_rfl) (by kernel_rfl) (by kernel_rfl) (fun _ _ _ h => h) (.inl ⟨by rfl, fun u hu => ?_⟩) ?_; rotate_left; (focus (have q1 := HC.out u hu; go_simp; try with_reducible rfl)); simp only [Act.put, List.setIfInBounds_toArray, List.set_cons_zero, List.set_cons_succ])
      (refine atB_read 1 (v := ?_) rfl (by kernel_rfl) (by kernel_rfl) (by kernel_rfl) (fun _ _ _ h => h) (.inl ⟨by rfl, fun u hu => ?_⟩) ?_; rotate_left; (focus (have q1 := HC.out u hu; go_simp; try with_reducible rfl)); simp only [Act.put, List.setIfInBounds_toArray, List.set_cons_zero, List.set_cons_succ])
      (refine atB_read 2 (v := ?_) rfl (by kernel_rfl) (by kernel_rfl) (by kernel_rfl) (fun _ _ _ h => h) (.inl ⟨by rfl, fun u hu => ?_⟩) ?_; rotate_left; (focus (have q1 := HC.out u hu; go_simp; try with_reducible rfl)); simp only [Act.put, List.setIfInBounds_toArray, List.set_cons_zero, List.set_cons_succ])
      (refine atB_read 3 (v := ?_) rfl (by kernel_rfl) (by kernel_rfl) (by kernel_rfl) (fun _ _ _ h => h) (.inl ⟨by rfl, fun u hu => ?_⟩) ?_; rotate_left; (focus (have q1 := HC.out u hu; go_simp; try with_reducible rfl)); simp only [Act.put, List.setIfInBounds_toArray, List.set_cons_zero, List.set_cons_succ])
      (refine atB_read 4 (v := ?_) rfl (by kernel_rfl) (by kernel_rfl) (by kernel_rfl) (fun _ _ _ h => h) (.inl ⟨by rfl, fun u hu => ?_⟩) ?_; rotate_left; (focus (have q1 := HC.out u hu; go_simp; try with_reducible rfl)); simp only [Act.put, List.setIfInBounds_toArray, List.set_cons_zero, List.set_cons_succ])
      (refine atB_read 5 (v := ?_) rfl (by kernel_rfl) (by kernel_rfl) (by kernel_rfl) (fun _ _ _ h => h) (.inl ⟨by rfl, fun u hu => ?_⟩) ?_; rotate_left; (focus (have q1 := HC.out u hu; go_simp; try with_reducible rfl)); simp only [Act.put, List.setIfInBounds_toArray, List.set_cons_zero, List.set_cons_succ])
      (refine atB_read 8 (v := ?_) rfl (by kernel_rfl) (by kernel_rfl) (by kernel_rfl) (fun _ _ _ h => h) (.inl ⟨by rfl, fun u hu => ?_⟩) ?_; rotate_left; (focus (have q1 := HC.out u hu; go_simp; try with_reducible rfl)); simp only [Act.put, List.setIfInBounds_toArray, List.set_cons_zero, List.set_cons_succ])
      (refine atB_read 9 (v := ?_) rfl (by kernel_rfl) (by kernel_rfl) (by kernel_rfl) (fun _ _ _ h => h) (.inl ⟨by rfl, fun u hu => ?_⟩) ?_; rotate_left; (focus (have q1 := HC.out u hu; go_simp; try with_reducible rfl)); simp only [Act.put, List.setIfInBounds_toArray, List.set_cons_zero, List.set_cons_succ])
      (refine atB_read 10 (v := ?_) rfl (by kernel_rfl) (by kernel_rfl) (by kernel_rfl) (fun _ _ _ h => h) (.inl ⟨by rfl, fun u hu => ?_⟩) ?_; rotate_left; (focus (have q1 := HC.out u hu; go_simp; try with_reducible rfl)); simp only [Act.put, List.setIfInBounds_toArray, List.set_cons_zero, List.set_cons_succ])
      (refine atB_read 11 (v := ?_) rfl (by kernel_rfl) (by kernel_rfl) (by kernel_rfl) (fun _ _ _ h => h) (.inl ⟨by rfl, fun u hu => ?_⟩) ?_; rotate_left; (focus (have q1 := HC.out u hu; go_simp; try with_reducible rfl)); simp only [Act.put, List.setIfInBounds_toArray, List.set_cons_zero, List.set_cons_succ])
      (refine atB_read 12 (v := ?_) rfl (by kernel_rfl) (by kernel_rfl) (by kernel_rfl) (fun _ _ _ h => h) (.inl ⟨by rfl, fun u hu => ?_⟩) ?_; rotate_left; (focus (have q1 := HC.out u hu; go_simp; try with_reducible rfl)); simp only [Act.put, List.setIfInBounds_toArray, List.set_cons_zero, List.set_cons_succ])
      have hl1 := form_len64 HX.out.1
      have hl2 := form_len64 HX.out.2
      have hpl : (pre2 xs k).length + (form x).length + (form y).length ≤ 70000 := by
        have := HPL.out; rw [HPS.out] at this; simp [form2] at this; omega
      have HE : Hid (pre2 xs (k + 1) = (pre2 xs k ++ form x) ++ form y) := Lib.hid (by rw [HPS.out]; simp [form2])
      refine atB_make 6 rfl (by kernel_rfl) (fun K hK => ?_)
      go_simp
      refine Calls.mono (HR1.out _) ?_
      rintro e w3 ⟨v3, rfl, hown3, hb3⟩
      have hzd := HBD.out.size
      have HO3 := Lib.hid (own_below HOD.out hb3)
      have HB3 := Lib.hid (HBD.out.trans (hb3.mono hzd))
      obtain ⟨ad3, c3, rfl, hy3⟩ := form_some hown3
      have HY3 := Lib.hid hy3
      refine hK _ _ (hb3.mono hzd) ?_
      clear hK K hown3 hb3 hy3
      try simp only [Act.put, List.setIfInBounds_toArray, List.set_cons_zero, List.set_cons_succ]
      refine atB_make 7 rfl (by kernel_rfl) (fun K hK => ?_)
      rw [if_pos (by rfl)]
      have hz3 := HB3.out.size
      refine wp_addsome (.tmp 37) (.tmp 43) 23 rfl w1.heap.size 5 i0 (.int .u8 0) 1 Try.underlying23 HI.out ix0 ix1 ix2 rfl _ _ _ rfl HO3.out _ _ ad3 (form x).length c3 (bv (form x)) rfl (bv_length _) HY3.out (bv_one _) (by unfold maxLen; omega) (by omega) hz3 ?_
      intro v4 w4 hown4 hb4
      have HO4 : Hid (w4.ownsRow w1.heap.size 5 1 v4 (pre2 xs k ++ form x).length (bv (pre2 xs k ++ form x))) := Lib.hid (by rw [bv_append, List.length_append]; exact hown4)
      have HB4 := Lib.hid (hb4 _ HB3.out)
      refine hK _ _ (hb4 _ (Below.refl _ _)) ?_
      clear hK K hown4 hb4
      try simp only [Act.put, List.setIfInBounds_toArray, List.set_cons_zero, List.set_cons_succ]
      refine atB_make 13 rfl (by kernel_rfl) (fun K hK => ?_)
      go_simp
      refine Calls.mono (HR2.out _) ?_
      rintro e w5 ⟨v5, rfl, hown5, hb5⟩
      have hz4 := HB4.out.size
      have HO5 := Lib.hid (own_below HO4.out hb5)
      have HB5 := Lib.hid (HB4.out.trans (hb5.mono hz4))
      obtain ⟨ad5, c5, rfl, hy5⟩ := form_some hown5
      have HY5 := Lib.hid hy5
      refine hK _ _ (hb5.mono hz4) ?_
      clear hK K hown5 hb5 hy5
      try simp only [Act.put, List.setIfInBounds_toArray, List.set_cons_zero, List.set_cons_succ]
      refine atB_make 14 rfl (by kernel_rfl) (fun K hK => ?_)
      rw [if_pos (by rfl)]
      have hz5 := HB5.out.size
      refine wp_addsome (.tmp 44) (.tmp 50) 23 rfl w1.heap.size 5 i0 (.int .u8 0) 1 Try.underlying23 HI.out ix0 ix1 ix2 rfl _ _ _ rfl HO5.out _ _ ad5 (form y).length c5 (bv (form y)) rfl (bv_length _) HY5.out (bv_one _) (by rw [List.length_append]; unfold maxLen; omega) (by rw [List.length_append]; omega) hz5 ?_
      intro v6 w6 hown6 hb6
      have HO6 : Hid (w6.ownsRow w1.heap.size 5 1 v6 (pre2 xs (k + 1)).length (bv (pre2 xs (k + 1)))) := Lib.hid (by rw [HE.out, bv_append, List.length_append]; exact hown6)
      have HB6 := Lib.hid (hb6 _ HB5.out)
      refine hK _ _ (hb6 _ (Below.refl _ _)) ?_
      clear hK K hown6 hb6
      try simp only [Act.put, List.setIfInBounds_toArray, List.set_cons_zero, List.set_cons_succ]
      (refine atB_read 15 (v := ?_) rfl (by kernel_rfl) (by kernel_rfl) (by kernel_rfl) (fun _ _ _ h => h) (.inl ⟨by rfl, fun u hu => ?_⟩) ?_; rotate_left; (focus (go_simp; try with_reducible rfl)); simp only [Act.put, List.setIfInBounds_toArray, List.set_cons_zero, List.set_cons_succ])
      refine atB_done (by kernel_rfl) ?_
      clear HO3 HB3 HY3 HO4 HB4 HO5 HB5 HY5 HR1 HR2 HC HOD HBD
      go_wp2_with fail
      go_roundw
      case rel => exact ⟨k + 1, by omega, by go_num, HO6, HB6⟩
      case measure => simp [intOf]; omega
    · obtain rfl : k = xs.length := by omega
      have e1 : decide ((xs.length : Int) < (xs.length : Int)) = false := by simp
      have e1n : decide (xs.length < xs.length) = false := by simp
      have HLW : Hid (pre2 xs xs.length = L) := Lib.hid (by rw [pre2_all, HLE.out])
      rw [HLW.out] at HO
      have HBW := Lib.hid (Bs.of_own HO.out)
      obtain ⟨Aw, cw, rfl, y1, y2, y3, y4⟩ := Bs.of_own HO.out
      have HBL := Lib.hid (HBS.out.below HB.out (Nat.le_refl _))
      have HLB : Hid (∀ x ∈ L, x < 256) := Lib.hid (by rw [HLE.out]; exact pairs_byt xs)
      clear y1 y2 y3 y4 hlt hk HO HLW
      go_wp2_with fail
      refine (open_any _ w.heap.size w1.heap.size L wr HBL.out HB.out.size (by have := HLL.out; omega) HLB.out).mono ?_
      rintro e w2' ⟨r, lo, hi, rfl, hrd, hr1, hlo1, hb2⟩
      have HRD := Lib.hid hrd
      have HRR := Lib.hid (And.intro (Nat.le_trans HB.out.size hr1) (Nat.le_trans HB.out.size hlo1))
      have HQ2 := Lib.hid (HB.out.trans (hb2.mono HB.out.size))
      have hcv1 := cv (HBL.out.below hb2 HB.out.size)
      have hcv2 := cv (HBW.out.below hb2 (Nat.le_refl _))
      have hpn := fun u => pnil r 0 u
      have t1 : ((tx L).toList != (tx L).toList) = false := by simp
      have t2 : ((tx L).toList == (tx L).toList) = true := by simp
      have n1 : ((xs.length : Int) != (xs.length : Int)) = false := by simp
      have n2 : ((L.length : Int) != (L.length : Int)) = false := by simp
      have hlI : (xs.length : Int) ≤ 3000 := by omega
      clear hrd hr1 hlo1 hb2 HBL HBW HB
      go_wp2_with fail
      refine (errnum 0 _).mono ?_
      rintro e wx ⟨rfl, rfl⟩
      go_wp2_with fail
      refine (Take_long HU.out HL3.out (by rw [← HLE.out]; exact HRD.out)).mono ?_
      rintro e w3 ⟨k, hk1, hk2, rfl, hrd3, hg3⟩
      rw [← HLE.out] at hrd3
      have HRD3 := Lib.hid hrd3
      have HQ3 := Lib.hid (HQ2.out.trans (below_of_grown hg3 HRR.out.1 HQ2.out.size))
      clear hrd3 hg3 hcv1 hcv2 HQ2 HRD
      go_upto_region 13 with (fail)
      go_cut [105] (fun v wx => v = .bool false ∧ wx = w3)
      case first =>
        by_cases hz : xs.length = 0
        · obtain rfl := hk2 hz
          have z1 : decide ((0 : Int) < (xs.length : Int)) = false := decide_eq_false (by omega)
          have z1n : decide (0 < xs.length) = false := decide_eq_false (by omega)
          have z2 : ((xs.length : Int) == 0) = true := by rw [beq_iff_eq]; omega
          have z2n : (xs.length == 0) = true := by rw [beq_iff_eq]; omega
          clear hz hk1 hk2
          go_wp2_with fail
          refine (errnum 2 _).mono ?_
          rintro e wx ⟨rfl, rfl⟩
          go_wp2_with fail
          refine (left_any _ _ _ _ _ HRD3.out).mono ?_
          rintro e wx ⟨rfl, rfl⟩
          go_wp2_with fail
          go_meet
          exact ⟨rfl, rfl⟩
        · obtain rfl := hk1 (by omega)
          have z1 : decide ((0 : Int) < (xs.length : Int)) = true := decide_eq_true (by omega)
          have z1n : decide (0 < xs.length) = true := decide_eq_true (by omega)
          have z2 : ((xs.length : Int) == 0) = false := by rw [beq_eq_false_iff_ne]; omega
          have z2n : (xs.length == 0) = false := by rw [beq_eq_false_iff_ne]; omega
          clear hz hk1 hk2
          go_wp2_with fail
          refine (errnum 3 _).mono ?_
          rintro e wx ⟨rfl, rfl⟩
          go_wp2_with fail
          refine (left_any _ _ _ _ _ HRD3.out).mono ?_
          rintro e wx ⟨rfl, rfl⟩
          go_wp2_with fail
          go_meet
          exact ⟨rfl, rfl⟩
      case rest =>
        obtain ⟨rfl, rfl⟩ := hcut
        clear hk1 hk2
        go_wp2_with fail
        refine (Take_full HU.out HL3.out (by rw [← HLE.out]; exact HRD3.out)).mono ?_
        rintro e w4 ⟨va, rfl, hown4, hrd4, hg4⟩
        obtain ⟨Aa, ca, rfl, hsl4⟩ := Sl.of_own2 hown4
        have HSL4 := Lib.hid hsl4
        have HRD4 := Lib.hid hrd4
        have HQ4 := Lib.hid (HQ3.out.trans (below_of_grown hg4 HRR.out.1 HQ3.out.size))
        have HEND := Lib.hid (end_any _ _ _ _ _ hrd4)
        have he0 : endErr [] = 0 := rfl
        rw [he0] at HEND
        clear hown4 hsl4 hrd4 hg4 HQ3 he0
        go_wp2_with fail
        refine (errnum 0 _).mono ?_
        rintro e wx ⟨rfl, rfl⟩
        go_wp2_with fail
        refine Calls.mono HEND.out ?_
        rintro e wx ⟨rfl, rfl⟩
        go_wp2_with fail
        refine (errnum 0 _).mono ?_
        rintro e wx ⟨rfl, rfl⟩
        clear HEND
        go_wp2_with fail
        go_loopw [14] (fun i wz => ∃ k : Nat, k ≤ xs.length ∧ i = .int .i64 (k : Int) ∧ Hid (Below w4.heap.size w4 wz) ∧ Hid (wz.heap = w4.heap)) (fun i _ => xs.length - (intOf i).toNat)
        case atStart => exact ⟨0, Nat.zero_le _, rfl, Lib.hid (Below.refl _ _), Lib.hid rfl⟩
        case round =>
          obtain ⟨k, hk, rfl, HB5, HH⟩ := hrel
          by_cases hlt : k < xs.length
          · have e2 : decide ((k : Int) < (xs.length : Int)) = true := decide_eq_true (by omega)
            have e2n : decide (k < xs.length) = true := decide_eq_true hlt
            obtain ⟨b, o, rfl, hc0, hc1⟩ := uv2_at (HS.out.below (HB1.out.trans (HQ4.out.mono HB1.out.size)) (Nat.le_refl _)) hlt
            obtain ⟨ba, oa, rfl, ha0, ha1⟩ := uv2_at HSL4.out hlt
            obtain ⟨x, y, hxy⟩ : ∃ x y, xs[k] = (x, y) := ⟨_, _, rfl⟩
            rw [hxy] at hc0 hc1 ha0 ha1
            simp only at hc0 hc1 ha0 ha1
            have k0 : wr.cell? ⟨b, o + k * 2, none⟩ = some (.int .u64 (x : Int)) := (World.cell?_of_block (by rw [HH.out])).trans hc0
            have k1 : wr.cell? ⟨b, o + k * 2 + 1, none⟩ = some (.int .u64 (y : Int)) := (World.cell?_of_block (by rw [HH.out])).trans hc1
            have k2 : wr.cell? ⟨ba, oa + k * 2, none⟩ = some (.int .u64 (x : Int)) := (World.cell?_of_block (by rw [HH.out])).trans ha0
            have k3 : wr.cell? ⟨ba, oa + k * 2 + 1, none⟩ = some (.int .u64 (y : Int)) := (World.cell?_of_block (by rw [HH.out])).trans ha1
            have hag := fun u => agg_ne x y u
            have hki : (k : Int) < (xs.length : Int) := by omega
            clear hc0 hc1 ha0 ha1 hxy
            go_wp2_with fail
            go_quiet (fail)
            go_wp2_with fail
            go_roundw
            case rel => exact ⟨k + 1, by omega, by go_num, Lib.hid (below_drewN HB5.out _), Lib.hid HH.out⟩
            case measure => simp [intOf]; omega
          · have e2 : decide ((k : Int) < (xs.length : Int)) = false := decide_eq_false (by omega)
            have e2n : decide (k < xs.length) = false := decide_eq_false hlt
            have HQ5 := Lib.hid (HQ4.out.trans (HB5.out.mono HQ4.out.size))
            clear HQ4 HB5 HH hlt hk
            by_cases c1 : cut < 0
            · have q1 : decide (cut < 0) = true := decide_eq_true c1
              clear c1
              go_wp2_with fail
              refine (known_any _).mono ?_
              rintro e wx ⟨rfl, hbk⟩
              have HF := Lib.hid (HB1.out.trans ((HQ5.out.trans (hbk.mono HQ5.out.size)).mono HB1.out.size))
              clear hbk
              go_wp2_with fail
              go_ret
              exact ⟨rfl, HF.out⟩
            · have q1 : decide (cut < 0) = false := decide_eq_false c1
              obtain ⟨n, rfl⟩ : ∃ n : Nat, cut = (n : Int) := ⟨cut.toNat, by omega⟩
              by_cases c2 : L.length ≤ n
              · have q2 : decide ((L.length : Int) ≤ (n : Int)) = true := decide_eq_true (by omega)
                have q2n : decide (L.length ≤ n) = true := decide_eq_true c2
                clear c1 c2
                go_wp2_with fail
                refine (known_any _).mono ?_
                rintro e wx ⟨rfl, hbk⟩
                have HF := Lib.hid (HB1.out.trans ((HQ5.out.trans (hbk.mono HQ5.out.size)).mono HB1.out.size))
                clear hbk
                go_wp2_with fail
                go_ret
                exact ⟨rfl, HF.out⟩
              · have q2 : decide ((L.length : Int) ≤ (n : Int)) = false := decide_eq_false (by omega)
                have q2n : decide (L.length ≤ n) = false := decide_eq_false c2
                obtain ⟨A2, hA2, hA2n, hrun⟩ := head_run .i64 Ab L.length cb n (by omega) HCB.out.1
                have HBT := Lib.hid (prefix_bs (HBS.out.below HQ5.out (Nat.le_refl _)) hA2 hA2n (by omega))
                have HCN := Lib.hid (show n < L.length by omega)
                have hln : (L.take n).length = n := by simp; omega
                have HLN := Lib.hid hln
                have hnn : ((n : Int) == (n : Int)) = true := by simp
                clear c1 c2 hA2 hA2n hln
                go_wp2_with fail
                refine (open_any _ w.heap.size w1.heap.size (L.take n) _ HBT.out HQ5.out.size (by have := HLN.out; have := HLL.out; have := HCN.out; omega) (fun x hx => HLB.out x (List.mem_of_mem_take hx))).mono ?_
                rintro e w6 ⟨r2, lo2, hi2, rfl, hrd6, hr6, hlo6, hb6⟩
                have HRD6 := Lib.hid hrd6
                have HRR6 := Lib.hid (Nat.le_trans HQ5.out.size hr6)
                have HQ6 := Lib.hid (HQ5.out.trans (hb6.mono HQ5.out.size))
                clear hrd6 hr6 hlo6 hb6 HQ5
                go_wp2_with fail
                refine (Take_cut HU.out HL3.out (n := n) (by rw [← HLE.out]; exact HCN.out) (by rw [← HLE.out]; exact HRD6.out)).mono ?_
                rintro e w7 ⟨rfl, hrd7, hg7⟩
                rw [← HLE.out] at hrd7
                have HLF := Lib.hid (left_any _ _ _ _ _ hrd7)
                rw [HLN.out] at HLF
                have HQ7 := Lib.hid (HQ6.out.trans (below_of_grown hg7 HRR6.out HQ6.out.size))
                clear hrd7 hg7 HQ6 HRD6
                go_wp2_with fail
                refine (errnum 4 _).mono ?_
                rintro e wx ⟨rfl, rfl⟩
                go_wp2_with fail
                refine Calls.mono HLF.out ?_
                rintro e wx ⟨rfl, rfl⟩
                go_wp2_with fail
                refine (known_any _).mono ?_
                rintro e wx ⟨rfl, hbk⟩
                have HF := Lib.hid (HB1.out.trans ((HQ7.out.trans (hbk.mono HQ7.out.size)).mono HB1.out.size))
                clear hbk HLF
                go_wp2_with fail
                go_ret
                exact ⟨rfl, HF.out⟩
end Go.Proofs.Ytdggemdgndiafaa.wireTakes
