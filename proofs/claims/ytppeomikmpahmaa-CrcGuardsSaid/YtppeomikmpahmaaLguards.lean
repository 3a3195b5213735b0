/- CrcGuards: a block of which few bits are turned over does not hold its sum any more. -/
import Derived.Test.YtppeomikmpahmaaCturned
import Derived.Test.YtppeomikmpahmaaLmerges
import Derived.ShutString
namespace Go.Proofs.Ytppeomikmpahmaa.crcGuards
open Go.ChangeShapes Go.WideShapes Go.ChangeAt Go.RowKit Go.Proofs.Ytppeomikmpahmaa.crcMerges

/-- 'string(b)' of bytes that read as l. -/
theorem cv {w : World} {lo hi : Nat} {A : Option Addr} {n c : Nat} {l : List Nat} (h : Bs w lo hi (.slice A n c) l) : (convert 22 9 (.slice A n c)).run Try.prog w = .ok (.string (tx l)) w := by
  obtain ⟨A', c', he, _, _, _, h4⟩ := h
  have h5 : A = A' ∧ n = l.length ∧ c = c' := by injection he with a b c; exact ⟨a, b, c⟩
  obtain ⟨rfl, rfl, rfl⟩ := h5
  exact run_text (P := Try.prog) w 22 5 Try.underlying22 Try.underlying5 h4 l.length c rfl 9 Try.underlying9

theorem Ns.of_own {w : World} {base : Nat} {v : Value} {n : Nat} {l : List Int} (h : w.ownsRow base 3 1 v n (iv l)) (hn : l.length = n) : Ns w base w.heap.size v l := by
  subst hn
  have h0 := h
  obtain ⟨A, c, rfl, h1, h2, _, h4⟩ := Sl.of_own h
  refine ⟨A, c, rfl, h1, h2, ?_, h4⟩
  rintro rfl
  rcases h0.2 with ⟨he, _⟩ | ⟨g, cap, cur, he, _⟩
  · injection he
  · cases he
theorem t3info : (Try.prog.info? 3).map (fun i => (i.zero, i.size, i.bytes)) = some (some (.int .i64 0), 1, 8) := by kernel_rfl

/-- The ones of the burst, as numbers. -/
def bl (w f n : Nat) : List Int := (burst w f n).map fun k : Nat => (k : Int)
theorem bl_turn (L : List Nat) (w f n : Nat) (h : f + n ≤ 8 * L.length) : turn L (bl w f n) = (burst w f n).foldl flip L := by
  unfold turn bl
  rw [List.map_map]
  congr 1
  conv => rhs; rw [← List.map_id (burst w f n)]
  apply List.map_congr_left
  intro k hk
  have h1 := burst_lt w f n k hk
  have h2 : (k : Int).tmod ((8 * L.length : Nat) : Int) = (k : Int) := by
    rw [Int.tmod_eq_emod_of_nonneg (by omega), Int.emod_eq_of_lt (by omega) (by omega)]
  show place _ _ = k
  unfold place
  rw [h2, if_neg (by omega)]
  omega
theorem burst_len (w f n : Nat) : (burst w f n).length ≤ n := by
  induction n with
  | zero => simp [burst]
  | succ n ih => simp only [burst, List.length_append]; split <;> simp <;> omega
theorem same_eq {L a : List Nat} (hL : ∀ b ∈ L, b < 256) (ha : ∀ b ∈ a, b < 256) (h : crc a = crc L ↔ a = L) : ((crc a : Int) == (crc L : Int)) = decide (a = L) ∧ ((tx a).toList == (tx L).toList) = decide (a = L) := by
  constructor
  · rw [Bool.eq_iff_iff]
    simp only [beq_iff_eq, decide_eq_true_eq]
    rw [← h]
    omega
  · rw [Bool.eq_iff_iff]
    simp only [beq_iff_eq, decide_eq_true_eq]
    constructor
    · intro he
      refine tx_inj ha hL ?_
      rw [ByteArray.toList_eq, ByteArray.toList_eq] at he
      cases hx : tx a with
      | mk d =>
        cases hy : tx L with
        | mk e =>
          rw [hx, hy] at he
          have := Array.toList_inj.1 he
          simp at this
          rw [this]
    · rintro rfl; rfl
theorem Ns.head {w : World} {lo hi : Nat} {A : Option Addr} {n c : Nat} {l : List Int} (h : Ns w lo hi (.slice A n c) l) {k : Nat} (hk : k ≤ n) : Ns w lo hi (.slice A k c) (l.take k) := by
  obtain ⟨A', c', he, a1, a2, a3, a4⟩ := h
  injection he with x1 x2 x3
  subst x1 x2 x3
  refine ⟨A, c, by rw [List.length_take, Nat.min_eq_left hk], by rw [List.length_take]; omega, a2, a3, ?_⟩
  have : iv (l.take k) = (iv l).take k := by simp [iv]
  rw [this]
  exact Sl.take a4 k

set_option maxRecDepth 100000 in
set_option maxHeartbeats 4000000 in
theorem walk (w : World) (v : Value) (L : List Nat) (hLb : ∀ b ∈ L, b < 256) (hL : Bs w 0 w.heap.size v L) (u : Value) (zs : List Int) (hz : ∀ z ∈ zs, -9223372036854775808 ≤ z ∧ z ≤ 9223372036854775807) (hu : Ns w 0 w.heap.size u zs) (x : Int) (hx : (Lit.int .u32 x).wf = true) :
    Calls Try.prog 7 #[v, u, .int .u32 x] w fun e w' => e = .returned (.bool true) ∧ Below w.heap.size w w' := by
  obtain ⟨i0, hi0, ix0, ix1, ix2⟩ := info_parts t3info
  have HI := Lib.hid hi0
  have HL := Lib.hid hL
  have HLB := Lib.hid hLb
  have HZ := Lib.hid hz
  have HU := Lib.hid hu
  obtain ⟨s, rfl, hs⟩ := int_u32 hx
  have HS := Lib.hid hs
  obtain ⟨A, c, rfl, x1, x2, x3, x4⟩ := hL
  obtain ⟨A2, c2, rfl, y1, y2, y3, y4⟩ := hu
  have hlen : L.length ≤ 9223372036854775807 := by unfold maxLen at x2; omega
  have hlen2 : zs.length ≤ 9223372036854775807 := by unfold maxLen at y2; omega
  have hzc : (zs.length : Int) ≤ (c2 : Int) := by omega
  clear x1 x2 x3 x4 y1 y2 y3 y4 hLb hz hx hs hi0
  by_cases hbad : L.length = 0 ∨ 9000 < L.length ∨ zs.length = 0
  · by_cases g1 : L.length = 0
    · have hd1 : ((L.length : Int) == 0) = true := by rw [g1]; rfl
      have hd1b : (L.length == 0) = true := by simp [g1]
      clear g1
      clear hbad
      go_enter Try.func7, Try.ntmps7
      go_wp2_with fail
      refine (known_any w).mono ?_
      rintro e w1 ⟨rfl, hb⟩
      go_wp2_with fail
      go_ret
      exact ⟨rfl, hb⟩
    · have hd1 : ((L.length : Int) == 0) = false := by simp; intro h; exact g1 (by rw [h]; rfl)
      have hd1b : (L.length == 0) = false := by simpa using g1
      by_cases g2 : 9000 < L.length
      · have hd2 : decide ((9000 : Int) < (L.length : Int)) = true := decide_eq_true (by omega)
        have hd2b : decide (9000 < L.length) = true := by simp [g2]
        clear g1 g2
        clear hbad
        go_enter Try.func7, Try.ntmps7
        go_wp2_with fail
        refine (known_any w).mono ?_
        rintro e w1 ⟨rfl, hb⟩
        go_wp2_with fail
        go_ret
        exact ⟨rfl, hb⟩
      · have hd2 : decide ((9000 : Int) < (L.length : Int)) = false := by simp; omega
        have hd2b : decide (9000 < L.length) = false := by simp; omega
        have g3 : zs.length = 0 := by omega
        have hd3 : ((zs.length : Int) == 0) = true := by rw [g3]; rfl
        have hd3b : (zs.length == 0) = true := by rw [g3]; rfl
        clear g1 g2
        clear hbad
        go_enter Try.func7, Try.ntmps7
        go_wp2_with fail
        refine (known_any w).mono ?_
        rintro e w1 ⟨rfl, hb⟩
        go_wp2_with fail
        go_ret
        exact ⟨rfl, hb⟩
  · have h0 : 0 < L.length := by omega
    have h9 : L.length ≤ 9000 := by omega
    have hz0 : 0 < zs.length := by omega
    have hd1 : ((L.length : Int) == 0) = false := by rw [beq_eq_false_iff_ne]; omega
    have hd1b : (L.length == 0) = false := by rw [beq_eq_false_iff_ne]; omega
    have hd2 : decide ((9000 : Int) < (L.length : Int)) = false := by simp; omega
    have hd2b : decide (9000 < L.length) = false := by simp; omega
    have hd3 : ((zs.length : Int) == 0) = false := by rw [beq_eq_false_iff_ne]; omega
    have hd3b : (zs.length == 0) = false := by rw [beq_eq_false_iff_ne]; omega
    have HZT : Hid (∀ k, ∀ z ∈ zs.take k, -9223372036854775808 ≤ z ∧ z ≤ 9223372036854775807) := fun k z hz => HZ.out z (List.mem_of_mem_take hz)
    have H09 := Lib.hid (And.intro h0 h9)
    clear hbad
    go_enter Try.func7, Try.ntmps7
    go_wp2_with fail
    refine (known_any w).mono ?_
    rintro e w1 ⟨rfl, hb⟩
    have hz1 : w.heap.size ≤ w1.heap.size := hb.size
    have HB1 := Lib.hid hb
    clear hb
    have HC := Lib.hid (sum_one w1 _ L _ _ (HL.out.below HB1.out (Nat.le_refl _)) hz1 HLB.out (crc L) rfl w1.heap.size rfl)
    go_wp2_with fail
    refine Calls.mono HC.out ?_
    rintro e w2 ⟨rfl, hb⟩
    have hz2 : w.heap.size ≤ w2.heap.size := by have := hb.size; omega
    have HB2 := Lib.hid (HB1.out.trans (hb.mono hz1))
    clear hb HC
    go_upto_region 6 with (fail)
    go_cut [8] (fun v wx => Hid (Bs wx 0 wx.heap.size v (turn L (zs.take 3))) ∧ Hid (Below w.heap.size w wx))
    case first =>
      by_cases g3 : zs.length ≤ 3
      · have g3a : (zs.length : Int) ≤ 3 := by omega
        have HT : Hid (zs.take 3 = zs) := Lib.hid (List.take_of_length_le (by omega))
        have HC := Lib.hid (turned_any w2 _ _ _ L (HL.out.below HB2.out (Nat.le_refl _)) hz2 HLB.out h0 h9 _ _ _ zs (HU.out.below HB2.out (Nat.le_refl _)) hz2 HZ.out)
        clear g3
        go_wp2_with fail
        refine Calls.mono HC.out ?_
        rintro e w3 ⟨v3, rfl, hown, hb⟩
        have HB3 := Lib.hid (HB2.out.trans (hb.mono hz2))
        have HV3 := Lib.hid ((Bs.of_own hown).wide (Nat.zero_le _) (Nat.le_refl _))
        clear hb hown HC
        go_wp2_with fail
        go_meet
        case rel => exact ⟨by rw [HT.out]; exact HV3, HB3⟩
      · have g3b : (3 : Int) < (zs.length : Int) := by omega
        have g3c : (3 : Int) ≤ (c2 : Int) := by omega
        have HC := Lib.hid (turned_any w2 _ _ _ L (HL.out.below HB2.out (Nat.le_refl _)) hz2 HLB.out h0 h9 (.slice A2 3 c2) _ _ (zs.take 3) (Ns.head (HU.out.below HB2.out (Nat.le_refl _)) (by omega)) hz2 (HZT.out 3))
        clear g3
        go_wp2_with fail
        refine Calls.mono HC.out ?_
        rintro e w3 ⟨v3, rfl, hown, hb⟩
        have HB3 := Lib.hid (HB2.out.trans (hb.mono hz2))
        have HV3 := Lib.hid ((Bs.of_own hown).wide (Nat.zero_le _) (Nat.le_refl _))
        clear hb hown HC
        go_wp2_with fail
        go_meet
        case rel => exact ⟨HV3, HB3⟩
    case rest =>
      obtain ⟨HV3, HB3⟩ := hcut
      have hzc3 := HB3.out.size
      obtain ⟨A8, c8, hv8, _, _, _, _⟩ := HV3.out
      subst hv8
      rw [turn_length]
      have HV3' : Hid (Bs wc 0 wc.heap.size (.slice A8 L.length c8) (turn L (zs.take 3))) := by have := HV3.out; rw [turn_length] at this; exact this
      obtain ⟨A', c', he, _, _, _, h4⟩ := HU.out.below HB3.out (Nat.le_refl _)
      injection he with e1 e2 e3
      subst e1 e3
      obtain ⟨b, o, rfl, _, _, hcell⟩ := h4.at_ (i := 0) (by rw [iv_length]; exact hz0)
      have hcell2 : wc.cell? ⟨b, o, none⟩ = some (.int .i64 zs[0]) := by rw [Nat.add_zero] at hcell; rw [hcell]; simp [iv]
      obtain ⟨z, hzk⟩ : ∃ z, z = zs[0] := ⟨_, rfl⟩
      rw [← hzk] at hcell2
      have hzb : -9223372036854775808 ≤ z ∧ z ≤ 9223372036854775807 := by rw [hzk]; exact HZ.out _ (List.getElem_mem hz0)
      have hki : (0 : Int) < (zs.length : Int) := by omega
      obtain ⟨f, hf⟩ : ∃ f, f = place (8 * L.length) z := ⟨_, rfl⟩
      have hfl : f < 8 * L.length := by rw [hf]; exact place_lt (by omega) z
      have e8 : ((8 * L.length : Nat) : Int) = 8 * (L.length : Int) := by omega
      clear hcell h4 hzk e2 HV3
      go_upto_region 9 with (fail)
      go_upto_if 46 with (fail)
      go_cut [10] (fun v wx => v = .int .i64 (f : Int) ∧ wx = wc)
      case first =>
        by_cases hneg : z.tmod (8 * (L.length : Int)) < 0
        · have h1 := place_neg (m := 8 * L.length) (by omega) (z := z) (by rw [e8]; exact hneg)
          rw [e8, ← hf] at h1
          have hd : decide ((f : Int) - 8 * (L.length : Int) < 0) = true := by simp; omega
          have HE := Lib.hid h1
          have hsum : (f : Int) - 8 * (L.length : Int) + 8 * (L.length : Int) = (f : Int) := by omega
          have HS2 := Lib.hid hsum
          clear hf h1 hneg hsum e8
          rw [HE.out]
          go_wp2_with fail
          go_meet
          case rel => exact ⟨by first | rfl | rw [HS2.out], rfl⟩
        · have h1 := place_pos (m := 8 * L.length) (z := z) (by rw [e8]; exact hneg)
          rw [e8, ← hf] at h1
          have hd : decide ((f : Int) < 0) = false := by simp
          have HE := Lib.hid h1
          clear hf h1 hneg e8
          rw [HE.out]
          go_wp2_with fail
          go_meet
          case rel => exact ⟨rfl, rfl⟩
      case rest =>
        obtain ⟨rfl, rfl⟩ := hcut
        have hz0' := Lib.hid hz0
        have HFE := Lib.hid hf
        clear hf e8 hzb hcell2 hz0
        go_wp2_with fail
        go_loopw [9, 11] (fun r i wr => ∃ k : Nat, k ≤ 32 ∧ f + k ≤ 8 * L.length ∧ i = .int .i64 (k : Int) ∧ Hid (wr.ownsRow wc.heap.size 3 1 r (bl s f k).length (iv (bl s f k))) ∧ Hid (Below wc.heap.size wc wr)) (fun _ i _ => 32 - (intOf i).toNat)
        case atStart => exact ⟨0, by omega, by omega, rfl, World.ownsRow_nil _ _ _ _, Below.refl _ _⟩
        case round =>
          obtain ⟨k, hk, hfk, rfl, HO, HB⟩ := hrel
          have hzr := HB.out.size
          have HBL := Lib.hid (burst_len s f k)
          by_cases hlt : k < 32 ∧ f + k < 8 * L.length
          · obtain ⟨hlt1, hlt2⟩ := hlt
            have d1 : decide ((k : Int) < 32) = true := by simp; omega
            have d2 : decide ((f : Int) + (k : Int) < 8 * (L.length : Int)) = true := by simp; omega
            have b1 : (f : Int) + (k : Int) ≤ 72000 := by omega
            have hbit := tmod_bit s k
            rcases Nat.mod_two_eq_zero_or_one (s / 2 ^ k) with hm | hm
            · rw [hm] at hbit
              have hb0 : (((s : Int) / 2 ^ k).tmod 2 == 1) = false := hbit
              have HE : Hid (bl s f (k + 1) = bl s f k) := by unfold bl; simp only [burst]; rw [if_neg (by omega), List.append_nil]; rfl
              clear hm hbit
              go_wp2_with fail
              go_roundw
              case rel => exact ⟨k + 1, by omega, by omega, by go_num, by rw [HE.out]; exact HO, HB⟩
              case measure => simp [intOf]; omega
            · rw [hm] at hbit
              have hb0 : (((s : Int) / 2 ^ k).tmod 2 == 1) = true := hbit
              have HE : Hid (bl s f (k + 1) = bl s f k ++ [((f + k : Nat) : Int)]) := by unfold bl; simp only [burst]; rw [if_pos hm, List.map_append]; rfl
              have HSUM : Hid ((f : Int) + (k : Int) = ((f + k : Nat) : Int)) := Lib.hid (by omega)
              have HLL : Hid ((bl s f k).length ≤ 32) := by unfold bl; rw [List.length_map]; exact Nat.le_trans HBL.out hk
              clear hm hbit
              go_wp2_with (at_builtin; refine wpList_push rfl (.tmp 71) (.tmp 75) 36 rfl wc.heap.size 3 i0 (.int .i64 0) 8 Try.underlying36 HI.out ix0 ix1 ix2 rfl _ _ _ rfl HO.out _ rfl rfl (by have := HLL.out; unfold maxLen; omega) (by have := HLL.out; omega) hzr ?_)
              intro r3 w3 hown3 hb3
              have HO3 : Hid (w3.ownsRow wc.heap.size 3 1 r3 (bl s f (k + 1)).length (iv (bl s f (k + 1)))) := by
                rw [HE.out, List.length_append]
                have : iv (bl s f k ++ [((f + k : Nat) : Int)]) = iv (bl s f k) ++ [.int .i64 ((f : Int) + (k : Int))] := by simp [iv]
                rw [this]
                exact hown3
              have HB3' := Lib.hid (hb3 _ HB.out)
              clear hown3 hb3
              go_wp2_with fail
              go_roundw
              case rel => exact ⟨k + 1, by omega, by omega, by go_num, HO3, HB3'⟩
              case measure => simp [intOf]; omega
          · have hex : decide ((k : Int) < 32) = false ∨ (decide ((k : Int) < 32) = true ∧ decide ((f : Int) + (k : Int) < 8 * (L.length : Int)) = false) := by
              by_cases h : k < 32
              · exact .inr ⟨decide_eq_true (by omega), decide_eq_false (by omega)⟩
              · exact .inl (decide_eq_false (by omega))
            have HLL : Hid ((bl s f k).length ≤ 32) := by unfold bl; rw [List.length_map]; exact Nat.le_trans HBL.out hk
            have HNS := Lib.hid (Ns.of_own HO.out rfl)
            have b1 : (f : Int) + (k : Int) ≤ 72032 := by omega
            obtain ⟨X, hX⟩ : ∃ X, X = turn L (zs.take 3) := ⟨_, rfl⟩
            obtain ⟨Y, hY⟩ : ∃ Y, Y = turn L (bl s f k) := ⟨_, rfl⟩
            have HXL : Hid (X.length = L.length) := by rw [hX]; exact turn_length _ _
            have HYL : Hid (Y.length = L.length) := by rw [hY]; exact turn_length _ _
            have HXB : Hid (∀ b ∈ X, b < 256) := by rw [hX]; exact turn_bytes HLB.out H09.out.1 _
            have HYB : Hid (∀ b ∈ Y, b < 256) := by rw [hY]; exact turn_bytes HLB.out H09.out.1 _
            have few1 : crc X = crc L ↔ X = L := by
              rw [hX]
              refine few L _ H09.out.2 (fun p hp => ?_) (by rw [List.length_map, List.length_take]; omega)
              simp only [List.mem_map] at hp
              obtain ⟨z', _, rfl⟩ := hp
              exact place_lt (by have := H09.out.1; omega) z'
            have few2 : crc Y = crc L ↔ Y = L := by
              rw [hY, bl_turn L s f k hfk]
              exact bursts L s f k hk hfk
            obtain ⟨q1, hq1⟩ : ∃ q1, q1 = decide (X = L) := ⟨_, rfl⟩
            obtain ⟨q2, hq2⟩ : ∃ q2, q2 = decide (Y = L) := ⟨_, rfl⟩
            have E1 := same_eq HLB.out HXB.out few1
            have E2 := same_eq HLB.out HYB.out few2
            rw [← hq1] at E1
            rw [← hq2] at E2
            obtain ⟨E1a, E1b⟩ := E1
            obtain ⟨E2a, E2b⟩ := E2
            have HE1a := Lib.hid E1a
            have HE1b := Lib.hid E1b
            have HE2a := Lib.hid E2a
            have HE2b := Lib.hid E2b
            have hqq1 : (q1 == q1) = true := by simp
            have hqq2 : (q2 == q2) = true := by simp
            have HV3X : Hid (Bs wr 0 wc.heap.size (.slice A8 L.length c8) X) := by rw [hX]; exact HV3'.out.below HB.out (Nat.le_refl _)
            have HLR : Hid (Bs wr 0 w.heap.size (.slice A L.length c) L) := HL.out.below (HB3.out.trans (HB.out.mono hzc3)) (Nat.le_refl _)
            have HC := Lib.hid (turned_any wr _ _ _ L HLR.out (by omega) HLB.out H09.out.1 H09.out.2 _ _ _ (bl s f k) HNS.out (Nat.le_refl _) (fun z' hz' => by
              unfold bl at hz'
              simp only [List.mem_map] at hz'
              obtain ⟨p, hp, rfl⟩ := hz'
              have := burst_lt s f k p hp
              omega))
            rw [← hY] at HC
            obtain ⟨r, hr⟩ : ∃ r, r = crc L := ⟨_, rfl⟩
            rw [← hr] at HE1a HE2a
            rw [← hr]
            clear hX hY few1 few2 hq1 hq2 E1a E1b E2a E2b hlt hr HBL
            rcases hex with d1 | ⟨d1, d2⟩
            all_goals
              go_wp2_with fail
              refine Calls.mono HC.out ?_
              rintro e w5 ⟨v5, rfl, hown5, hb5⟩
              have hz5 := hb5.size
              obtain ⟨A12, c12, hv12, _, _, _, _⟩ := Bs.of_own hown5
              have HV5 := Lib.hid ((Bs.of_own hown5).wide (Nat.zero_le _) (Nat.le_refl _))
              subst hv12
              rw [HYL.out] at HV5 ⊢
              have HB5 := Lib.hid hb5
              have HXU : Hid (∀ u, Ext w5.drew u → Bs u 0 wc.heap.size (.slice A8 L.length c8) X) := fun u hu => HV3X.out.below (HB5.out.trans (((Ext.drew w5).trans hu).mono hz5)) hzr
              have HLU : Hid (∀ u, Ext w5.drew u → Bs u 0 w.heap.size (.slice A L.length c) L) := fun u hu => HLR.out.below (HB5.out.trans (((Ext.drew w5).trans hu).mono hz5)) (by omega)
              have HYU : Hid (∀ u, Ext w5.drew u → Bs u 0 w5.heap.size (.slice A12 L.length c12) Y) := fun u hu => HV5.out.below ((Ext.drew w5).trans hu) (Nat.le_refl _)
              have HUZ : Hid (∀ u, Ext w5.drew u → w5.heap.size ≤ u.heap.size) := fun u hu => by have := hu.size; simpa using this
              have HZZ := Lib.hid (And.intro hzc3 (And.intro hzr hz5))
              clear hown5 hb5 HC
              go_wp2_with fail
              refine flow (by kernel_rfl) [Is (.slice A8 L.length c8), Is (.int .u32 (r : Int)), Is (.bool q1), Is (.slice A8 L.length c8), Is (.string (tx X)), Is (.slice A L.length c), Is (.string (tx L)), Is (.bool q1), Is (.bool true), Is (.bool true), Is (.slice A12 L.length c12), Is (.int .u32 (r : Int)), Is (.bool q2), Is (.slice A12 L.length c12), Is (.string (tx Y)), Is (.slice A L.length c), Is (.string (tx L)), Is (.bool q2), Is (.bool true), Is (.bool true), Is (.bool true)] (by kernel_rfl) (by kernel_rfl) ?mono (fun f => ?obl) ?fin
              case mono =>
                simp only [List.forall_mem_cons, List.not_mem_nil, false_imp_iff, implies_true, and_true]
                exact ⟨.is _, .is _, .is _, .is _, .is _, .is _, .is _, .is _, .is _, .is _, .is _, .is _, .is _, .is _, .is _, .is _, .is _, .is _, .is _, .is _, .is _⟩
              case fin =>
                intro g u hu hg
                simp only [puts, Act.put, List.setIfInBounds_toArray, List.set_cons_zero, List.set_cons_succ]
                have h20 : g 20 = .bool true := hg 20 (by decide)
                rw [h20]
                go_wp2_with fail
                go_ret
                exact ⟨rfl, HB3.out.trans ((HB.out.trans ((HB5.out.trans (((Ext.drew w5).trans hu).mono HZZ.out.2.2)).mono hzr)).mono hzc3)⟩
              case obl =>
                refine ⟨fun u hu hd => ?_, ?_⟩
                · try simp only [Act.put, List.setIfInBounds_toArray, List.set_cons_zero, List.set_cons_succ]
                  go_simp
                  exact ⟨Ext.refl _, rfl⟩
                refine ⟨fun u hu hd => ?_, ?_⟩
                · simp only [Act.put, List.setIfInBounds_toArray, List.set_cons_zero, List.set_cons_succ]
                  go_simp
                  exact ⟨Ext.refl _, rfl⟩
                refine ⟨fun u hu hd => ?_, ?_⟩
                · simp only [Act.put, List.setIfInBounds_toArray, List.set_cons_zero, List.set_cons_succ]
                  have e0 : f 0 = (.slice A8 L.length c8) := hd 0 (by kernel_rfl)
                  have e1 : f 1 = (.int .u32 (r : Int)) := hd 1 (by kernel_rfl)
                  have HH := Lib.hid (holds_any _ _ _ X r u (HXU.out u hu) (by have := HUZ.out u hu; have := HZZ.out; omega) HXB.out)
                  rw [HE1a.out] at HH
                  go_simp
                  refine Calls.mono HH.out ?_
                  rintro e9 w9 ⟨rfl, hb9⟩
                  exact ⟨_, rfl, hb9, rfl⟩
                refine ⟨fun u hu hd => ?_, ?_⟩
                · simp only [Act.put, List.setIfInBounds_toArray, List.set_cons_zero, List.set_cons_succ]
                  go_simp
                  exact ⟨Ext.refl _, rfl⟩
                refine ⟨fun u hu hd => ?_, ?_⟩
                · simp only [Act.put, List.setIfInBounds_toArray, List.set_cons_zero, List.set_cons_succ]
                  have e3 : f 3 = (.slice A8 L.length c8) := hd 3 (by kernel_rfl)
                  have hcv := cv (HXU.out u hu)
                  go_simp
                  exact ⟨Ext.refl _, rfl⟩
                refine ⟨fun u hu hd => ?_, ?_⟩
                · simp only [Act.put, List.setIfInBounds_toArray, List.set_cons_zero, List.set_cons_succ]
                  go_simp
                  exact ⟨Ext.refl _, rfl⟩
                refine ⟨fun u hu hd => ?_, ?_⟩
                · simp only [Act.put, List.setIfInBounds_toArray, List.set_cons_zero, List.set_cons_succ]
                  have e5 : f 5 = (.slice A L.length c) := hd 5 (by kernel_rfl)
                  have hcv := cv (HLU.out u hu)
                  go_simp
                  exact ⟨Ext.refl _, rfl⟩
                refine ⟨fun u hu hd => ?_, ?_⟩
                · simp only [Act.put, List.setIfInBounds_toArray, List.set_cons_zero, List.set_cons_succ]
                  have e4 : f 4 = (.string (tx X)) := hd 4 (by kernel_rfl)
                  have e6 : f 6 = (.string (tx L)) := hd 6 (by kernel_rfl)
                  have hsb := HE1b.out
                  go_simp
                  exact ⟨Ext.refl _, rfl⟩
                refine ⟨fun u hu hd => ?_, ?_⟩
                · simp only [Act.put, List.setIfInBounds_toArray, List.set_cons_zero, List.set_cons_succ]
                  have e2 : f 2 = (.bool q1) := hd 2 (by kernel_rfl)
                  have e7 : f 7 = (.bool q1) := hd 7 (by kernel_rfl)
                  go_simp
                  exact ⟨Ext.refl _, rfl⟩
                refine ⟨fun u hu hd => ?_, ?_⟩
                · simp only [Act.put, List.setIfInBounds_toArray, List.set_cons_zero, List.set_cons_succ]
                  have e8 : f 8 = (.bool true) := hd 8 (by kernel_rfl)
                  go_simp
                  exact ⟨Ext.refl _, rfl⟩
                refine ⟨fun u hu hd => ?_, ?_⟩
                · simp only [Act.put, List.setIfInBounds_toArray, List.set_cons_zero, List.set_cons_succ]
                  have e9 : f 9 = (.bool true) := hd 9 (by kernel_rfl)
                  go_simp
                  exact ⟨Ext.refl _, rfl⟩
                refine ⟨fun u hu hd => ?_, ?_⟩
                · simp only [Act.put, List.setIfInBounds_toArray, List.set_cons_zero, List.set_cons_succ]
                  have e9 : f 9 = (.bool true) := hd 9 (by kernel_rfl)
                  go_simp
                  exact ⟨Ext.refl _, rfl⟩
                refine ⟨fun u hu hd => ?_, ?_⟩
                · simp only [Act.put, List.setIfInBounds_toArray, List.set_cons_zero, List.set_cons_succ]
                  have e9 : f 9 = (.bool true) := hd 9 (by kernel_rfl)
                  have e10 : f 10 = (.slice A12 L.length c12) := hd 10 (by kernel_rfl)
                  have e11 : f 11 = (.int .u32 (r : Int)) := hd 11 (by kernel_rfl)
                  have HH := Lib.hid (holds_any _ _ _ Y r u (HYU.out u hu) (by have := HUZ.out u hu; have := HZZ.out; omega) HYB.out)
                  rw [HE2a.out] at HH
                  go_simp
                  refine Calls.mono HH.out ?_
                  rintro e9 w9 ⟨rfl, hb9⟩
                  exact ⟨_, rfl, hb9, rfl⟩
                refine ⟨fun u hu hd => ?_, ?_⟩
                · simp only [Act.put, List.setIfInBounds_toArray, List.set_cons_zero, List.set_cons_succ]
                  have e9 : f 9 = (.bool true) := hd 9 (by kernel_rfl)
                  go_simp
                  exact ⟨Ext.refl _, rfl⟩
                refine ⟨fun u hu hd => ?_, ?_⟩
                · simp only [Act.put, List.setIfInBounds_toArray, List.set_cons_zero, List.set_cons_succ]
                  have e9 : f 9 = (.bool true) := hd 9 (by kernel_rfl)
                  have e13 : f 13 = (.slice A12 L.length c12) := hd 13 (by kernel_rfl)
                  have hcv := cv (HYU.out u hu)
                  go_simp
                  exact ⟨Ext.refl _, rfl⟩
                refine ⟨fun u hu hd => ?_, ?_⟩
                · simp only [Act.put, List.setIfInBounds_toArray, List.set_cons_zero, List.set_cons_succ]
                  have e9 : f 9 = (.bool true) := hd 9 (by kernel_rfl)
                  go_simp
                  exact ⟨Ext.refl _, rfl⟩
                refine ⟨fun u hu hd => ?_, ?_⟩
                · simp only [Act.put, List.setIfInBounds_toArray, List.set_cons_zero, List.set_cons_succ]
                  have e9 : f 9 = (.bool true) := hd 9 (by kernel_rfl)
                  have e15 : f 15 = (.slice A L.length c) := hd 15 (by kernel_rfl)
                  have hcv := cv (HLU.out u hu)
                  go_simp
                  exact ⟨Ext.refl _, rfl⟩
                refine ⟨fun u hu hd => ?_, ?_⟩
                · simp only [Act.put, List.setIfInBounds_toArray, List.set_cons_zero, List.set_cons_succ]
                  have e9 : f 9 = (.bool true) := hd 9 (by kernel_rfl)
                  have e14 : f 14 = (.string (tx Y)) := hd 14 (by kernel_rfl)
                  have e16 : f 16 = (.string (tx L)) := hd 16 (by kernel_rfl)
                  have hsb := HE2b.out
                  go_simp
                  exact ⟨Ext.refl _, rfl⟩
                refine ⟨fun u hu hd => ?_, ?_⟩
                · simp only [Act.put, List.setIfInBounds_toArray, List.set_cons_zero, List.set_cons_succ]
                  have e9 : f 9 = (.bool true) := hd 9 (by kernel_rfl)
                  have e12 : f 12 = (.bool q2) := hd 12 (by kernel_rfl)
                  have e17 : f 17 = (.bool q2) := hd 17 (by kernel_rfl)
                  go_simp
                  exact ⟨Ext.refl _, rfl⟩
                refine ⟨fun u hu hd => ?_, ?_⟩
                · simp only [Act.put, List.setIfInBounds_toArray, List.set_cons_zero, List.set_cons_succ]
                  have e9 : f 9 = (.bool true) := hd 9 (by kernel_rfl)
                  have e18 : f 18 = (.bool true) := hd 18 (by kernel_rfl)
                  go_simp
                  exact ⟨Ext.refl _, rfl⟩
                refine ⟨fun u hu hd => ?_, ?_⟩
                · simp only [Act.put, List.setIfInBounds_toArray, List.set_cons_zero, List.set_cons_succ]
                  have e19 : f 19 = (.bool true) := hd 19 (by kernel_rfl)
                  go_simp
                  exact ⟨Ext.refl _, rfl⟩
                trivial
end Go.Proofs.Ytppeomikmpahmaa.crcGuards
