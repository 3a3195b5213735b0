/- turned: a text with some bits of it turned over. -/
import Derived.Test.YtppeomikmpahmaaCknown
import Derived.Test.YtppeomikmpahmaaCflow
import Derived.Deep.DeepCutAuto
namespace Go.Proofs.Ytppeomikmpahmaa
open Go.ChangeShapes Go.WideShapes Go.ChangeAt Go.RowKit

/-- Numbers as cells. -/
def iv (l : List Int) : List Value := l.map fun n : Int => Value.int .i64 n
theorem iv_length (l : List Int) : (iv l).length = l.length := by simp [iv]
/-- A slice of numbers that reads as l. -/
def Ns (w : World) (lo hi : Nat) (v : Value) (l : List Int) : Prop := ∃ A c, v = .slice A l.length c ∧ l.length ≤ c ∧ c ≤ maxLen ∧ (A = none → c = 0) ∧ Sl w lo hi A (iv l)
theorem Ns.below {w w' : World} {lo hi B : Nat} {v : Value} {l : List Int} (h : Ns w lo hi v l) (hb : Below B w w') (hB : hi ≤ B) : Ns w' lo hi v l := by
  obtain ⟨A, c, e, h1, h2, h3, h4⟩ := h
  exact ⟨A, c, e, h1, h2, h3, h4.below hb hB⟩

/-- The place that z means, of m. -/
def place (m : Nat) (z : Int) : Nat := (if z.tmod (m : Int) < 0 then z.tmod (m : Int) + (m : Int) else z.tmod (m : Int)).toNat
theorem place_lt {m : Nat} (hm : 0 < m) (z : Int) : place m z < m := by
  unfold place
  have h1 : z.tmod (m : Int) < (m : Int) := Int.tmod_lt_of_pos z (by omega)
  split <;> omega
theorem place_neg {m : Nat} (hm : 0 < m) {z : Int} (h : z.tmod (m : Int) < 0) : z.tmod (m : Int) = (place m z : Int) - (m : Int) := by
  unfold place
  have h1 : -(m : Int) < z.tmod (m : Int) := by
    have h3 : (-z).tmod (m : Int) < (m : Int) := Int.tmod_lt_of_pos (-z) (by omega)
    rw [Int.neg_tmod] at h3
    omega
  rw [if_pos h]; omega
theorem place_pos {m : Nat} {z : Int} (h : ¬ z.tmod (m : Int) < 0) : z.tmod (m : Int) = (place m z : Int) := by
  unfold place; rw [if_neg h]; omega
/-- The text with these bits turned over. -/
def turn (L : List Nat) (zs : List Int) : List Nat := (zs.map (place (8 * L.length))).foldl flip L
theorem flips_length (l : List Nat) (b : List Nat) : (l.foldl flip b).length = b.length := by
  induction l generalizing b with
  | nil => rfl
  | cons k l ih => rw [List.foldl_cons, ih, flip_length]
theorem flips_bytes (l : List Nat) (b : List Nat) (hb : ∀ c ∈ b, c < 256) (hl : ∀ k ∈ l, k < 8 * b.length) : ∀ c ∈ l.foldl flip b, c < 256 := by
  induction l generalizing b with
  | nil => exact hb
  | cons k l ih =>
    rw [List.foldl_cons]
    exact ih _ (flip_bytes hb (hl k (by simp))) (fun x hx => by rw [flip_length]; exact hl x (by simp [hx]))
theorem turn_length (L : List Nat) (zs : List Int) : (turn L zs).length = L.length := flips_length _ _
theorem turn_bytes {L : List Nat} (hL : ∀ c ∈ L, c < 256) (h0 : 0 < L.length) (zs : List Int) : ∀ c ∈ turn L zs, c < 256 :=
  flips_bytes _ _ hL fun k hk => by
    simp only [List.mem_map] at hk
    obtain ⟨z, _, rfl⟩ := hk
    exact place_lt (by omega) z
theorem turn_snoc (L : List Nat) (zs : List Int) {k : Nat} (h : k < zs.length) : turn L (zs.take (k + 1)) = flip (turn L (zs.take k)) (place (8 * L.length) zs[k]) := by
  unfold turn
  rw [List.take_succ_eq_append_getElem h, List.map_append, List.foldl_append]
  rfl
theorem shl8 (p : Nat) : (2 : Int) ^ (p % 8) % 256 = ((2 ^ (p % 8) : Nat) : Int) := by
  have h : 2 ^ (p % 8) < 256 := Nat.pow_lt_pow_right (a := 2) (m := p % 8) (n := 8) (by omega) (by omega)
  have e : ((2 ^ (p % 8) : Nat) : Int) = (2 : Int) ^ (p % 8) := by simp
  rw [← e]
  generalize 2 ^ (p % 8) = y at h
  omega

set_option maxRecDepth 100000 in
set_option maxHeartbeats 4000000 in
theorem turned_any (w : World) (v : Value) (lo hi : Nat) (L : List Nat) (hv : Bs w lo hi v L) (hhi : hi ≤ w.heap.size) (hLb : ∀ b ∈ L, b < 256) (h0 : 0 < L.length) (h9 : L.length ≤ 9000) (u : Value) (lo2 hi2 : Nat) (zs : List Int) (hu : Ns w lo2 hi2 u zs) (hhi2 : hi2 ≤ w.heap.size)
    (hz : ∀ z ∈ zs, -9223372036854775808 ≤ z ∧ z ≤ 9223372036854775807) :
    Calls Try.prog 18 #[v, u] w (NewBy w (turn L zs)) := by
  obtain ⟨i0, hi0, ix0, ix1, ix2⟩ := info_parts t5info
  have HI := Lib.hid hi0
  have HV := Lib.hid hv
  have HU := Lib.hid hu
  have HLB := Lib.hid hLb
  have HZ := Lib.hid hz
  obtain ⟨A, c, rfl, x1, x2, x3, x4⟩ := hv
  obtain ⟨A2, c2, rfl, y1, y2, y3, y4⟩ := hu
  have HA := Lib.hid x4
  have HN := Lib.hid x3
  have hzl : zs.length ≤ 9223372036854775807 := by unfold maxLen at y2; omega
  clear hi0 hLb hz x1 x2 x3 x4 y1 y2 y3 y4
  go_enter Try.func18, Try.ntmps18
  go_wp2_with (at_builtin; refine wpList_addall rfl (.const (.slice none 0 0)) (.tmp 8) 22 rfl w.heap.size 5 i0 (.int .u8 0) 1 Try.underlying22 HI.out ix0 ix1 ix2 rfl _ _ _ rfl (World.ownsRow_nil _ _ _ _) lo hi A L.length c (bv L) rfl HN.out (bv_length L) HA.out (bv_one L) (by unfold maxLen; omega) (by omega) (Nat.le_refl _) ?_)
  intro v1 w1 hown hb1
  have HB1 := Lib.hid (hb1 _ (Below.refl _ _))
  have HOWN : Hid (w1.ownsRow w.heap.size 5 1 v1 L.length (bv L)) := Lib.hid (by simpa using hown)
  obtain ⟨g, cap, rfl⟩ : ∃ g cap, v1 = .slice (some ⟨g, 0, none⟩) L.length cap := by
    rcases HOWN.out.2 with ⟨_, h⟩ | ⟨g, cap, _, h, _⟩
    · omega
    · exact ⟨g, cap, h⟩
  have HG := Lib.hid (HOWN.out.lt g rfl)
  clear hown hb1
  go_wp2_with fail
  go_loopw [6] (fun i wr => ∃ k : Nat, k ≤ zs.length ∧ i = .int .i64 (k : Int) ∧ Hid (wr.ownsRow w.heap.size 5 1 (.slice (some ⟨g, 0, none⟩) L.length cap) L.length (bv (turn L (zs.take k)))) ∧ Hid (Below w.heap.size w wr)) (fun i _ => zs.length - (intOf i).toNat)
  case atStart => exact ⟨0, Nat.zero_le _, rfl, HOWN, HB1⟩
  case round =>
    obtain ⟨k, hk, rfl, HO, HB⟩ := hrel
    by_cases hlt : k < zs.length
    · obtain ⟨A', c', he, _, _, _, h4⟩ := HU.out.below HB.out hhi2
      injection he with e1 e2 e3
      subst e1 e3
      obtain ⟨b, o, rfl, _, _, hcell⟩ := h4.at_ (i := k) (by rw [iv_length]; exact hlt)
      have hcell2 : wr.cell? ⟨b, o + k, none⟩ = some (.int .i64 zs[k]) := by rw [hcell]; simp [iv]
      obtain ⟨z, hzk⟩ : ∃ z, z = zs[k] := ⟨_, rfl⟩
      rw [← hzk] at hcell2
      have hzb : -9223372036854775808 ≤ z ∧ z ≤ 9223372036854775807 := by rw [hzk]; exact HZ.out _ (List.getElem_mem hlt)
      have HZK := Lib.hid hzk
      have hki : (k : Int) < (zs.length : Int) := by omega
      clear hcell h4 hzk e2
      obtain ⟨p, hp⟩ : ∃ p, p = place (8 * L.length) z := ⟨_, rfl⟩
      have hpl : p < 8 * L.length := by rw [hp]; exact place_lt (by omega) z
      have HPZ := Lib.hid hp
      have e8 : ((8 * L.length : Nat) : Int) = 8 * (L.length : Int) := by omega
      go_upto_region 6 with (fail)
      go_upto_if 25 with (fail)
      go_cut [7] (fun v wx => v = .int .i64 (p : Int) ∧ wx = wr)
      case first =>
        by_cases hneg : z.tmod (8 * (L.length : Int)) < 0
        · have h1 := place_neg (m := 8 * L.length) (by omega) (z := z) (by rw [e8]; exact hneg)
          rw [e8, ← hp] at h1
          have hd : decide ((p : Int) - 8 * (L.length : Int) < 0) = true := by simp; omega
          have HE := Lib.hid h1
          have hsum : (p : Int) - 8 * (L.length : Int) + 8 * (L.length : Int) = (p : Int) := by omega
          have HS := Lib.hid hsum
          clear hp h1 hneg hsum e8
          rw [HE.out]
          go_wp2_with fail
          go_meet
          case rel => exact ⟨by first | rfl | rw [HS.out], rfl⟩
        · have h1 := place_pos (m := 8 * L.length) (z := z) (by rw [e8]; exact hneg)
          rw [e8, ← hp] at h1
          have hd : decide ((p : Int) < 0) = false := by simp
          have HE := Lib.hid h1
          clear hp h1 hneg e8
          rw [HE.out]
          go_wp2_with fail
          go_meet
          case rel => exact ⟨rfl, rfl⟩
      case rest =>
        obtain ⟨rfl, rfl⟩ := hcut
        obtain ⟨x, hx⟩ : ∃ x, x = (turn L (zs.take k)).getD (p / 8) 0 := ⟨_, rfl⟩
        have hq : p / 8 < L.length := by omega
        have hgt := getD_at (b := turn L (zs.take k)) (i := p / 8) (by rw [turn_length]; exact hq)
        have hx256 : x < 256 := by rw [hx, hgt]; exact turn_bytes HLB.out h0 _ _ (List.getElem_mem _)
        have hc3 : wc.cell? ⟨g, p / 8, none⟩ = some (.int .u8 (x : Int)) := by
          rw [HO.out.cellAt (p / 8) (by omega), hx, hgt]
          simp [bv, List.getElem?_eq_getElem (show p / 8 < (turn L (zs.take k)).length by rw [turn_length]; exact hq)]
        have hf3 := HO.out.frozenAt (p / 8)
        have HX := Lib.hid hx
        have HXB := Lib.hid (u8_xor_nat x (2 ^ (p % 8)) hx256 (Nat.pow_lt_pow_right (a := 2) (m := p % 8) (n := 8) (by omega) (by omega)))
        have HSH := Lib.hid (shl8 p)
        clear hgt hx hp e8 hx256
        go_wp2_with fail
        rw [HSH.out, HXB.out]
        go_roundw
        case rel =>
          refine ⟨k + 1, by omega, by go_num, ?_, Lib.hid (HB.out.setCell HG.out.1 _)⟩
          have h1 := (HO.out.stored (p / 8) (.int .u8 ((x ^^^ 2 ^ (p % 8) : Nat) : Int))).1
          have e : (bv (turn L (zs.take k))).set (p / 8) (.int .u8 ((x ^^^ 2 ^ (p % 8) : Nat) : Int)) = bv (turn L (zs.take (k + 1))) := by
            rw [turn_snoc L zs hlt, ← HZK.out, ← HPZ.out]
            unfold flip
            rw [← HX.out]
            simp [bv, List.map_set]
          rw [e] at h1
          exact h1
        case measure => simp [intOf]; omega
    · go_wp2_with fail
      go_ret
      obtain rfl : k = zs.length := by omega
      refine ⟨_, rfl, ?_, HB.out⟩
      have := HO.out
      rw [List.take_length] at this
      rw [turn_length]; exact this
end Go.Proofs.Ytppeomikmpahmaa
