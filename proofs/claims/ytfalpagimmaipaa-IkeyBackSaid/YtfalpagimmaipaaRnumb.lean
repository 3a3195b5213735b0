/- The reference's reader: its numbers. -/
import Derived.Test.YtfalpagimmaipaaRread
namespace Go.Proofs.Ytfalpagimmaipaa
open Go.ChangeShapes Go.WideShapes Go.ChangeAt Go.RowKit

theorem QObj.c0 {w : World} {q : Nat} {v : Value} (h : QObj w q v) : w.cell? ⟨q, 0, none⟩ = some v := cell_of_row w q 0 _ _ (0, 0) h
theorem QObj.f0 {w : World} {q : Nat} {v : Value} (h : QObj w q v) : w.frozen? ⟨q, 0, none⟩ = false := by unfold QObj at h; simp [World.frozen?, h]

/-- What the reference's reader answers. -/
def QPost (zero : Value) (ok : Value → List Nat → World → Prop) (err : Int → Prop) (w : World) (q lo hi : Nat) (l : List Nat) (e : Ending) (w' : World) : Prop :=
  (∃ v rest, ok v rest w' ∧ e = .returned (.tuple #[v, .int .i64 0]) ∧ Qd w' q lo hi rest ∧ w.grownBy w' (some q)) ∨
  (∃ n, err n ∧ n ≠ 0 ∧ e = .returned (.tuple #[zero, .int .i64 n]) ∧ Qd w' q lo hi l ∧ w.grownBy w' (some q))

theorem qd_cut {w : World} {q lo hi c c2 : Nat} {l : List Nat} {A A2 : Option Addr} (k : Nat) (h : Qd w q lo hi l) (h1 : QObj w q (.slice A l.length c))
    (hc2 : l.length - k ≤ c2) (hcm : c2 ≤ maxLen) (hnil : A2 = none → c2 = 0) (hby : By w lo hi A2 (l.drop k)) :
    Qd (w.setCell ⟨q, 0, none⟩ (.slice A2 (l.length - k) c2)) q lo hi (l.drop k) := by
  have hl2 : (l.drop k).length = l.length - k := by simp
  have hap := h.apart
  have ht := h.top
  exact ⟨⟨_, h1.set _, A2, c2, by rw [hl2], by omega, hcm, hnil, Sl.setCell hby (by simpa using hap) _⟩, hap, by simpa [World.setCell] using ht, fun q hq => h.byt q (List.mem_of_mem_drop hq)⟩

/-- The digits from place j on. -/
def Vd (l : List Nat) (m j : Nat) : Nat := val ((l.take m).drop j)
theorem vd_step {l : List Nat} {m j : Nat} (hm : m ≤ l.length) (hj : j < m) : Vd l m j = l[j]'(by omega) % 128 + 128 * Vd l m (j + 1) := by
  unfold Vd
  have h1 : j < (l.take m).length := by simp; omega
  rw [List.drop_eq_getElem_cons h1, val]
  simp
theorem vd_le (l : List Nat) (m : Nat) : ∀ j, Vd l m j ≤ val (l.take m) := by
  intro j
  have h := val_append ((l.take m).take j) ((l.take m).drop j)
  rw [List.take_append_drop] at h
  unfold Vd
  have h2 : 0 < 128 ^ ((l.take m).take j).length := Nat.pow_pos (by omega)
  have := Nat.le_mul_of_pos_left (val ((l.take m).drop j)) h2
  omega
theorem vd_top (l : List Nat) (m : Nat) (hm : m ≤ l.length) : Vd l m m = 0 := by
  unfold Vd; rw [List.drop_of_length_le (by simp; omega)]; rfl
theorem vd_zero (l : List Nat) (m : Nat) : Vd l m 0 = val (l.take m) := by simp [Vd]
theorem vd_sum {a x s : Nat} (h : s = x % 128 + 128 * a) (h2 : s < 18446744073709551616) : a * 128 < 18446744073709551616 ∧ a * 128 + x % 128 = s := by omega

theorem wrap_step {a x s : Nat} (h : a * 128 < 18446744073709551616) (h2 : a * 128 + x % 128 = s) (hs : s < 18446744073709551616) :
    IntKind.u64.wrap (IntKind.u64.wrap ((a : Int) * 128) + (x : Int) % 128) = (s : Int) := by
  have e1 : ∀ n : Int, 0 ≤ n → n < 18446744073709551616 → IntKind.u64.wrap n = n := fun n h0 h1 => by
    simp only [IntKind.wrap_u64]; omega
  have h3 : (a : Int) * 128 < 18446744073709551616 := by omega
  rw [e1 _ (by omega) h3, e1 _ (by omega) (by omega)]
  omega

set_option maxHeartbeats 2000000 in
theorem RNumber_any (q lo hi : Nat) (l : List Nat) (w : World) (h : Qd w q lo hi l) :
    Calls Try.prog 57 #[.pointer (some ⟨q, 0, none⟩)] w (QPost (.int .u64 0) (OkNum l) (ErrNum l) w q lo hi l) := by
  obtain ⟨v, h1, hv⟩ := h.ex
  have HC := Lib.hid (rwhole_any v lo hi l w hv h.byt)
  obtain ⟨A, c, rfl, hlc, hcm, hnil, hby⟩ := hv
  have c0 := h1.c0
  have f0 := h1.f0
  have H1 := Lib.hid h1
  have HR := Lib.hid h
  have HBY := Lib.hid hby
  have HLC := Lib.hid hlc
  have HCM := Lib.hid hcm
  have HNL := Lib.hid hnil
  clear h h1 hby hlc hcm hnil
  go_enter Try.func57, Try.ntmps57
  go_wp2_with fail
  refine Calls.mono HC.out ?_
  rintro e w1 ⟨m, rfl, rfl, ⟨rfl, hno⟩ | ⟨i, hil, rfl, hi9, hi128, hb⟩⟩
  · have HF : Hid (QPost (.int .u64 0) (OkNum l) (ErrNum l) w q lo hi l (.returned (.tuple #[.int .u64 0, .int .i64 4])) w) := .inr ⟨4, ⟨rfl, hno⟩, by decide, rfl, HR.out, World.grownBy.refl w _⟩
    clear hno
    go_wp2_with fail
    go_ret2
    exact HF.out
  · obtain ⟨m, hm⟩ : ∃ m, m = i + 1 := ⟨_, rfl⟩
    rw [← hm]
    have hml : m ≤ l.length := by omega
    have hval : val (l.take m) = val (l.take i) + 128 ^ i * l[i] := by rw [hm, val_succ hil, Nat.mod_eq_of_lt hi128]
    rw [← hval, ← hm] at hb
    have d0 : ((m : Int) == 0) = false := by rw [beq_eq_false_iff_ne]; omega
    have d0n : (m == 0) = false := by rw [beq_eq_false_iff_ne]; omega
    have HB := Lib.hid hb
    have HM := Lib.hid hm
    have HML := Lib.hid hml
    have hi9' : i ≤ 9 := hi9
    have hm10 : m ≤ 10 := by omega
    clear hb hval hi128 hm
    go_wp2_with fail
    go_loop [5, 6] (fun n i => (∃ k a : Nat, k < m ∧ i = .int .i64 (k : Int) ∧ n = .int .u64 (a : Int) ∧ Hid (a = Vd l m (k + 1))) ∨ (∃ a : Nat, i = .int .i64 (-1) ∧ n = .int .u64 (a : Int) ∧ Hid (a = Vd l m 0))) (fun _ i => (intOf i + 1).toNat)
    case atStart => exact .inl ⟨i, 0, by have := HM.out; omega, by have := HM.out; congr 1; omega, rfl, Lib.hid (by rw [← HM.out, vd_top _ _ hml])⟩
    case round =>
      rcases hrel with ⟨k, a, hk, rfl, rfl, HV⟩ | ⟨a, rfl, rfl, HV⟩
      · have hkl : k < l.length := by omega
        obtain ⟨b, o, rfl, _, _, hcell⟩ := HBY.out.at_ hkl
        obtain ⟨x, hx⟩ : ∃ x, x = l[k] := ⟨_, rfl⟩
        rw [← hx] at hcell
        obtain ⟨s, hs⟩ : ∃ s, s = Vd l m k := ⟨_, rfl⟩
        have hstep := vd_step hml hk
        have hs64 : s < 18446744073709551616 := by rw [hs]; exact Nat.lt_of_le_of_lt (vd_le l m k) HB.out.n64.lt
        rw [← hs, ← hx, ← HV.out] at hstep
        obtain ⟨y1, y2⟩ := vd_sum hstep hs64
        have HS := Lib.hid hs
        have HY1 := Lib.hid y1
        have HY2 := Lib.hid y2
        have HW := Lib.hid (wrap_step y1 y2 hs64)
        clear hs hx hstep y1 y2 HV hs64
        go_wp2_with fail
        go_round
        case rel =>
          rw [HW.out]
          rcases Nat.eq_zero_or_pos k with h0 | h0
          · exact .inr ⟨s, by congr 1; omega, rfl, Lib.hid (by rw [HS.out, h0])⟩
          · exact .inl ⟨k - 1, s, by omega, by congr 1; omega, rfl, Lib.hid (by rw [HS.out]; congr 1; omega)⟩
        case measure => simp only [intOf]; omega
      · have hml2 := hml
        obtain ⟨A2, hA2, hA2n, hrun⟩ := tail_run A l.length c m hml HLC.out
        have hlc2 := HLC.out
        have hcm2 := HCM.out
        have hrd := qd_cut (c2 := c - m) m HR.out H1.out (by omega) (by omega) (fun hn => by have := HNL.out (hA2n hn); omega) (hA2 l rfl _ _ _ HBY.out)
        have hav : a = val (l.take m) := by rw [HV.out, vd_zero]
        have HF : Hid (QPost (.int .u64 0) (OkNum l) (ErrNum l) w q lo hi l (.returned (.tuple #[.int .u64 (a : Int), .int .i64 0])) (w.setCell ⟨q, 0, none⟩ (.slice A2 (l.length - m) (c - m)))) :=
          .inl ⟨_, l.drop m, ⟨a, by rw [hav]; exact HB.out, rfl⟩, rfl, hrd, grownBy_set _ _ _ _⟩
        clear hrd hA2 hA2n hlc2 hcm2 hav HV hml2
        go_wp2_with fail
        go_ret2
        exact HF.out

theorem half_even {n : Nat} (h : n < 18446744073709551616) : ((n : Int) / 2) < 9223372036854775808 := by omega
theorem zz_half (n : Nat) : (n % 2 = 0 → zz ((n : Int) / 2) = n) ∧ (n % 2 = 1 → zz (-1 - (n : Int) / 2) = n) := by
  constructor
  · intro h; unfold zz; rw [if_pos (by omega)]; omega
  · intro h; unfold zz; rw [if_neg (by omega)]; omega

theorem RLeft_any (q lo hi : Nat) (l : List Nat) (w : World) (h : Qd w q lo hi l) :
    Calls Try.prog 58 #[.pointer (some ⟨q, 0, none⟩)] w fun e w' => e = .returned (.int .i64 (l.length : Int)) ∧ w = w' := by
  obtain ⟨v, h1, A, c, rfl, hlc, hcm, hnil, hby⟩ := h.ex
  have c0 := h1.c0
  have f0 := h1.f0
  clear h h1 hlc hcm hnil hby
  go_enter Try.func58, Try.ntmps58
  go_wp2_with fail
  go_ret
  exact ⟨rfl, rfl⟩

/-- Why the reference counts none. -/
def RErrCount (most : Int) (l : List Nat) (n : Int) : Prop := (n = 4 ∧ NoNum l) ∨ (n = 3 ∧ ∃ m rest, Begins l m rest ∧ most < (m : Int))

set_option maxHeartbeats 1000000 in
theorem Rmany_any (most : Int) (hm1 : 0 ≤ most) (hm2 : most ≤ 9223372036854775807) (q lo hi : Nat) (l : List Nat) (w : World) (h : Qd w q lo hi l) :
    Calls Try.prog 80 #[.pointer (some ⟨q, 0, none⟩), .int .i64 most] w fun e w' => w.grownBy w' (some q) ∧ ((∃ (n : Nat) (rest : List Nat), Begins l n rest ∧ (n : Int) ≤ most ∧ e = .returned (.tuple #[.int .u64 (n : Int), .int .i64 0]) ∧ Qd w' q lo hi rest) ∨
      (∃ n rest, RErrCount most l n ∧ n ≠ 0 ∧ e = .returned (.tuple #[.int .u64 0, .int .i64 n]) ∧ rest.length ≤ l.length ∧ Qd w' q lo hi rest)) := by
  obtain ⟨m, rfl⟩ : ∃ m : Nat, most = m := ⟨most.toNat, by omega⟩
  have hm64 : IntKind.u64.wrap (m : Int) = (m : Int) := by rw [IntKind.wrap_u64]; omega
  have HC := Lib.hid (RNumber_any q lo hi l w h)
  clear h hm1
  go_enter Try.func80, Try.ntmps80
  go_wp2_with fail
  refine Calls.mono HC.out ?_
  rintro e w1 (⟨v, rest, ⟨n, hb, rfl⟩, rfl, hr, hg⟩ | ⟨k, ⟨rfl, hno⟩, _, rfl, hr, hg⟩)
  · have HR := Lib.hid hr
    have HG := Lib.hid hg
    have HB := Lib.hid hb
    clear hr hg hb
    by_cases hle : m < n
    · have d : decide ((m : Int) < (n : Int)) = true := decide_eq_true (by omega)
      have dn : decide (m < n) = true := decide_eq_true hle
      have HLE := Lib.hid hle
      clear hle
      go_wp2_with fail
      go_ret2
      exact ⟨HG.out, .inr ⟨3, rest, .inr ⟨rfl, n, rest, HB.out, by have := HLE.out; omega⟩, by decide, rfl, by have := congrArg List.length HB.out.eq; simp at this; omega, HR.out⟩⟩
    · have d : decide ((m : Int) < (n : Int)) = false := decide_eq_false (by omega)
      have dn : decide (m < n) = false := decide_eq_false hle
      have HLE := Lib.hid hle
      clear hle
      go_wp2_with fail
      go_ret2
      exact ⟨HG.out, .inl ⟨n, rest, HB.out, by have := HLE.out; omega, rfl, HR.out⟩⟩
  · have HR := Lib.hid hr
    have HG := Lib.hid hg
    have HN := Lib.hid hno
    clear hr hg hno
    go_wp2_with fail
    go_ret2
    exact ⟨HG.out, .inr ⟨4, l, .inl ⟨rfl, HN.out⟩, by decide, rfl, Nat.le_refl _, HR.out⟩⟩
end Go.Proofs.Ytfalpagimmaipaa
