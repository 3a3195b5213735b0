/- wire.Put at uint64: the form of a list of numbers. -/
import Derived.Test.YtdggemdgndiafaaWtake
namespace Go.Proofs.Ytdggemdgndiafaa
open Go.ChangeShapes Go.WideShapes Go.ChangeAt Go.RowKit

/-- The forms of the first k numbers. -/
def fl (xs : List Nat) (k : Nat) : List Nat := ((xs.take k).map form).flatten
theorem fl_zero (xs : List Nat) : fl xs 0 = [] := by simp [fl]
theorem fl_succ (xs : List Nat) {k : Nat} (h : k < xs.length) : fl xs (k + 1) = fl xs k ++ form xs[k] := by
  have := flat_take_succ (xs.map form) (k := k) (by simpa using h)
  simpa [fl, List.map_take] using this
theorem fl_all (xs : List Nat) : fl xs xs.length = (xs.map form).flatten := by simp [fl]
theorem fl_len (xs : List Nat) (hU : ∀ x ∈ xs, U64 x) : ∀ k, k ≤ xs.length → (fl xs k).length ≤ 10 * k
  | 0, _ => by simp [fl]
  | k + 1, h => by
    have h1 := fl_len xs hU k (by omega)
    have h2 := form_len64 (hU xs[k] (List.getElem_mem (by omega)))
    rw [fl_succ xs (by omega)]
    simp
    omega

/-- What stands before the k-th number. -/
def pre (xs : List Nat) (k : Nat) : List Nat := form xs.length ++ fl xs k
theorem pre_zero (xs : List Nat) : pre xs 0 = form xs.length := by simp [pre, fl_zero]
theorem pre_succ (xs : List Nat) {k : Nat} (h : k < xs.length) : pre xs (k + 1) = pre xs k ++ form xs[k] := by
  simp [pre, fl_succ xs h]
theorem pre_all (xs : List Nat) : pre xs xs.length = listForm xs := by simp [pre, listForm, fl_all]
theorem pre_len (xs : List Nat) (hU : ∀ x ∈ xs, U64 x) (hl : xs.length ≤ 10000000000) {k : Nat} (h : k ≤ xs.length) : (pre xs k).length ≤ 200000000000 := by
  have h1 := fl_len xs hU k h
  have h2 := form_len64 (n := xs.length) ⟨by omega⟩
  simp [pre]
  omega

theorem fnil2 (w : World) : (binOp .eql 25 (.func (.func 12) #[] #[]) .nilFunc).run Try.prog w = .ok (.bool false) w := by kernel_rfl

/-- What Put answers. -/
def PutBy (w : World) (l : List Nat) (e : Ending) (w' : World) : Prop := ∃ v, e = .returned (.tuple #[v, .int .i64 0]) ∧ w'.ownsRow w.heap.size 5 1 v l.length (bv l) ∧ Below w.heap.size w w'

theorem own_below {w w' : World} {B : Nat} {e : TypeId} {v : Value} {n : Nat} {xs : List Value} (h : w.ownsRow B e 1 v n xs) (hb : Below w.heap.size w w') : w'.ownsRow B e 1 v n xs :=
  h.kept (row := none) ⟨hb.os, hb.tape, hb.output, hb.size, fun i hi _ => hb.block i hi⟩ (by cases v.ownBlock <;> simp)

theorem uv_at {w : World} {lo hi : Nat} {A : Option Addr} {xs : List Nat} (h : Sl w lo hi A (uv xs)) {k : Nat} (hk : k < xs.length) :
    ∃ b o, A = some ⟨b, o, none⟩ ∧ w.cell? ⟨b, o + k, none⟩ = some (.int .u64 (xs[k] : Int)) := by
  obtain ⟨b, o, e, _, _, hc⟩ := Sl.at_ h (i := k) (by simpa [uv] using hk)
  exact ⟨b, o, e, by rw [hc]; simp [uv]⟩

set_option maxHeartbeats 800000 in
theorem Put_any (A : Option Addr) (c lo hi : Nat) (xs : List Nat) (n : Nat) (hn : n = xs.length) (w : World) (h : Sl w lo hi A (uv xs)) (hhi : hi ≤ w.heap.size) (_hc : c ≤ maxLen) (_hlc : n ≤ c)
    (hU : ∀ x ∈ xs, U64 x) (hl : xs.length ≤ 10000000000) :
    Calls Try.prog 33 #[.slice A n c, .func (.func 12) #[] #[]] w (PutBy w (listForm xs)) := by
  subst hn
  obtain ⟨i0, hi0, hz0, hz1, hz2⟩ := info_parts t5info
  have HI := Lib.hid hi0
  have hfn := fnil2
  have h64 : U64 xs.length := ⟨by omega⟩
  have HP := Lib.hid (fun k h => pre_len xs hU hl (k := k) h)
  have HU := Lib.hid hU
  have hlI : (xs.length : Int) ≤ 10000000000 := by omega
  have hw1 : IntKind.u64.wrap (xs.length : Int) = (xs.length : Int) := by rw [IntKind.wrap_u64]; omega
  have HLL := Lib.hid hl
  clear hi0 hU hl _hc _hlc
  go_enter Try.func33, Try.ntmps33
  go_wp2_with fail
  refine (number_any _ h64 _).mono ?_
  rintro e w1 ⟨v1, rfl, hown1, hb1⟩
  go_wp2_with fail
  go_loopw [6, 8, 17] (fun v _ i wr => ∃ k : Nat, k ≤ xs.length ∧ i = .int .i64 (k : Int) ∧ wr.ownsRow w.heap.size 5 1 v (pre xs k).length (bv (pre xs k)) ∧ Below w.heap.size w wr) (fun _ _ i _ => xs.length - (intOf i).toNat)
  case atStart => exact ⟨0, Nat.zero_le _, rfl, by rw [pre_zero]; exact hown1, hb1⟩
  case round =>
    obtain ⟨k, hk, rfl, hown, hb⟩ := hrel
    have hwr : Sl wr lo hi A (uv xs) := h.below hb hhi
    have hsz := hb.size
    by_cases hlt : k < xs.length
    · obtain ⟨b, o, rfl, hcell⟩ := uv_at hwr hlt
      have hd : decide (k < xs.length) = true := by simp [hlt]
      have hd2 : decide ((k : Int) < (xs.length : Int)) = true := by simp; omega
      have hb2 : (k : Int) + 1 ≤ 9223372036854775807 := by omega
      have HX := Lib.hid (HU.out xs[k] (List.getElem_mem hlt))
      have HS := Lib.hid (pre_succ xs hlt)
      have HL2 := Lib.hid (HP.out (k + 1) hlt)
      go_wp2_with fail
      refine (number_any _ HX.out _).mono ?_
      rintro e w2 ⟨v2, rfl, hown2, hb2'⟩
      have hown' := own_below hown hb2'
      have hz2' := hb2'.size
      have HB2 := Lib.hid (hb.trans (hb2'.mono hsz))
      obtain ⟨A2, c2, rfl, _, _, hnil2, hby2⟩ := Bs.of_own hown2
      clear hown hown2 hb2'
      go_wp2_with (at_builtin; refine wpList_addall rfl (.tmp 21) (.tmp 24) 23 rfl w.heap.size 5 i0 (.int .u8 0) 1 Try.underlying23 HI.out hz0 hz1 hz2 rfl _ _ _ rfl hown' _ _ A2 (form xs[k]).length c2 (bv (form xs[k])) rfl hnil2 ?c2 hby2 (bv_one _) ?c4 ?c5 (Nat.le_trans hsz hz2') ?_)
      case c2 => exact bv_length _
      case c4 => have := HL2.out; rw [HS.out, List.length_append] at this; unfold maxLen; omega
      case c5 => have := HL2.out; rw [HS.out, List.length_append] at this; omega
      intro v3 w3 hown3 hb3
      have hown4 : w3.ownsRow w.heap.size 5 1 v3 (pre xs (k + 1)).length (bv (pre xs (k + 1))) := by rw [HS.out, bv_append, List.length_append]; exact hown3
      have hb4 := hb3 _ HB2.out
      clear hown3 hb3 hown'
      go_wp2
      go_roundw
      case rel => exact ⟨k + 1, by omega, by go_num, hown4, hb4⟩
      case measure => simp [intOf]; omega
    · obtain rfl : k = xs.length := by omega
      have hd : decide (xs.length < xs.length) = false := by simp
      have hd2 : decide ((xs.length : Int) < (xs.length : Int)) = false := by simp
      have hown3 : wr.ownsRow w.heap.size 5 1 u6 (listForm xs).length (bv (listForm xs)) := by rw [pre_all] at hown; exact hown
      clear hown
      go_wp2_with fail
      go_ret2
      exact ⟨u6, rfl, hown3, hb⟩
end Go.Proofs.Ytdggemdgndiafaa
