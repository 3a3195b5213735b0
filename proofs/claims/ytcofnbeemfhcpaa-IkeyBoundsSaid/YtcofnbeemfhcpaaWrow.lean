/- Rows of bytes: slices.Clone, Grow and Concat at bytes, and wire's Join and Bytes, which go by them. -/
import Derived.Test.YtcofnbeemfhcpaaWnum
import Derived.Test.YtcofnbeemfhcpaaArgs
namespace Go.Proofs.Ytcofnbeemfhcpaa
open Go.ChangeShapes Go.WideShapes Go.ChangeAt Go.RowKit
theorem nilq (A : Option Addr) (n c : Nat) (w : World) : (binOp .eql 22 (.slice A n c) (.slice none 0 0)).run Try.prog w = .ok (.bool A.isNone) w := Lib.run_eql_slice_nil w _ _ A n c 0 0 Try.underlying22

theorem own_empty (w : World) (e : TypeId) : (w.alloc (.cells #[] e)).ownsRow w.heap.size e 1 (.slice (some ⟨w.heap.size, 0, none⟩) 0 0) 0 [] :=
  ⟨by simp, .inr ⟨w.heap.size, 0, _, rfl, Nat.le_refl _, heap_alloc_new w _, Nat.le_refl _, by simp [maxLen], by simp, by simp⟩⟩

set_option maxHeartbeats 400000 in
theorem clone_any (v : Value) (lo hi : Nat) (l : List Nat) (w : World) (h : Bs w lo hi v l) (hhi : hi ≤ w.heap.size) (hl : l.length ≤ 1099511627776) :
    Calls Try.prog 25 #[v] w (NewBy w l) := by
  obtain ⟨i0, hi0, hz0, hz1, hz2⟩ := info_parts t5info
  have HI := Lib.hid hi0
  clear hi0
  obtain ⟨A, c, rfl, h1, h2, hnil, hby⟩ := h
  rcases A with _ | a
  · obtain rfl := hnil rfl
    have hl0 : l = [] := by simpa using h1
    subst hl0
    have hq := nilq none 0 0
    clear h1 h2 hl
    go_enter Try.func25, Try.ntmps25
    go_wp2_with fail
    go_ret
    exact ⟨_, rfl, World.ownsRow_nil _ _ _ _, Below.refl _ _⟩
  · have hq := fun n => nilq (some a) n c
    have HL := Lib.hid hl
    clear h1 h2 hl hnil
    go_enter Try.func25, Try.ntmps25
    go_wp2_with (at_builtin; refine wpList_addall rfl (.tmp 5) (.tmp 6) 22 rfl w.heap.size 5 i0 (.int .u8 0) 1 Try.underlying22 HI.out hz0 hz1 hz2 rfl _ _ _ rfl (own_empty w _) lo hi (some a) l.length c (bv l) rfl ?c1 ?c2 ?c3 (bv_one l) ?c4 ?c5 ?c6 ?_)
    case c1 => intro h; cases h
    case c2 => exact bv_length l
    case c3 => exact Sl.alloc hby hhi _
    case c4 => have := HL.out; unfold maxLen; omega
    case c5 => have := HL.out; omega
    case c6 => simp
    intro v1 w1 hown1 hb1
    go_wp2
    go_ret
    exact ⟨v1, rfl, by simpa using hown1, hb1 _ ((Below.refl _ _).alloc (Nat.le_refl _) _)⟩

/-- An empty row of the call's own. -/
def Fresh (w : World) (e : Ending) (w' : World) : Prop := ∃ v, e = .returned v ∧ w'.ownsRow w.heap.size 5 1 v 0 [] ∧ Below w.heap.size w w'

set_option maxHeartbeats 400000 in
theorem grow_nil (n : Nat) (hn : n ≤ 1099511627776) (w : World) :
    Calls Try.prog 34 #[.slice none 0 0, .int .i64 n] w (Fresh w) := by
  obtain ⟨i0, hi0, hz0, hz1, hz2⟩ := info_parts t5info
  have HI := Lib.hid hi0
  clear hi0
  have hw : wrap64 ((n : Int) - 0) = (n : Int) := by unfold wrap64; omega
  have hd : decide ((n : Int) < 0) = false := by simp
  by_cases h0 : n = 0
  · subst h0
    clear hn hw
    go_enter Try.func34, Try.ntmps34
    go_wp2_with fail
    go_ret
    exact ⟨_, rfl, World.ownsRow_nil _ _ _ _, Below.refl _ _⟩
  · have hd2 : decide ((0 : Int) < (n : Int)) = true := by simp; omega
    have hd3 : decide (0 < n) = true := by simp; omega
    have hbig : Builtin.nextslicecap (0 + n) 0 * i0.bytes ≤ 281474976710656 := by
      have := growslice_fits (need := 0 + n) (old := 0) (bytes := i0.bytes) (by omega) (by rw [hz2]; omega)
      exact this
    have hG : n ≤ grownCap w (0 + n) 0 5 := by have := grownCap_ge w (0 + n) 0 5; omega
    have hG63 : grownCap w (0 + n) 0 5 ≤ maxLen := grownCap_le_maxLen w (0 + n) 0 5 (by unfold maxLen; omega)
    have hr := fun ty => Lib.run_append_grow_zeros (P := Try.prog) w 22 3 ty 5 i0 (.int .u8 0) .i64 .i64 Try.underlying22 Try.underlying3 HI.out hz0 none 0 0 [] (run_firstCells_none _ _ _ _ _) n (by omega) (by omega) (by omega) (by omega) (by rw [hz2]; omega) hbig
    obtain ⟨G, hGe⟩ : ∃ G, G = grownCap w (0 + n) 0 5 := ⟨_, rfl⟩
    rw [← hGe] at hr hG hG63
    have HR := Lib.hid hr
    have HG := Lib.hid hG63
    have hn' : (n : Int) ≤ 1099511627776 := by omega
    clear hr hbig hGe hn hw hG63
    go_enter Try.func34, Try.ntmps34
    go_wp2_with (at_builtin; refine Lib.wpList_append_run _ rfl (.tmp 20) (.tmp 21) _ _ rfl _ _ rfl rfl _ _ (HR.out _) ?_)
    go_ret
    have hG63 := HG.out
    refine ⟨_, rfl, ⟨by simp, .inr ⟨w.heap.size, G, Builtin.zeroCells #[Value.int IntKind.u8 0] n ++ Builtin.zeroCells #[Value.int IntKind.u8 0] (G - n), rfl, Nat.le_refl _, heap_alloc_new w _, Nat.zero_le _, hG63, ?_, by simp⟩⟩, ((Below.refl _ _).alloc (Nat.le_refl _) _).drew⟩
    rw [Array.size_append, size_zeroCells, size_zeroCells]; simp; omega

set_option maxHeartbeats 800000 in
theorem concat_any (A : Option Addr) (c lo hi : Nat) (vs : List Value) (ls : List (List Nat)) (w : World) (h : Rows2 w lo hi A vs ls) (hhi : hi ≤ w.heap.size) (hc : c ≤ maxLen) (hlc : ls.length ≤ c)
    (hl : ls.flatten.length ≤ 1099511627776) : Calls Try.prog 24 #[.slice A ls.length c] w (NewBy w ls.flatten) := by
  obtain ⟨i0, hi0, hz0, hz1, hz2⟩ := info_parts t5info
  have HI := Lib.hid hi0
  have HC := Lib.hid hc
  have HL := Lib.hid hl
  have HLC := Lib.hid hlc
  clear hi0 hc hl hlc
  go_enter Try.func24, Try.ntmps24
  go_wp2_with fail
  go_loop [3, 5, 11] (fun s _ i => ∃ k : Nat, k ≤ ls.length ∧ i = .int .i64 (k : Int) ∧ s = .int .i64 (tot ls k : Int)) (fun _ _ i => ls.length - (intOf i).toNat)
  case atStart => exact ⟨0, Nat.zero_le _, rfl, by rw [tot_zero]; rfl⟩
  case round =>
    obtain ⟨k, hk, rfl, rfl⟩ := hrel
    by_cases hlt : k < ls.length
    · obtain ⟨b, o, A', c', rfl, hcell, h1, h2, _, _⟩ := h.at_ hlt
      have HS := Lib.hid (tot_succ ls hlt)
      have hd : decide (k < ls.length) = true := by simp [hlt]
      have hb : (tot ls k : Int) + (ls[k].length : Int) ≤ 1099511627776 := by
        have e := HS.out
        have := HL.out
        have := tot_le ls (k + 1)
        omega
      have hb2 : (k : Int) + 1 ≤ 9223372036854775807 := by have := HC.out; have := HLC.out; unfold maxLen at *; omega
      have hd2 : decide ((tot ls k : Int) + (ls[k].length : Int) < 0) = false := by simp; omega
      clear h1 h2
      go_wp2_with fail
      go_round
      case rel => exact ⟨k + 1, by omega, by go_num, by rw [HS.out]; go_num⟩
      case measure => simp [intOf]; omega
    · obtain rfl : k = ls.length := by omega
      have hd : decide (ls.length < ls.length) = false := by simp
      have hb2 : tot ls ls.length ≤ 1099511627776 := by rw [tot_all]; exact HL.out
      have HB := Lib.hid hb2
      clear hb2 hlt hk
      go_wp2_with fail
      refine (grow_nil _ HB.out _).mono ?_
      rintro e w1 ⟨v1, rfl, hown1, hb1⟩
      have h0 := h
      have h := h.below hb1 hhi
      go_wp2_with fail
      go_loopw [6, 8, 27] (fun v _ i wr => ∃ k : Nat, k ≤ ls.length ∧ i = .int .i64 (k : Int) ∧ wr.ownsRow w.heap.size 5 1 v (tot ls k) (bv (ls.take k).flatten) ∧ Below w.heap.size w wr) (fun _ _ i _ => ls.length - (intOf i).toNat)
      case atStart => exact ⟨0, Nat.zero_le _, rfl, by rw [tot_zero]; simpa [bv] using hown1, hb1⟩
      case round =>
        obtain ⟨k, hk, rfl, hown, hb⟩ := hrel
        have hwr : Rows2 wr lo hi A vs ls := h0.below hb hhi
        have hsz := hb.size
        by_cases hlt : k < ls.length
        · obtain ⟨b, o, A', c', rfl, hcell, _, _, hnil, hby⟩ := hwr.at_ hlt
          have HS := Lib.hid (tot_succ ls hlt)
          have HF := Lib.hid (flat_take_succ ls hlt)
          have hd : decide (k < ls.length) = true := by simp [hlt]
          have hb2 : (k : Int) + 1 ≤ 9223372036854775807 := by have := HC.out; have := HLC.out; unfold maxLen at *; omega
          have HB2 := Lib.hid (show tot ls k + ls[k].length ≤ 1099511627776 by have := HL.out; have := tot_le ls (k + 1); rw [tot_succ ls hlt] at this; omega)
          go_wp2_with (at_builtin; refine wpList_addall rfl (.tmp 31) (.tmp 32) 22 rfl w.heap.size 5 i0 (.int .u8 0) 1 Try.underlying22 HI.out hz0 hz1 hz2 rfl _ _ _ rfl hown lo hi A' ls[k].length c' (bv ls[k]) rfl hnil ?c2 ?c3 (bv_one _) ?c4 ?c5 hsz ?_)
          case c2 => exact bv_length _
          case c3 => exact hby
          case c4 => have := HB2.out; unfold maxLen; omega
          case c5 => have := HB2.out; omega
          intro v2 w2 hown2 hb2'
          have hown3 : w2.ownsRow w.heap.size 5 1 v2 (tot ls (k + 1)) (bv (ls.take (k + 1)).flatten) := by rw [HS.out, HF.out, bv_append]; exact hown2
          have hb3 := hb2' _ hb
          clear hown2 hb2' hown
          go_wp2
          go_roundw
          case rel => exact ⟨k + 1, by omega, by go_num, hown3, hb3⟩
          case measure => simp [intOf]; omega
        · obtain rfl : k = ls.length := by omega
          have hd : decide (ls.length < ls.length) = false := by simp
          have hown3 : wr.ownsRow w.heap.size 5 1 u6 ls.flatten.length (bv ls.flatten) := by rw [tot_all, List.take_length] at hown; exact hown
          clear hown
          go_wp2_with fail
          go_ret
          exact ⟨u6, rfl, hown3, hb⟩

theorem join_any (A : Option Addr) (c lo hi : Nat) (vs : List Value) (ls : List (List Nat)) (w : World) (h : Rows2 w lo hi A vs ls) (hhi : hi ≤ w.heap.size) (hc : c ≤ maxLen) (hlc : ls.length ≤ c)
    (hl : ls.flatten.length ≤ 1099511627776) (n : Nat) (hn : n = ls.length) : Calls Try.prog 15 #[.slice A n c] w (NewBy w ls.flatten) := by
  subst hn
  have H := Lib.hid (concat_any A c lo hi vs ls w h hhi hc hlc hl)
  clear h hc hlc hl
  go_enter Try.func15, Try.ntmps15
  go_wp2_with fail
  refine Calls.mono H.out ?_
  rintro e w1 ⟨v, rfl, hown, hb⟩
  go_wp2
  go_ret
  exact ⟨v, rfl, hown, hb⟩

/-- What is owned from a later block on is owned from an earlier one on. -/
theorem own_lower {w : World} {B B' : Nat} {e : TypeId} {size n : Nat} {v : Value} {xs : List Value} (h : w.ownsRow B e size v n xs) (hB : B' ≤ B) : w.ownsRow B' e size v n xs := by
  refine ⟨h.1, ?_⟩
  rcases h.2 with h2 | ⟨g, cap, cur, hv, hg, r⟩
  · exact .inl h2
  · exact .inr ⟨g, cap, cur, hv, Nat.le_trans hB hg, r⟩

theorem rows2_two {w : World} {lo hi : Nat} {v1 v2 : Value} {l1 l2 : List Nat} {T : TypeId} (h1 : Bs w lo hi v1 l1) (h2 : Bs w lo hi v2 l2) (hhi : hi ≤ w.heap.size) :
    Rows2 (w.alloc (.cells #[v1, v2] T)) lo (w.heap.size + 1) (some ⟨w.heap.size, 0, none⟩) [v1, v2] [l1, l2] ∨ w.heap.size < lo := by
  rcases Nat.lt_or_ge w.heap.size lo with h | h
  · exact .inr h
  · refine .inl ⟨.inr ⟨w.heap.size, 0, rfl, h, by omega, fun i u hu => ?_⟩, rfl, fun i v l hv hl => ?_⟩
    · rw [World.cell?_alloc_at _ _ _ _ rfl, Nat.zero_add]
      match i, hu with
      | 0, hu => simpa using hu
      | 1, hu => simpa using hu
      | (i + 2), hu => simp at hu
    · match i, hv, hl with
      | 0, hv, hl => simp at hv hl; subst hv hl; exact (h1.alloc hhi _).wide (Nat.le_refl _) (by omega)
      | 1, hv, hl => simp at hv hl; subst hv hl; exact (h2.alloc hhi _).wide (Nat.le_refl _) (by omega)
      | (i + 2), hv, hl => simp at hv

/-- The form of bytes. -/
def bytesForm (l : List Nat) : List Nat := form l.length ++ l

set_option maxHeartbeats 400000 in
theorem bytes_any (v : Value) (lo hi : Nat) (l : List Nat) (w : World) (h : Bs w lo hi v l) (hhi : hi ≤ w.heap.size) (hl : l.length ≤ 1000000000000) :
    Calls Try.prog 16 #[v] w (NewBy w (bytesForm l)) := by
  have h64 : U64 l.length := ⟨by omega⟩
  have hf := form_len64 h64
  have HL := Lib.hid hl
  have H := Lib.hid h
  have hlI : ((l.length : Nat) : Int) ≤ 1000000000000 := by omega
  obtain ⟨A, c, rfl, h1, h2, hnil, hby⟩ := h
  clear hl h1 h2 hnil hby
  go_enter Try.func16, Try.ntmps16
  go_wp2_with fail
  refine (number_any _ h64 _).mono ?_
  rintro e w1 ⟨v1, rfl, hown, hb⟩
  have hz := hb.size
  have g1 : Bs w1 0 w1.heap.size v1 (form l.length) := (Bs.of_own hown).wide (Nat.zero_le _) (Nat.le_refl _)
  have g2 : Bs w1 0 w1.heap.size (.slice A l.length c) l := (H.out.below hb hhi).wide (Nat.zero_le _) (Nat.le_trans hhi hz)
  have G1 := g1
  obtain ⟨A1, c1, rfl, _, _, _, _⟩ := g1
  have HR := Lib.hid ((rows2_two (T := 22) G1 g2 (Nat.le_refl _)).resolve_right (by omega))
  clear hown G1 g2
  go_wp2_with fail
  refine (join_any _ 2 0 (w1.heap.size + 1) _ _ _ HR.out (by simp) (by simp [maxLen]) (by simp) ?c1 2 rfl).mono ?_
  case c1 => have := HL.out; simp; omega
  rintro e w2 ⟨v2, rfl, hown, hb2⟩
  go_wp2
  go_ret
  refine ⟨v2, rfl, ?_, ?_⟩
  · have e : [form l.length, l].flatten = bytesForm l := by simp [bytesForm]
    rw [e] at hown
    exact own_lower hown (by simp; omega)
  · exact (hb.alloc hz _).trans (hb2.mono (by simp; omega))
end Go.Proofs.Ytcofnbeemfhcpaa
