import Derived.Test.YtkdidghfcfcpfaaGreatMb1
import Derived.Test.YtkdidghfcfcpfaaGreatMb2
import Derived.Deep.DeepCutAuto
import Derived.Deep.QuietTactic
import Derived.BigQuiet
import Derived.Laws.ResultCell
import Derived.Laws.Rows
import Derived.Lib.ConvBytes
import Derived.Laws.AppendOwn
import Derived.LoopTactic
import Derived.Laws.OwnMore
import Derived.OrdersIn
import Derived.Laws.EntriesVeiled
import Derived.Deep.Slices
import Derived.Test.YtkdidghfcfcpfaaGreatMb0
namespace Go.Proofs.YtkdidghfcfcpfaaGreat
open Go.ChangeShapes Go.WideShapes Go.ChangeAt Go.RowKit
theorem wq {m : Nat} (h : U64 m) : IntKind.u64.wrap ((m : Int) / 128) = (m : Int) / 128 := by have := h.lt; rw [IntKind.wrap_u64]; omega
theorem wr128 (m : Nat) : IntKind.u64.wrap ((m : Int) % 128) = (m : Int) % 128 := by rw [IntKind.wrap_u64]; omega
theorem form_pos (n : Nat) : 0 < (form n).length := by
 by_cases h : n < 128
 · rw [form_lo h]; simp
 · rw [form_hi h]; simp
set_option maxHeartbeats 400000 in
theorem digits_any (n : Nat) (h1 : U64 n) (w : World) : Calls Tryz.prog 97 #[.int .u64 n] w fun e w' => e = .returned (.int .i64 ((form n).length : Int)) ∧ w = w' := by
 have h10 := form_len64 h1
 obtain ⟨F, hF⟩ : ∃ F, F = (form n).length := ⟨_, rfl⟩
 rw [← hF] at h10 ⊢
 have HF := zHd hF
 clear hF
 go_enter Tryz.func97, Tryz.ntmps97
 go_wp2_with fail
 go_loop [0, 3] (fun x c => ∃ (m k : Nat), U64 m ∧ x = .int .u64 (m : Int) ∧ c = .int .i64 (k : Int) ∧ k + (form m).length = F + 1) (fun x _ => (intOf x).toNat)
 case atStart => exact ⟨n, 1, h1, rfl, rfl, by rw [HF.out]; omega⟩
 case round =>
  obtain ⟨m, k, hm64, rfl, rfl, hk⟩ := hrel
  have hq := wq hm64
  have hp := form_pos m
  have HK := zHd hk
  have hk10 : (k : Int) ≤ 10 := by omega
  clear hk
  by_cases hlt : m < 128
  · have hd : decide ((0 : Int) < (m : Int) / 128) = false := by simp; omega
    have hd2 : decide (0 < m / 128) = false := by simp; omega
    have hfin : (k : Int) = (F : Int) := by have := HK.out; rw [form_lo hlt] at this; simp at this; omega
    have HN := zHd hfin
    clear hfin hp hlt
    go_wp2_with fail
    go_ret
    exact ⟨by rw [HN.out]; rfl, rfl⟩
  · have hd : decide ((0 : Int) < (m : Int) / 128) = true := by simp; omega
    have hd2 : decide (0 < m / 128) = true := by simp; omega
    have hrel : k + 1 + (form (m / 128)).length = F + 1 := by have := HK.out; rw [form_hi hlt] at this; simp at this; omega
    have HN := zHd hrel
    clear hrel hp
    go_wp2_with fail
    go_round
    case rel => exact ⟨m / 128, k + 1, hm64.div _, by go_num, by go_num, HN.out⟩
    case measure => simp [intOf]; omega
theorem drop_form (n : Nat) : ∀ (k m : Nat), k < (form n).length → (form n).drop k = form m → (form n)[k]? = some (if m < 128 then m else m % 128 + 128) ∧ (¬ m < 128 → (form n).drop (k + 1) = form (m / 128)) ∧ (m < 128 ↔ k + 1 = (form n).length) := by
 intro k m hk h
 have h0 : ((form n).drop k)[0]? = (form n)[k]? := by rw [List.getElem?_drop]; simp
 have hl : ((form n).drop k).length = (form n).length - k := by simp
 have hd : (form n).drop (k + 1) = ((form n).drop k).drop 1 := by rw [List.drop_drop]
 by_cases hm : m < 128
 · rw [h, form_lo hm] at h0 hl
   refine ⟨by rw [← h0, if_pos hm]; rfl, fun h => absurd hm h, fun _ => ?_, fun _ => hm⟩
   simp at hl; omega
 · have hp := form_pos (m / 128)
   rw [h, form_hi hm] at h0 hl hd
   refine ⟨by rw [← h0, if_neg hm]; rfl, fun _ => by rw [hd]; rfl, fun h => absurd h hm, fun h => ?_⟩
   simp at hl; omega
theorem take_set {xs : List Value} {L : List Nat} {k u : Nat} (hk : k < L.length) (hx : k < xs.length) (ht : xs.take k = bv (L.take k)) (hg : L[k]? = some u) {v : Value} (hv : v = .int .u8 (u : Int) := by rfl) :
    (xs.set k v).take (k + 1) = bv (L.take (k + 1)) := by
 subst hv
 rw [List.getElem?_eq_getElem hk] at hg
 injection hg with hg
 rw [List.take_succ_eq_append_getElem (by simpa using hx), List.take_succ_eq_append_getElem hk, bv_append, ← ht, hg, List.take_set, List.set_eq_of_length_le (by simp; omega)]
 simp [bv]
set_option maxHeartbeats 1000000 in
theorem rnumber_any (n : Nat) (h1 : U64 n) (w : World) : Calls Tryz.prog 62 #[.int .u64 n] w (NewBy w (form n)) := by
 obtain ⟨i0, hi0, hz0, hz1, hz2⟩ := info_parts t5info
 have h10 := form_len64 h1
 have HD := zHd (digits_any n h1 w)
 have HDF := zHd (drop_form n)
 have hstart : (form n).drop 0 = form n := by simp
 obtain ⟨w1, hrun, hown, hg⟩ := run_make_full (P := Tryz.prog) w w.heap.size 22 5 i0 (.int .u8 0) 1 Tryz.underlying22 hi0 hz0 hz1 .i64 .i64 (form n).length (by rw [hz2]; omega) (by unfold maxLen; omega) (zNr _)
 have hb1 : Below w.heap.size w w1 := (Below.refl _ _).grown hg (zNr _) (by intro k hk; cases hk)
 obtain ⟨L, hL⟩ : ∃ L, L = form n := ⟨_, rfl⟩
 rw [← hL] at HD HDF hrun hown h10 hstart ⊢
 have HS := zHd (show L.drop 0 = form n by rw [hL]; simp)
 have hx0 : ∃ xs : List Value, w1.ownsRow w.heap.size 5 1 (.slice (some ⟨w.heap.size, 0, none⟩) L.length L.length) L.length xs ∧ xs.take 0 = bv (L.take 0) := ⟨_, hown, by simp [bv]⟩
 have HX := zHd hx0
 have HB1 := zHd hb1
 have H1 := zHd h1
 have h10I : (L.length : Int) ≤ 10 := by omega
 clear hL hown hg hx0 hb1 hi0 hz0 hz1 hz2 hstart h10
 go_enter Tryz.func62, Tryz.ntmps62
 go_wp2_with fail
 refine Calls.mono HD.out ?_
 rintro e w2 ⟨rfl, rfl⟩
 go_wp2_with fail
 go_loopw [0, 4] (fun x i wr => ∃ (m k : Nat) (xs : List Value), U64 m ∧ k ≤ L.length ∧ x = .int .u64 (m : Int) ∧ i = .int .i64 (k : Int) ∧ (k < L.length → L.drop k = form m) ∧ wr.ownsRow w.heap.size 5 1 (.slice (some ⟨w.heap.size, 0, none⟩) L.length L.length) L.length xs ∧ xs.take k = bv (L.take k) ∧ Below w.heap.size w wr) (fun _ i _ => L.length - (intOf i).toNat)
 case atStart =>
  obtain ⟨xs, h1, h2⟩ := HX.out
  exact ⟨n, 0, xs, H1.out, Nat.zero_le _, rfl, rfl, fun _ => HS.out, h1, h2, HB1.out⟩
 case round =>
  obtain ⟨m, k, xs, hm64, hk, rfl, rfl, hdr, hown, htk, hb⟩ := hrel
  have hq := wq hm64
  by_cases hlt : k < L.length
  · obtain ⟨hget, hnext, hlast⟩ := HDF.out k m hlt (hdr hlt)
    have hd : decide (k < L.length) = true := by simp [hlt]
    have hxl : xs.length = L.length := by have := hown.1; omega
    have hk1 : k < xs.length := by omega
    have hcell : wr.cell? ⟨w.heap.size, k, none⟩ = some xs[k] := by rw [hown.cellAt k (by omega), List.getElem?_eq_getElem hk1]
    have hfz := hown.frozenAt k
    have hm3 := wr128 m
    generalize xs[k] = x0 at hcell
    have HO := zHd hown
    have HT := zHd htk
    have HB := zHd hb
    have HG := zHd hget
    have HN := zHd hnext
    clear hown htk hb hget hnext hdr
    by_cases hm : m < 128
    · have hkl := hlast.1 hm
      have HKL := zHd hkl
      have hd2 : decide ((k : Int) < (L.length : Int) - 1) = false := by simp; omega
      clear hlast hkl
      have hst := (HO.out.stored k (.int .u8 ((m : Int) % 128))).1
      have hrel : (wr.setCell ⟨w.heap.size, k, none⟩ (.int .u8 ((m : Int) % 128))).ownsRow w.heap.size 5 1 (.slice (some ⟨w.heap.size, 0, none⟩) L.length L.length) L.length (xs.set k (.int .u8 ((m : Int) % 128))) ∧ (xs.set k (.int .u8 ((m : Int) % 128))).take (k + 1) = bv (L.take (k + 1)) ∧ Below w.heap.size w (wr.setCell ⟨w.heap.size, k, none⟩ (.int .u8 ((m : Int) % 128))) := by
       refine ⟨hst, ?_, HB.out.setCell (zNr _) _⟩
       have hg := HG.out
       rw [if_pos hm] at hg
       exact take_set hlt hk1 HT.out hg (by rw [show (m : Int) % 128 = (m : Int) by omega])
      have HR := zHd hrel
      clear hst hrel
      go_wp2_with fail
      refine ⟨⟨m / 128, k + 1, _, hm64.div _, by omega, by go_num, by go_num, fun h => by have := HKL.out; omega, HR.out⟩, by simp [intOf]; omega⟩
    · have hkl : k + 1 < L.length := by
        rcases Nat.lt_or_ge (k + 1) L.length with h | h
        · exact h
        · exact absurd (hlast.2 (by omega)) hm
      have hd2 : decide ((k : Int) < (L.length : Int) - 1) = true := by simp; omega
      have hst := (((HO.out.stored k (.int .u8 ((m : Int) % 128))).1).stored k (.int .u8 ((m : Int) % 128 + 128))).1
      have hrel : ((wr.setCell ⟨w.heap.size, k, none⟩ (.int .u8 ((m : Int) % 128))).setCell ⟨w.heap.size, k, none⟩ (.int .u8 ((m : Int) % 128 + 128))).ownsRow w.heap.size 5 1 (.slice (some ⟨w.heap.size, 0, none⟩) L.length L.length) L.length (xs.set k (.int .u8 ((m : Int) % 128 + 128))) ∧ (xs.set k (.int .u8 ((m : Int) % 128 + 128))).take (k + 1) = bv (L.take (k + 1)) ∧
          Below w.heap.size w ((wr.setCell ⟨w.heap.size, k, none⟩ (.int .u8 ((m : Int) % 128))).setCell ⟨w.heap.size, k, none⟩ (.int .u8 ((m : Int) % 128 + 128))) := by
       refine ⟨by simpa using hst, ?_, (HB.out.setCell (zNr _) _).setCell (zNr _) _⟩
       have hg := HG.out
       rw [if_neg hm] at hg
       exact take_set hlt hk1 HT.out hg
      have HR := zHd hrel
      clear hst hrel hlast
      go_wp2_with fail
      refine ⟨⟨m / 128, k + 1, _, hm64.div _, by omega, by go_num, by go_num, fun _ => HN.out hm, HR.out⟩, by simp [intOf]; omega⟩
  · obtain rfl : k = L.length := by omega
    have hd : decide (L.length < L.length) = false := by simp
    have hxs : xs = bv L := by
     have h1 := hown.1
     rw [List.take_length, List.take_of_length_le (by omega)] at htk
     exact htk
    subst hxs
    have HR : Hid (NewBy w L (.returned (.slice (some ⟨w.heap.size, 0, none⟩) L.length L.length)) wr) := ⟨_, rfl, hown, hb⟩
    clear hown htk hdr hb
    go_wp2_with fail
    go_ret
    exact HR.out
set_option maxHeartbeats 400000 in
theorem rbytes_any (v : Value) (lo hi : Nat) (l : List Nat) (w : World) (h : Bs w lo hi v l) (hhi : hi ≤ w.heap.size) (hl : l.length ≤ 1000000000000) :
    Calls Tryz.prog 63 #[v] w (NewBy w (bytesForm l)) := by
 obtain ⟨i0, hi0, hz0, hz1, hz2⟩ := info_parts t5info
 have HI := zHd hi0
 have h64 : U64 l.length := ⟨by omega⟩
 have hf := form_len64 h64
 have HL := zHd hl
 have H := zHd h
 have hlI : ((l.length : Nat) : Int) ≤ 1000000000000 := by omega
 obtain ⟨A, c, rfl, h1, h2, hnil, hby⟩ := h
 have HN := zHd hnil
 clear hl h1 h2 hby hi0 hnil
 go_enter Tryz.func63, Tryz.ntmps63
 go_wp2_with fail
 refine (rnumber_any _ h64 _).mono ?_
 rintro e w1 ⟨v1, rfl, hown, hb⟩
 have hz := hb.size
 have g2 := zHd (show Bs w1 lo hi (.slice A l.length c) l from H.out.below hb hhi)
 go_wp2_with (at_builtin; refine wpList_addall rfl (.tmp 6) (.tmp 7) 22 rfl w.heap.size 5 i0 (.int .u8 0) 1 Tryz.underlying22 HI.out hz0 hz1 hz2 rfl _ _ _ rfl hown lo hi A l.length c (bv l) rfl HN.out ?c2 ?c3 (bv_one l) ?c4 ?c5 ?c6 ?_)
 case c2 => exact bv_length l
 case c3 =>
  obtain ⟨A', c', he, _, _, _, h4⟩ := g2.out
  injection he with he1
  subst he1
  exact h4
 case c4 => have := HL.out; unfold maxLen; omega
 case c5 => have := HL.out; omega
 case c6 => exact hz
 intro v2 w2 hown2 hb2
 have HF : Hid (NewBy w (bytesForm l) (.returned v2) w2) := ⟨v2, rfl, by rw [bytesForm, bv_append, List.length_append]; exact hown2, hb2 _ hb⟩
 clear hown hown2 hb2
 go_wp2
 go_ret
 exact HF.out
theorem below_drewN {B : Nat} {w w' : World} (h : Below B w w') (n : Nat) : Below B w (w'.drewN n) := h.trans ⟨rfl, rfl, rfl, zNr _, fun _ _ => rfl⟩
def OutNum (l : List Nat) (n : Nat) (k : Int) (rest : List Nat) : Prop := (k = 0 ∧ Begins l n rest) ∨ (k = 4 ∧ NoNum l ∧ rest = l ∧ n = 0)
def OutText (most : Int) (l bs : List Nat) (k : Int) (rest : List Nat) : Prop := (k = 0 ∧ (bs.length : Int) ≤ most ∧ U64 bs.length ∧ l = bytesForm bs ++ rest) ∨ (k ≠ 0 ∧ ErrText most l k ∧ rest = l ∧ bs = [])
theorem OutNum.same {l r r' : List Nat} {n n' : Nat} {k k' : Int} (h : OutNum l n k r) (h' : OutNum l n' k' r') : n = n' ∧ k = k' ∧ r = r' := by
 rcases h with ⟨rfl, hb⟩ | ⟨rfl, hno, rfl, rfl⟩ <;> rcases h' with ⟨rfl, hb'⟩ | ⟨rfl, hno', rfl, rfl⟩
 · obtain ⟨h1, h2⟩ := hb.unique hb'; exact ⟨h1, rfl, h2⟩
 · exact absurd hb (hno' _ _)
 · exact absurd hb' (hno _ _)
 · exact ⟨rfl, rfl, rfl⟩
theorem begins_text {l bs rest : List Nat} (h : U64 bs.length) (he : l = bytesForm bs ++ rest) : Begins l bs.length (bs ++ rest) := ⟨h, by rw [he]; simp [bytesForm]⟩
theorem ErrCount.not {most : Int} {l : List Nat} {n : Int} {m : Nat} {rest : List Nat} (h : ErrCount most l n) (hb : Begins l m rest) (hle : (m : Int) ≤ most) : False := by
 rcases h with ⟨_, h0⟩ | ⟨_, _, hno⟩ | ⟨_, _, m', r', hb', hlt⟩
 · omega
 · exact hno _ _ hb
 · obtain ⟨e1, _⟩ := hb.unique hb'; omega
theorem ErrCount.same {most : Int} {l : List Nat} {n n' : Int} (h : ErrCount most l n) (h' : ErrCount most l n') : n = n' := by
 rcases h with ⟨rfl, h0⟩ | ⟨_, rfl, hno⟩ | ⟨_, rfl, m, r, hb, hlt⟩ <;> rcases h' with ⟨rfl, h0'⟩ | ⟨_, rfl, hno'⟩ | ⟨_, rfl, m', r', hb', hlt'⟩ <;> first | rfl | omega | exact absurd hb' (hno _ _) | exact absurd hb (hno' _ _)
theorem ErrText.same {most : Int} {l : List Nat} {n n' : Int} (h : ErrText most l n) (h' : ErrText most l n') : n = n' := by
 rcases h with h | ⟨rfl, m, r, hb, hle, hlt⟩ <;> rcases h' with h' | ⟨rfl, m', r', hb', hle', hlt'⟩
 · exact h.same h'
 · exact (h.not hb' hle').elim
 · exact (h'.not hb hle).elim
 · rfl
theorem ErrText.not {most : Int} {l : List Nat} {n : Int} (h : ErrText most l n) {bs rest : List Nat} (h1 : (bs.length : Int) ≤ most) (h2 : U64 bs.length) (h3 : l = bytesForm bs ++ rest) : False := by
 have hb := begins_text h2 h3
 rcases h with h | ⟨rfl, m, r, hb', hle, hlt⟩
 · exact h.not hb h1
 · obtain ⟨rfl, rfl⟩ := hb.unique hb'; simp at hlt; omega
theorem OutText.same {most : Int} {l r r' n n' : List Nat} {k k' : Int} (h : OutText most l n k r) (h' : OutText most l n' k' r') : n = n' ∧ k = k' ∧ r = r' := by
 rcases h with ⟨rfl, h1, h2, h3⟩ | ⟨_, he, rfl, rfl⟩ <;> rcases h' with ⟨rfl, h1', h2', h3'⟩ | ⟨_, he', rfl, rfl⟩
 · obtain ⟨e1, e2⟩ := (begins_text h2 h3).unique (begins_text h2' h3')
   obtain ⟨a1, a2⟩ := List.append_inj e2 e1
   exact ⟨a1, rfl, a2⟩
 · exact (he'.not h1 h2 h3).elim
 · exact (he.not h1' h2' h3').elim
 · exact ⟨rfl, he.same he', rfl⟩
theorem Number_out {r lo hi : Nat} {l : List Nat} {w : World} (h : Rd w r lo hi l) :
    Calls Tryz.prog 168 #[.pointer (some ⟨r, 0, none⟩)] w fun e w' => ∃ (n : Nat) (k : Int) (rest : List Nat), OutNum l n k rest ∧ e = .returned (.tuple #[.int .u64 (n : Int), .int .i64 k]) ∧ Rd w' r lo hi rest ∧ w.grownBy w' (some r) := by
 refine (Number_any r lo hi l w h).mono ?_
 rintro e w' (⟨v, rest, ⟨n, hb, rfl⟩, rfl, hr, hg⟩ | ⟨k, ⟨rfl, hno⟩, hk, rfl, hr, hg⟩)
 · exact ⟨n, 0, rest, .inl ⟨rfl, hb⟩, rfl, hr, hg⟩
 · exact ⟨0, 4, l, .inr ⟨rfl, hno, rfl, rfl⟩, rfl, hr, hg⟩
theorem Own.nil (B : Nat) (w : World) : Own B [] (.slice none 0 0) w := World.ownsRow_nil _ _ _ _
theorem Own.grown {B r : Nat} {l : List Nat} {v : Value} {w w' : World} (h : Own B l v w) (hg : w.grownBy w' (some r)) (hr : r < B) : Own B l v w' := own_grown h hg hr
theorem Bytes_own {r lo hi : Nat} {l : List Nat} {w : World} (h : Rd w r lo hi l) (hl : l.length ≤ 1000000000000) {most : Int} (hm1 : -9223372036854775808 ≤ most) (hm2 : most ≤ 9223372036854775807) :
    Calls Tryz.prog 153 #[.pointer (some ⟨r, 0, none⟩), .int .i64 most] w fun e w' => ∃ (A : Option Addr) (c : Nat) (bs : List Nat) (k : Int) (rest : List Nat), OutText most l bs k rest ∧ Own w.heap.size bs (.slice A bs.length c) w' ∧ e = .returned (.tuple #[.slice A bs.length c, .int .i64 k]) ∧ Rd w' r lo hi rest ∧ w.grownBy w' (some r) := by
 refine (Bytes_any most hm1 hm2 r lo hi l w h hl).mono ?_
 rintro e w' (⟨v, rest, ⟨bs, h1, h2, h3, h4⟩, rfl, hr, hg⟩ | ⟨k, he, hk, rfl, hr, hg⟩)
 · have h5 : Own w.heap.size bs v w' := h4
   obtain ⟨A, c, rfl⟩ := h5.slice
   exact ⟨A, c, bs, 0, rest, .inl ⟨rfl, h1, h2, h3⟩, h5, rfl, hr, hg⟩
 · exact ⟨none, 0, [], k, l, .inr ⟨hk, he, rfl, rfl⟩, Own.nil _ _, rfl, hr, hg⟩
theorem OutText.len {most : Int} {l bs rest : List Nat} {k : Int} (h : OutText most l bs k rest) : bs.length ≤ l.length ∧ rest.length ≤ l.length ∧ (∀ x ∈ bs, x ∈ l) := by
 rcases h with ⟨_, _, _, rfl⟩ | ⟨_, _, rfl, rfl⟩
 · refine ⟨?_, ?_, fun x hx => ?_⟩
   · unfold bytesForm; simp only [List.length_append]; omega
   · simp only [List.length_append]; omega
   · unfold bytesForm; simp [hx]
 · simp
theorem OutNum.len {l rest : List Nat} {n : Nat} {k : Int} (h : OutNum l n k rest) : rest.length ≤ l.length ∧ U64 n := by
 rcases h with ⟨_, hb⟩ | ⟨_, _, rfl, rfl⟩
 · refine ⟨?_, hb.n64⟩
   rw [hb.eq, List.length_append]; omega
 · exact ⟨zNr _, ⟨by omega⟩⟩
def noE : Value := .agg #[.slice none 0 0, .int .i64 0, .int .i64 0, .slice none 0 0]
theorem entry_ret {fn : Func} {tmps : Array Value} {w : World} {g : Nat} {p q : Tmp} {c : Array Value} {k : Value} {R : Ending → World → Prop} (hr : fn.results = #[.cell p 50, .tmp q]) (h2 : tmps.getD p undef = .pointer (some ⟨g, 0, none⟩)) (h3 : tmps.getD q undef = k)
    (hc : c.size = 4) (hg : w.heap[g]? = some (.cells c 50 (0, 0))) (h : R (.returned (.tuple #[.agg c, k])) w) : bodyPost Tryz.prog fn R .ret { tmps := tmps, defers := [] } w := by
 refine ⟨rfl, .tuple #[.agg c, k], ?_, h⟩
 have hi : (Tryz.prog.info? 50).map (·.size) = some 4 := by kernel_rfl
 have hl := run_loadVar_row (P := Tryz.prog) w g 50 50 c (0, 0) _ hg Tryz.underlying50 rfl (by rw [hc]; exact hi)
 have ha : (asAddr (.pointer (some ⟨g, 0, none⟩))).run Tryz.prog w = .ok ⟨g, 0, none⟩ w := rfl
 rw [results_cell_tmp hr, h2, h3, ha, Result.andThen_ok, hl, Result.andThen_ok]
theorem set_four {u : World} {g : Nat} {a b c d x y z t : Value} {ty : TypeId} (h : u.heap[g]? = some (.cells #[a, b, c, d] ty (0, 0))) :
    ((((u.setCell ⟨g, 0, none⟩ x).setCell ⟨g, 1, none⟩ y).setCell ⟨g, 2, none⟩ z).setCell ⟨g, 3, none⟩ t).heap[g]? = some (.cells #[x, y, z, t] ty (0, 0)) := by
 have h1 := heap_setCell_same u g 0 _ _ x h
 have h2 := heap_setCell_same (u.setCell ⟨g, 0, none⟩ x) g 1 _ _ y h1
 have h3 := heap_setCell_same ((u.setCell ⟨g, 0, none⟩ x).setCell ⟨g, 1, none⟩ y) g 2 _ _ z h2
 have h4 := heap_setCell_same (((u.setCell ⟨g, 0, none⟩ x).setCell ⟨g, 1, none⟩ y).setCell ⟨g, 2, none⟩ z) g 3 _ _ t h3
 rw [h4]; rfl
theorem frozen_four {u : World} {g j : Nat} {c : Array Value} {ty : TypeId} (h : u.heap[g]? = some (.cells c ty (0, 0))) : u.frozen? ⟨g, j, none⟩ = false := by simp [World.frozen?, h]
end Go.Proofs.YtkdidghfcfcpfaaGreat
namespace Go.Proofs.YtkdidghfcfcpfaaGreat
open Go.RowKit
def reachB (ops : Array Oper) : Nat → Nat → Nat → Bool
 | 0, _, _ => false
 | f + 1, i, j => match ops[i]? with | some o => aft o j || (List.range i).any (fun k => aft o k && reachB ops f k j) | none => false
def tailOk (ops : Array Oper) (m : Nat) : Bool := (List.range ops.size).all fun i => decide (i < m) || ((decide (i = m) || match ops[i]? with | some o => aft o (i - 1) | none => false) && (List.range m).all (reachB ops ops.size i))
section
variable {P : Program} {ops : Array Oper} {Q : Exit → Act → World → Prop} {φ : List (Value → World → Prop)} {a0 : Act} {w0 : World} {m : Nat}
theorem tail_prev (h : tailOk ops m = true) {i : Nat} {o : Oper} (hi : ops[i]? = some o) (hm : m < i) : aft o (i - 1) = true := by
 have hlt := (zAg.1 hi).1
 have h1 := (List.all_eq_true.1 h) i (List.mem_range.2 hlt)
 simp only [hi, Bool.or_eq_true, Bool.and_eq_true, decide_eq_true_eq] at h1
 rcases h1 with h1 | ⟨h1 | h1, _⟩
 · omega
 · omega
 · exact h1
theorem tail_reach (h : tailOk ops m = true) {i : Nat} {o : Oper} (hi : ops[i]? = some o) (hm : m ≤ i) : ∀ j, j < m → reachB ops ops.size i j = true := by
 intro j hj
 have hlt := (zAg.1 hi).1
 have h1 := (List.all_eq_true.1 h) i (List.mem_range.2 hlt)
 simp only [hi, Bool.or_eq_true, Bool.and_eq_true, decide_eq_true_eq] at h1
 rcases h1 with h1 | ⟨_, h1⟩
 · omega
 · exact (List.all_eq_true.1 h1) j (List.mem_range.2 hj)
theorem reach_seen {seen : Array Bool} {a : Act} {u : World} (hI : Inv ops φ a0 w0 seen a u) : ∀ (f k j : Nat), seen.getD k false = true → reachB ops f k j = true → seen.getD j false = true := by
 intro f
 induction f with
 | zero => intro k j _ h; cases h
 | succ f ih =>
  intro k j hk h
  simp only [reachB] at h
  split at h
  · rename_i o ho
    rcases Bool.or_eq_true_iff.1 h with h | h
    · exact hI.closed k o ho hk j h
    · obtain ⟨k', _, h2⟩ := List.any_eq_true.1 h
      simp only [Bool.and_eq_true] at h2
      exact ih k' j (hI.closed k o ho hk k' h2.1) h2.2
  · cases h
theorem aft_seen {seen : Array Bool} {o : Oper} (hed : ∀ e ∈ o.after, Region.binds .any e = true → seen.getD e.on false = true) {j : Nat} (h : aft o j = true) : seen.getD j false = true := by
 unfold aft at h
 obtain ⟨e, he, hb⟩ := Array.any_eq_true'.1 h
 simp only [Bool.and_eq_true, beq_iff_eq] at hb
 rw [← hb.2]
 exact hed e he hb.1
theorem ready_seen {seen : Array Bool} {a : Act} {u : World} (hI : Inv ops φ a0 w0 seen a u) {i : Nat} {o : Oper} (hi : ops[i]? = some o) (hed : ∀ e ∈ o.after, Region.binds .any e = true → seen.getD e.on false = true) {f j : Nat} (h : reachB ops f i j = true) : seen.getD j false = true := by
 cases f with
 | zero => cases h
 | succ f =>
  simp only [reachB, hi] at h
  rcases Bool.or_eq_true_iff.1 h with h | h
  · exact aft_seen hed h
  · obtain ⟨k', _, h2⟩ := List.any_eq_true.1 h
    simp only [Bool.and_eq_true] at h2
    exact reach_seen hI f k' j (aft_seen hed h2.1) h2.2
theorem done_getD {n k j : Nat} (b : Bool) (hj : j < n) : (Done n k).getD j b = decide (j < k) := by simp [Done, Array.getD, hj]
theorem done_size (n k : Nat) : (Done n k).size = n := by simp [Done]
theorem seq_tail {size : Nat} (hok : flowOk ops size = true) (ht : tailOk ops m = true) : ∀ (r k : Nat) (a : Act) (u : World), k + r = ops.size → m ≤ k → wpList P ops Q (ops.toList.drop k) a u → wpAny P .any ops Q r (Done ops.size k) a u := by
 intro r
 induction r with
 | zero =>
  intro k a u hk hm h
  have hk' : k = ops.size := by omega
  subst hk'
  rw [List.drop_of_length_le (by simp)] at h
  refine ⟨List.eq_nil_iff_forall_not_mem.2 fun i hi => ?_, h⟩
  obtain ⟨hun, oi, hio, _⟩ := mem_ready.1 hi
  have hlt := (zAg.1 hio).1
  rw [done_getD true hlt] at hun
  simp at hun; omega
 | succ r ih =>
  intro k a u hk hm h
  have hlt : k < ops.size := by omega
  have ho : ops[k]? = some ops[k] := Array.getElem?_eq_getElem hlt
  rw [List.drop_eq_getElem_cons (by simpa using hlt)] at h
  have hready : k ∈ Region.ready .any ops (Done ops.size k) := mem_ready.2 ⟨by rw [done_getD true hlt]; simp, ops[k], ho, fun e he hb => by
   have h1 := (flowOk_at hok ho).1 e he hb
   rw [done_getD false (by omega)]; simpa using h1⟩
  refine ⟨fun h0 => absurd hready (by rw [h0]; simp), fun i hi => ?_⟩
  have hik : i = k := by
   obtain ⟨hun, oi, hio, hed⟩ := mem_ready.1 hi
   have hil := (zAg.1 hio).1
   rw [done_getD true hil] at hun
   have hge : k ≤ i := by simpa using hun
   rcases Nat.lt_or_ge k i with hki | hki
   · have h2 := aft_seen hed (tail_prev ht hio (by omega))
     rw [done_getD false (by omega)] at h2
     simp at h2; omega
   · omega
  subst hik
  have hnext : ∀ a u, wpList P ops Q (ops.toList.drop (i + 1)) a u → wpAny P .any ops Q r ((Done ops.size i).setIfInBounds i true) a u := fun a u h => by
   rw [Done.succ hlt]
   exact ih (i + 1) a u (by omega) (by omega) h
  unfold wpOp
  simp only [ho]
  unfold wpList at h
  rw [Array.getElem_toList] at h
  split
  · rename_i hw
    rw [if_pos hw] at h
    rcases h with h | h
    · exact .inl (Oper.wp_mono (fun a u h => hnext a u h) h)
    · exact .inr h
  · rename_i hw
    rw [if_neg hw] at h
    exact hnext _ _ h
theorem act_tail {seen : Array Bool} {a : Act} {u : World} (hok : flowOk ops a0.tmps.size = true) (hI : Inv ops φ a0 w0 seen a u) (hn : ∀ j, m ≤ j → seen.getD j false = false) : a = puts (held ops a) 0 (ops.toList.take m) a0 := by
 have hd : a.defers = (puts (held ops a) 0 (ops.toList.take m) a0).defers := by rw [puts_defers]; exact hI.defs
 have conv : ∀ (j : Nat) (o : Oper), (ops.toList.take m)[j]? = some o → j < m ∧ ops[j]? = some o := fun j o h => by
  rw [List.getElem?_take] at h
  split at h
  · rename_i hj; exact ⟨hj, by rw [← Array.getElem?_toList]; exact h⟩
  · cases h
 have ht : a.tmps = (puts (held ops a) 0 (ops.toList.take m) a0).tmps := by
  apply Array.ext_getElem?
  intro t
  by_cases hsz : t < a0.tmps.size
  · have huniq : ∀ (x y : Nat) (ox oy : Oper), (ops.toList.take m)[x]? = some ox → (ops.toList.take m)[y]? = some oy → ox.dst = some t → oy.dst = some t → x = y := fun x y ox oy hx hy h1 h2 => by
      rcases Nat.decEq x y with hne | he
      · exact absurd h1 (((flowOk_at hok (conv x ox hx).2).2.2.2 y oy t (conv y oy hy).2 h2).1 (fun e => hne e.symm))
      · exact he
    obtain ⟨h1, h2⟩ := puts_get (held ops a) (ops.toList.take m) 0 a0 t hsz huniq
    by_cases hex : ∃ (j : Nat) (oj : Oper), (ops.toList.take m)[j]? = some oj ∧ oj.dst = some t
    · obtain ⟨j, oj, hj, hd⟩ := hex
      rw [h2 j oj hj hd, Nat.zero_add]
      simp only [held, (conv j oj hj).2, slot, hd]
      have hts : t < a.tmps.size := by rw [hI.tsz]; exact hsz
      simp [Array.getD, hts]
    · have hex' : ∀ (j : Nat) (o : Oper), (ops.toList.take m)[j]? = some o → o.dst ≠ some t := fun j o hj hd => hex ⟨j, o, hj, hd⟩
      rw [h1 hex']
      refine hI.old t fun j oj hj hs => ?_
      have hjm : j < m := by
       rcases Nat.lt_or_ge j m with h | h
       · exact h
       · rw [hn j h] at hs; cases hs
      exact hex' j oj (by rw [List.getElem?_take, if_pos hjm, Array.getElem?_toList]; exact hj)
  · rw [Array.getElem?_eq_none (by rw [hI.tsz]; omega), Array.getElem?_eq_none (by rw [puts_size]; omega)]
 have ext : ∀ x y : Act, x.tmps = y.tmps → x.defers = y.defers → x = y := by rintro ⟨_, _⟩ ⟨_, _⟩ rfl rfl; rfl
 exact ext _ _ ht hd
theorem flow_tail_any (hok : flowOk ops a0.tmps.size = true) (hsel : Region.noSelect ops = true) (hmn : m ≤ ops.size) (htl : tailOk ops m = true) (hmono : ∀ p ∈ φ, Mono p)
    (hobl : ∀ f, Obls P ops φ w0 f 0 (ops.toList.take m) a0)
    (hfin : ∀ (g : Nat → Value) u, Ext w0 u → (∀ j, j < m → fact φ j (g j) u) → wpList P ops Q (ops.toList.drop m) (puts g 0 (ops.toList.take m) a0) u) :
    ∀ (n : Nat) (seen : Array Bool) (a : Act) (u : World), Inv ops φ a0 w0 seen a u → (∀ j, m ≤ j → seen.getD j false = false) → left ops seen = n → wpAny P .any ops Q n seen a u := by
 have whole : ∀ (n : Nat) (seen : Array Bool) (a : Act) (u : World), Inv ops φ a0 w0 seen a u → (∀ j, m ≤ j → seen.getD j false = false) → left ops seen = n → (∀ j, j < m → seen.getD j false = true) → wpAny P .any ops Q n seen a u := fun n seen a u hI hn hl hall => by
  have hseen : seen = Done ops.size m := by
   apply Array.ext
   · rw [hI.size, done_size]
   · intro i h1 h2
     have e1 : seen[i] = seen.getD i false := by simp [Array.getD, h1]
     have e2 : (Done ops.size m)[i] = (Done ops.size m).getD i false := by simp [Array.getD, h2]
     rw [e1, e2, done_getD false (by rw [← hI.size]; exact h1)]
     rcases Nat.lt_or_ge i m with h | h
     · rw [hall i h]; simp [h]
     · rw [hn i h]; simp; omega
  have hleft : left ops seen = ops.size - m := by
   unfold left
   have : (List.range ops.size).countP (fun i => !seen.getD i false) = (List.range ops.size).countP (fun i => decide (m ≤ i)) := by
    apply List.countP_congr
    intro j hj
    rcases Nat.lt_or_ge j m with h | h
    · rw [hall j h]; simp; omega
    · rw [hn j h]; simp; omega
   rw [this]
   have cnt : ∀ N, (List.range N).countP (fun i => decide (m ≤ i)) = N - m := by
    intro N
    induction N with
    | zero => simp
    | succ N ih =>
     rw [List.range_succ, List.countP_append, ih, List.countP_singleton]
     by_cases h : m ≤ N
     · simp [h]; omega
     · simp [h]; omega
   exact cnt _
  have hA := act_tail hok hI hn
  have hF := hfin (held ops a) u hI.ext fun j hj => by
   have hoj : ops[j]? = some ops[j] := Array.getElem?_eq_getElem (by omega)
   simp only [held, hoj]
   exact hI.facts j _ hoj (hall j hj)
  rw [← hA] at hF
  rw [← hl, hleft, hseen]
  exact seq_tail hok htl _ _ _ _ (by omega) (zNr _) hF
 intro n
 induction n with
 | zero =>
  intro seen a u hI hn hl
  refine whole 0 seen a u hI hn hl fun j hj => ?_
  have := List.countP_eq_zero.1 hl j (List.mem_range.2 (by omega))
  simpa using this
 | succ n ih =>
  intro seen a u hI hn hl
  by_cases hall : ∀ j, j < m → seen.getD j false = true
  · exact whole _ seen a u hI hn hl hall
  · have hread : Region.ready .any ops seen = [] → False := fun hr => hall fun j hj => by
      exact all_seen hok hI hr j (by omega)
    refine ⟨fun hr => (hread hr).elim, fun i hi => ?_⟩
    obtain ⟨hun, oi, hio, hed⟩ := mem_ready.1 hi
    have hlt := (zAg.1 hio).1
    rw [getD_both seen (by rw [hI.size]; exact hlt)] at hun
    have hleft := left_next hI.size hlt hun
    have him : i < m := by
     rcases Nat.lt_or_ge i m with h | h
     · exact h
     · exfalso
       refine hall fun j hj => ?_
       exact ready_seen hI hio hed (tail_reach htl hio h j hj)
    refine wpOp_mono (fun b u' hb => ih _ b u' hb ?_ (by omega)) (flow_step hok hsel hmono hobl hI him hi)
    intro j hj
    rw [set_getD, if_neg (fun h => by have := h.1; omega)]; exact hn j hj
theorem flow_tail {id : Nat} {w : World} (hm0 : P.follows .mixedOrders = true) (φ : List (Value → World → Prop)) (m : Nat) (hok : flowOk ops a0.tmps.size = true) (hsel : Region.noSelect ops = true) (hmn : decide (m ≤ ops.size) = true) (htl : tailOk ops m = true) (hmono : ∀ p ∈ φ, Mono p)
    (hobl : ∀ f, Obls P ops φ w.drew f 0 (ops.toList.take m) a0)
    (hfin : ∀ (g : Nat → Value) u, Ext w.drew u → (∀ j, j < m → fact φ j (g j) u) → wpList P ops Q (ops.toList.drop m) (puts g 0 (ops.toList.take m) a0) u) :
    (Code.region id ops true).wp P Q a0 w := by
 refine wp_region_any hm0 (flow_tail_any hok hsel (of_decide_eq_true hmn) htl hmono hobl hfin ops.size _ a0 w.drew inv_start (fun j _ => ?_) left_start)
 rw [Array.getD_eq_getD_getElem?]
 by_cases hj : j < ops.size
 · simp [hj]
 · simp [hj]
end
end Go.Proofs.YtkdidghfcfcpfaaGreat
namespace Go.Proofs.YtkdidghfcfcpfaaGreat
open Go.ChangeShapes Go.WideShapes Go.ChangeAt Go.RowKit
theorem entry_ret1 {fn : Func} {tmps : Array Value} {w : World} {g : Nat} {p : Tmp} {c : Array Value} {R : Ending → World → Prop} (hr : fn.results = #[.cell p 50]) (h2 : tmps.getD p undef = .pointer (some ⟨g, 0, none⟩))
    (hc : c.size = 4) (hg : w.heap[g]? = some (.cells c 50 (0, 0))) (h : R (.returned (.agg c)) w) : bodyPost Tryz.prog fn R .ret { tmps := tmps, defers := [] } w := by
 have hi : (Tryz.prog.info? 50).map (·.size) = some 4 := by kernel_rfl
 exact ⟨rfl, .agg c, results_cell_row hr _ _ _ _ _ _ _ h2 hg Tryz.underlying50 rfl (by rw [hc]; exact hi), h⟩
theorem Own.far {B : Nat} {l : List Nat} {v x : Value} {u : World} {p : Addr} (h : Own B l v u) (hp : p.block < B) : Own B l v (u.setCell p x) :=
 row_kept h (fun g hg => Below.heap_setCell _ _ _ _ (by have := (row_lt h g hg).1; omega))
def CopyAns (w : World) (e : Ent) (x : Ending) (w' : World) : Prop :=
 Ext w w' ∧ ∃ g : Hd, x = .returned (e.at_ g) ∧ Own w.heap.size e.key (.slice g.kA e.key.length g.kc) w' ∧ Own w.heap.size e.val (.slice g.vA e.val.length g.vc) w'
set_option maxRecDepth 100000 in
set_option maxHeartbeats 4000000 in
theorem copy_any {w : World} {lo hi : Nat} {e : Ent} {g : Hd} (hm : Em w lo hi e g) (hhi : hi ≤ w.heap.size) (hk : e.key.length ≤ 1099511627776) (hv : e.val.length ≤ 1099511627776) : Calls Tryz.prog 83 #[e.at_ g] w (CopyAns w e) := by
 obtain ⟨w1, hw1⟩ : ∃ w1, w1 = (w.alloc (.cells #[.slice g.kA e.key.length g.kc, .int .i64 e.seq, .int .i64 e.kind, .slice g.vA e.val.length g.vc] 50)).alloc (.cells #[.slice none 0 0, .int .i64 0, .int .i64 0, .slice none 0 0] 50) := ⟨_, rfl⟩
 have HX : Hid (Ext w w1) := by rw [hw1]; exact zEt (ext_alloc _ _) (ext_alloc _ _)
 have HZ1 : Hid (w1.heap.size = w.heap.size + 2) := by rw [hw1]; simp [Hid]
 have HBX : Hid (w1.heap[w.heap.size]? = some (.cells #[.slice g.kA e.key.length g.kc, .int .i64 e.seq, .int .i64 e.kind, .slice g.vA e.val.length g.vc] 50 (0, 0))) := by rw [hw1]; exact ext_heap (ext_alloc _ _) (heap_at _ _ rfl)
 have HRX : Hid (w1.heap[w.heap.size + 1]? = some (.cells #[.slice none 0 0, .int .i64 0, .int .i64 0, .slice none 0 0] 50 (0, 0))) := by rw [hw1]; exact heap_at _ _ (by simp)
 have HM := zHd hm
 have HHI := zHd hhi
 have HK := zHd hk
 have HV := zHd hv
 clear hm hhi hk hv
 have c0 := cell_of HBX.out (k := 0) rfl
 have c3 := cell_of HBX.out (k := 3) rfl
 unfold Ent.at_
 go_enter Tryz.func83, Tryz.ntmps83
 go_upto_region 1 with (fail)
 rw [← hw1]
 clear hw1
 refine flow_tail (by kernel_rfl) [Is (.pointer (some ⟨w.heap.size, 0, none⟩)), Is (.slice g.kA e.key.length g.kc), Own w1.heap.size e.key, Is (.pointer (some ⟨w.heap.size, 3, none⟩)), Is (.slice g.vA e.val.length g.vc), Own w1.heap.size e.val, Is (.pointer (some ⟨w.heap.size, 0, none⟩))] 7 (by kernel_rfl) (by kernel_rfl) (by kernel_rfl) (by kernel_rfl) ?mono (fun f => ?obl) ?fin
 case mono =>
  simp only [List.forall_mem_cons, List.not_mem_nil, false_imp_iff, implies_true, and_true]
  exact ⟨.is _, .is _, .own _ _, .is _, .is _, .own _ _, .is _⟩
 case fin =>
  intro g1 u hu hg
  simp only [List.take_succ_cons, List.take_zero, List.drop_succ_cons, List.drop_zero, puts, Act.put, zq]
  have h2 : Own w1.heap.size e.key (g1 2) u := hg 2 (by decide)
  have h5 : Own w1.heap.size e.val (g1 5) u := hg 5 (by decide)
  have h6 : g1 6 = _ := hg 6 (by decide)
  obtain ⟨v2, e2⟩ : ∃ v, v = g1 2 := ⟨_, rfl⟩
  obtain ⟨v5, e5⟩ : ∃ v, v = g1 5 := ⟨_, rfl⟩
  rw [h6]
  rw [← e2] at h2 ⊢
  rw [← e5] at h5 ⊢
  have H2 := zHd h2
  have H5 := zHd h5
  obtain ⟨A2, c2, rfl⟩ := h2.slice
  obtain ⟨A5, c5, rfl⟩ := h5.slice
  have HU : Hid (Ext w1 u) := zEt (Ext.drew w1) hu
  have hb1 := ext_heap HU.out HBX.out
  have hb2 := ext_heap HU.out HRX.out
  have q0 := cell_of hb1 (k := 0) rfl
  have q1 := cell_of hb1 (k := 1) rfl
  have q2 := cell_of hb1 (k := 2) rfl
  have q3 := cell_of hb1 (k := 3) rfl
  have z0 := frozen_four hb1 (j := 0)
  have z3 := frozen_four hb1 (j := 3)
  have r0 := cell_of hb2 (k := 0) rfl
  have r1 := cell_of hb2 (k := 1) rfl
  have r2 := cell_of hb2 (k := 2) rfl
  have r3 := cell_of hb2 (k := 3) rfl
  have y0 := frozen_four hb2 (j := 0)
  have y1 := frozen_four hb2 (j := 1)
  have y2 := frozen_four hb2 (j := 2)
  have y3 := frozen_four hb2 (j := 3)
  have HB2 := zHd hb2
  clear h2 h5 h6 e2 e5 hb1 hb2 hg hu c0 c3
  go_wp2_with fail
  have n1 : w.heap.size < w1.heap.size := by have := HZ1.out; omega
  have n2 : w.heap.size + 1 < w1.heap.size := by have := HZ1.out; omega
  have n3 : w.heap.size ≤ w1.heap.size := Nat.le_of_lt n1
  have HUW := zEt HX.out HU.out
  refine entry_ret1 (p := 2) (by kernel_rfl) rfl rfl (set_four (a := .slice none 0 0) (b := .int .i64 0) (c := .int .i64 0) (d := .slice none 0 0) ?_) ?_
  · rw [Below.heap_setCell _ _ _ _ (by simp), Below.heap_setCell _ _ _ _ (by simp)]; exact HB2.out
  · refine ⟨Below.setCell (Below.setCell (Below.setCell (Below.setCell (Below.setCell (Below.setCell HUW (zNr _) _) (zNr _) _) (Nat.le_succ _) _) (Nat.le_succ _) _) (Nat.le_succ _) _) (Nat.le_succ _) _, ⟨A2, c2, A5, c5⟩, rfl, ?_, ?_⟩
    · exact ((((((H2.out.far n1).far n1).far n2).far n2).far n2).far n2).base n3
    · exact ((((((H5.out.far n1).far n1).far n2).far n2).far n2).far n2).base n3
 case obl =>
  refine ⟨fun u hu hd => ?_, fun u hu hd => ?_, fun u hu hd => ?_, fun u hu hd => ?_, fun u hu hd => ?_, fun u hu hd => ?_, fun u hu hd => ?_, trivial⟩
  all_goals try simp only [Act.put, zq]
  · go_simp
    exact zEr
  · have e0 : f 0 = _ := hd 0 (by kernel_rfl)
    have q := ext_cell hu c0
    go_simp
    exact zEr
  · have e1 : f 1 = _ := hd 1 (by kernel_rfl)
    go_simp
    refine (clone_any _ lo hi e.key u (HM.out.k.below (zEt HX.out (zEt (Ext.drew w1) hu)) HHI.out) (zNt HHI.out (zEt HX.out (zEt (Ext.drew w1) hu)).size) HK.out).mono ?_
    rintro x w9 ⟨v, rfl, hown, hb9⟩
    exact ⟨v, rfl, hb9, ownsRow_base hown (zEt (Ext.drew w1) hu).size⟩
  · go_simp
    exact zEr
  · have e3 : f 3 = _ := hd 3 (by kernel_rfl)
    have q := ext_cell hu c3
    go_simp
    exact zEr
  · have e4 : f 4 = _ := hd 4 (by kernel_rfl)
    go_simp
    refine (clone_any _ lo hi e.val u (HM.out.v.below (zEt HX.out (zEt (Ext.drew w1) hu)) HHI.out) (zNt HHI.out (zEt HX.out (zEt (Ext.drew w1) hu)).size) HV.out).mono ?_
    rintro x w9 ⟨v, rfl, hown, hb9⟩
    exact ⟨v, rfl, hb9, ownsRow_base hown (zEt (Ext.drew w1) hu).size⟩
  · go_simp
    exact zEr
theorem conv_new (w : World) (l : List Nat) (hl : ∀ x ∈ l, x < 256) (hlen : l.length ≤ 1000) : ∃ A c w', (convert 9 22 (.string (tx l))).run Tryz.prog w = .ok (.slice A l.length c) w' ∧ Ext w w' ∧ Bs w' w.heap.size w'.heap.size (.slice A l.length c) l := by
 have hs : (tx l).size = l.length := by unfold tx; rw [strOfNums_size, List.length_map]
 have hb : ∀ (b : Nat), b < w.heap.size → (Lib.bytesWorld w 5 (tx l)).heap[b]? = w.heap[b]? := fun b hb => Lib.bytesWorld_at_old _ _ _ _ hb
 refine ⟨_, _, _, by rw [← hs]; exact Lib.run_convert_string_bytes w _ _ _ (tx l) Tryz.underlying9 Tryz.underlying22 Tryz.underlying5, ⟨?_, ?_, ?_, ?_, fun b h => hb b h⟩, ?_⟩
 · simp [Lib.bytesWorld, World.freeze, World.alloc, World.drew, -World.alloc_eq, -World.drew_eq]
 · simp [Lib.bytesWorld, World.freeze, World.alloc, World.drew, -World.alloc_eq, -World.drew_eq]
 · simp [Lib.bytesWorld, World.freeze, World.alloc, World.drew, -World.alloc_eq, -World.drew_eq]
 · rw [Lib.bytesWorld_size]; omega
 · refine ⟨_, _, rfl, by rw [← hs]; exact grownCap_ge _ _ _ _, by exact grownCap_le_maxLen _ _ _ _ (by rw [hs]; unfold maxLen; omega), (fun h => by cases h), .inr ⟨w.heap.size, 0, rfl, zNr _, by rw [Lib.bytesWorld_size]; omega, fun i u hu => ?_⟩⟩
   have hi : i < l.length := by
    rcases Nat.lt_or_ge i l.length with h | h
    · exact h
    · rw [List.getElem?_eq_none (by rw [bv_length]; exact h)] at hu; cases hu
   rw [Nat.zero_add, Lib.bytesWorld_cell _ _ _ _ (by rw [hs]; exact hi), ← hu]
   have hx := hl l[i] (List.getElem_mem hi)
   unfold tx bv
   rw [strOfNums_data]
   simp [List.getD, List.getElem?_eq_getElem hi, Nat.mod_eq_of_lt hx]
def LitAns (w : World) (e : Ent) (x : Ending) (w' : World) : Prop := Ext w w' ∧ ∃ g : Hd, x = .returned (e.at_ g) ∧ Em w' w.heap.size w'.heap.size e g
def ecells (p : Ent × Hd) : List Value := [.slice p.2.kA p.1.key.length p.2.kc, .int .i64 p.1.seq, .int .i64 p.1.kind, .slice p.2.vA p.1.val.length p.2.vc]
theorem ecells_length (p : Ent × Hd) : (ecells p).length = 4 := rfl
def erow (L : List (Ent × Hd)) : List Value := L.flatMap ecells
theorem erow_length (L : List (Ent × Hd)) : (erow L).length = L.length * 4 := by
 unfold erow
 induction L with
 | nil => rfl
 | cons a l ih => rw [List.flatMap_cons, List.length_append, ih, ecells_length, List.length_cons]; omega
theorem erow_append (L R : List (Ent × Hd)) : erow (L ++ R) = erow L ++ erow R := by simp [erow]
theorem erow_at (L : List (Ent × Hd)) {k j : Nat} (hk : k < L.length) (hj : j < 4) : (erow L)[k * 4 + j]? = (ecells L[k])[j]? := by
 unfold erow
 induction L generalizing k with
 | nil => simp at hk
 | cons a l ih =>
  rw [List.flatMap_cons]
  cases k with
  | zero => rw [List.getElem?_append_left (by rw [ecells_length]; omega)]; simp
  | succ k =>
   rw [List.getElem?_append_right (by rw [ecells_length]; omega), ecells_length, show (k + 1) * 4 + j - 4 = k * 4 + j by omega]
   simpa using ih (k := k) (by simpa using hk)
theorem erow_one (L : List (Ent × Hd)) : ∀ u ∈ erow L, u.oneCell' = true := by
 intro u hu
 unfold erow at hu
 obtain ⟨p, _, h⟩ := List.mem_flatMap.1 hu
 simp only [ecells, List.mem_cons, List.not_mem_nil, or_false] at h
 rcases h with rfl | rfl | rfl | rfl <;> rfl
structure Es (w : World) (lo hi : Nat) (A : Option Addr) (L : List (Ent × Hd)) : Prop where
 outer : Sl w lo hi A (erow L)
 each : ∀ p ∈ L, Em w lo hi p.1 p.2
theorem Es.below {w w' : World} {lo hi B : Nat} {A : Option Addr} {L : List (Ent × Hd)} (h : Es w lo hi A L) (hb : Below B w w') (hB : hi ≤ B) : Es w' lo hi A L := ⟨h.outer.below hb hB, fun p hp => (h.each p hp).below hb hB⟩
theorem Es.wide {w : World} {lo hi lo' hi' : Nat} {A : Option Addr} {L : List (Ent × Hd)} (h : Es w lo hi A L) (h1 : lo' ≤ lo) (h2 : hi ≤ hi') : Es w lo' hi' A L := ⟨h.outer.wide h1 h2, fun p hp => (h.each p hp).wide h1 h2⟩
theorem Es.at_ {w : World} {lo hi : Nat} {A : Option Addr} {L : List (Ent × Hd)} (h : Es w lo hi A L) {k : Nat} (hk : k < L.length) :
    ∃ b o, A = some ⟨b, o, none⟩ ∧ b < hi ∧ w.cell? ⟨b, o + k * 4, none⟩ = some (.slice L[k].2.kA L[k].1.key.length L[k].2.kc) ∧ w.cell? ⟨b, o + k * 4 + 1, none⟩ = some (.int .i64 L[k].1.seq) ∧
     w.cell? ⟨b, o + k * 4 + 2, none⟩ = some (.int .i64 L[k].1.kind) ∧ w.cell? ⟨b, o + k * 4 + 3, none⟩ = some (.slice L[k].2.vA L[k].1.val.length L[k].2.vc) := by
 obtain ⟨b, o, rfl, _, hb, _⟩ := Sl.at_ h.outer (i := k * 4) (by rw [erow_length]; omega)
 have hc : ∀ j u, (erow L)[j]? = some u → w.cell? ⟨b, o + j, none⟩ = some u := by
  rcases h.outer with h0 | ⟨b', o', he, _, _, hc⟩
  · have := congrArg List.length h0
    rw [erow_length] at this
    simp at this; omega
  · injection he with he
    injection he with e1 e2
    subst e1 e2
    exact hc
 have hj := fun (j : Nat) (hj : j < 4) (u : Value) (hu : (ecells L[k])[j]? = some u) => hc (k * 4 + j) u ((erow_at L hk hj).trans hu)
 refine ⟨b, o, rfl, hb, hj 0 (by decide) _ rfl, ?_, ?_, ?_⟩
 · rw [Nat.add_assoc]; exact hj 1 (by decide) _ rfl
 · rw [Nat.add_assoc]; exact hj 2 (by decide) _ rfl
 · rw [Nat.add_assoc]; exact hj 3 (by decide) _ rfl
theorem Es.base {w : World} {lo hi : Nat} {A : Option Addr} {L : List (Ent × Hd)} (h : Es w lo hi A L) (h0 : 0 < L.length) : ∃ b o, A = some ⟨b, o, none⟩ := by
 obtain ⟨b, o, e, _⟩ := h.at_ h0
 exact ⟨b, o, e⟩
theorem Es.get {w : World} {lo hi b o : Nat} {L : List (Ent × Hd)} (h : Es w lo hi (some ⟨b, o, none⟩) L) {k : Nat} {p : Ent × Hd} (hk : L[k]? = some p) :
    w.cell? ⟨b, o + k * 4, none⟩ = some (.slice p.2.kA p.1.key.length p.2.kc) ∧ w.cell? ⟨b, o + k * 4 + 1, none⟩ = some (.int .i64 p.1.seq) ∧
     w.cell? ⟨b, o + k * 4 + 2, none⟩ = some (.int .i64 p.1.kind) ∧ w.cell? ⟨b, o + k * 4 + 3, none⟩ = some (.slice p.2.vA p.1.val.length p.2.vc) := by
 obtain ⟨hlt, rfl⟩ := zLg.1 hk
 obtain ⟨_, _, he, _, c0, c1, c2, c3⟩ := h.at_ hlt
 injection he with he; injection he with e1 e2; subst e1 e2
 exact ⟨c0, c1, c2, c3⟩
structure RiseAt (L : List Ent) (n : Nat) : Prop where
 le : n ≤ L.length
 rise : ∀ j a b, j + 1 < n → L[j]? = some a → L[j + 1]? = some b → cmpE a b < 0
 stop : n < L.length → ∃ j a b, n = j + 1 ∧ L[j]? = some a ∧ L[j + 1]? = some b ∧ ¬ cmpE a b < 0
set_option maxRecDepth 100000 in
set_option maxHeartbeats 4000000 in
theorem rising_any {w : World} {lo hi : Nat} {A : Option Addr} {c : Nat} {L : List (Ent × Hd)} (h : Es w lo hi A L) (hhi : hi ≤ w.heap.size) (hlen : L.length ≤ 1000000000000) :
    Calls Tryz.prog 117 #[.slice A L.length c] w fun x w' => ∃ n : Nat, RiseAt (L.map Prod.fst) n ∧ x = .returned (.int .i64 (n : Int)) ∧ Ext w w' := by
 by_cases h0 : L.length = 0
 · obtain rfl : L = [] := List.eq_nil_of_length_eq_zero h0
   clear h hhi hlen h0
   go_enter Tryz.func117, Tryz.ntmps117
   go_wp2_with fail
   go_loopw [3] (fun a wr => a = .int .i64 1 ∧ Ext w wr) (fun _ _ => 0)
   case atStart => exact ⟨rfl, Ext.refl _⟩
   case round =>
    obtain ⟨rfl, hx⟩ := hrel
    go_wp2_with fail
    go_ret
    exact ⟨0, ⟨by simp, fun j a b hj => by omega, fun h => by simp at h⟩, rfl, hx⟩
 · obtain ⟨b, o, rfl⟩ := h.base (by omega)
   have HE := zHd h
   have HHI := zHd hhi
   have HL := zHd hlen
   have hlI : (L.length : Int) ≤ 1000000000000 := by omega
   clear h hhi
   go_enter Tryz.func117, Tryz.ntmps117
   go_wp2_with fail
   go_loopw [3] (fun a wr => ∃ i : Nat, a = .int .i64 (i : Int) ∧ 1 ≤ i ∧ i ≤ L.length ∧ Hid (∀ j a b, j + 1 < i → (L.map Prod.fst)[j]? = some a → (L.map Prod.fst)[j + 1]? = some b → cmpE a b < 0) ∧ Hid (Ext w wr)) (fun a _ => L.length - (intOf a).toNat)
   case atStart => exact ⟨1, rfl, by omega, by omega, fun j a b hj => by omega, Ext.refl _⟩
   case round =>
    obtain ⟨i, rfl, hi1, hm, HR, HX⟩ := hrel
    obtain ⟨m, him⟩ : ∃ m, m + 1 = i := ⟨i - 1, by omega⟩
    have HIM := zHd him
    by_cases hlt : i < L.length
    · have d : decide ((i : Int) < (L.length : Int)) = true := by simp; omega
      obtain ⟨p, hp⟩ : ∃ p, L[m]? = some p := ⟨_, List.getElem?_eq_getElem (by omega)⟩
      obtain ⟨q, hq⟩ : ∃ q, L[i]? = some q := ⟨_, List.getElem?_eq_getElem hlt⟩
      obtain ⟨c0, c1, c2, c3⟩ := (HE.out.below HX.out HHI.out).get hp
      obtain ⟨d0, d1, d2, d3⟩ := (HE.out.below HX.out HHI.out).get hq
      have HC : Hid (∀ u, Ext wr u → Calls Tryz.prog 79 #[.agg #[.slice p.2.kA p.1.key.length p.2.kc, .int .i64 p.1.seq, .int .i64 p.1.kind, .slice p.2.vA p.1.val.length p.2.vc], .agg #[.slice q.2.kA q.1.key.length q.2.kc, .int .i64 q.1.seq, .int .i64 q.1.kind, .slice q.2.vA q.1.val.length q.2.vc]] u fun x w' => x = .returned (.int .i64 (cmpE p.1 q.1)) ∧ Ext u w') := fun u hu => by
       have hE := HE.out.below (zEt HX.out hu) HHI.out
       have hle := zNt HHI.out (zEt HX.out hu).size
       exact compare_any (hE.each p (List.mem_of_getElem? hp)) (hE.each q (List.mem_of_getElem? hq)) hle hle
      have HP1 := zHd hp
      have HQ1 := zHd hq
      have hw : wrap64 ((i : Int) - 1) = (m : Int) := by have := HL.out; unfold wrap64; omega
      have hw2 : wrap64 ((i : Int) + 1) = ((i + 1 : Nat) : Int) := by have := HL.out; unfold wrap64; omega
      have hw3 : IntKind.i64.wrap ((i : Int) - 1) = (m : Int) := by have := HL.out; rw [IntKind.wrap_i64]; omega
      have n1 : (0 : Int) ≤ (m : Int) := by omega
      have n2 : (m : Int) < (L.length : Int) := by omega
      have n3 : (0 : Int) ≤ (i : Int) := by omega
      have n4 : (i : Int) < (L.length : Int) := by omega
      have HLT := zHd hlt
      have HI1 := zHd hi1
      clear hp hq hlt hm h0 him hi1
      go_upto_region 4 with (fail)
      refine flow (by kernel_rfl) [Is (.slice (some ⟨b, o, none⟩) L.length c), Is (.int .i64 (i : Int)), Is (.int .i64 (m : Int)), Is (.pointer (some ⟨b, o + m * 4, none⟩)), Is (.agg #[.slice p.2.kA p.1.key.length p.2.kc, .int .i64 p.1.seq, .int .i64 p.1.kind, .slice p.2.vA p.1.val.length p.2.vc]), Is (.slice (some ⟨b, o, none⟩) L.length c), Is (.int .i64 (i : Int)), Is (.pointer (some ⟨b, o + i * 4, none⟩)), Is (.agg #[.slice q.2.kA q.1.key.length q.2.kc, .int .i64 q.1.seq, .int .i64 q.1.kind, .slice q.2.vA q.1.val.length q.2.vc]), Is (.int .i64 (cmpE p.1 q.1)), Is (.bool (decide (0 ≤ cmpE p.1 q.1)))] (by kernel_rfl) (by kernel_rfl) ?mono (fun f => ?obl) ?fin
      case mono =>
       simp only [List.forall_mem_cons, List.not_mem_nil, false_imp_iff, implies_true, and_true]
       and_intros <;> exact .is _
      case fin =>
       intro g1 u hu hg
       simp only [puts, Act.put, zq]
       have h10 : g1 10 = _ := hg 10 (by decide)
       rw [h10]
       have HXU : Hid (Ext w u) := zEt HX.out (zEt (Ext.drew wr) hu)
       clear h10 hg hu HX c0 c1 c2 c3 d0 d1 d2 d3
       obtain ⟨z, hz⟩ : ∃ z, z = decide (0 ≤ cmpE p.1 q.1) := ⟨_, rfl⟩
       rw [← hz]
       have HZ := zHd hz
       clear hz
       rcases z with _ | _
       rotate_left
       · have HCC := zHd (of_decide_eq_true HZ.out.symm)
         go_wp2_with fail
         go_ret
         have him := HIM.out
         subst him
         refine ⟨m + 1, ⟨by have := HLT.out; rw [List.length_map]; omega, HR.out, fun _ => ⟨m, p.1, q.1, rfl, by rw [List.getElem?_map, HP1.out]; rfl, by rw [List.getElem?_map, HQ1.out]; rfl, by have := HCC.out; omega⟩⟩, rfl, HXU.out⟩
       · have HCC := zHd (of_decide_eq_false HZ.out.symm)
         go_wp2_with fail
         refine ⟨⟨i + 1, rfl, by omega, HLT.out, fun j a b hj ha hb => ?_, HXU.out⟩, ?_⟩
         · by_cases hji : j + 1 = i
           · have hjm : j = m := by have := HIM.out; omega
             rw [hjm, List.getElem?_map, HP1.out] at ha
             rw [hji, List.getElem?_map, HQ1.out] at hb
             simp at ha hb
             subst ha hb
             have := HCC.out; omega
           · exact HR.out j a b (by omega) ha hb
         · have := HLT.out; simp [intOf]; omega
      case obl =>
       refine ⟨fun u hu hd => ?_, fun u hu hd => ?_, fun u hu hd => ?_, fun u hu hd => ?_, fun u hu hd => ?_, fun u hu hd => ?_, fun u hu hd => ?_, fun u hu hd => ?_, fun u hu hd => ?_, fun u hu hd => ?_, fun u hu hd => ?_, trivial⟩
       all_goals try simp only [Act.put, zq]
       · go_simp
         exact zEr
       · go_simp
         exact zEr
       · have e1 : f 1 = _ := hd 1 (by kernel_rfl)
         go_simp
         exact zEr
       · have e0 : f 0 = _ := hd 0 (by kernel_rfl)
         have e2 : f 2 = _ := hd 2 (by kernel_rfl)
         go_simp
         exact zEr
       · have e3 : f 3 = _ := hd 3 (by kernel_rfl)
         have hu2 := zEt (Ext.drew wr) hu
         have q0 := ext_cell hu2 c0
         have q1 := ext_cell hu2 c1
         have q2 := ext_cell hu2 c2
         have q3 := ext_cell hu2 c3
         go_simp
         exact zEr
       · go_simp
         exact zEr
       · go_simp
         exact zEr
       · have e5 : f 5 = _ := hd 5 (by kernel_rfl)
         have e6 : f 6 = _ := hd 6 (by kernel_rfl)
         go_simp
         exact zEr
       · have e7 : f 7 = _ := hd 7 (by kernel_rfl)
         have hu2 := zEt (Ext.drew wr) hu
         have q0 := ext_cell hu2 d0
         have q1 := ext_cell hu2 d1
         have q2 := ext_cell hu2 d2
         have q3 := ext_cell hu2 d3
         go_simp
         exact zEr
       · have e4 : f 4 = _ := hd 4 (by kernel_rfl)
         have e8 : f 8 = _ := hd 8 (by kernel_rfl)
         go_simp
         refine (HC.out u (zEt (Ext.drew wr) hu)).mono ?_
         rintro x w9 ⟨rfl, hb9⟩
         exact ⟨_, rfl, hb9, rfl⟩
       · have e9 : f 9 = _ := hd 9 (by kernel_rfl)
         go_simp
         exact zEr
    · have d : decide ((i : Int) < (L.length : Int)) = false := by simp; omega
      have HLT := zHd hlt
      have HM := zHd hm
      clear hlt hm him h0 hi1
      go_wp2_with fail
      go_ret
      exact ⟨L.length, ⟨by simp, fun j a b hj ha hb => HR.out j a b (by have := HLT.out; have := HM.out; omega) ha hb, fun h => by simp at h⟩, rfl, HX.out⟩
set_option maxHeartbeats 1000000 in
theorem rmay_any (kA vA : Option Addr) (kn kc vn vc : Nat) (s d : Int) (w : World) : Calls Tryz.prog 87 #[.agg #[.slice kA kn kc, .int .i64 s, .int .i64 d, .slice vA vn vc]] w fun e w' => e = .returned (.bool (mayN kn s d vn)) ∧ Below w.heap.size w w' := by
 obtain ⟨m, hm⟩ : ∃ m, m = mayN kn s d vn := ⟨_, rfl⟩
 rw [← hm]
 have HX : Hid (Ext w (w.alloc (.cells #[.slice kA kn kc, .int .i64 s, .int .i64 d, .slice vA vn vc] 50))) := ext_alloc _ _
 by_cases h1 : kn < 1
 · obtain rfl : m = false := by rw [hm]; simp [mayN]; omega
   have d1 : decide ((kn : Int) < 1) = true := by simp; omega
   clear hm
   go_enter Tryz.func87, Tryz.ntmps87
   go_wp2_with fail
   go_ret
   exact ⟨rfl, HX.out⟩
 have d1 : decide ((kn : Int) < 1) = false := by simp; omega
 by_cases h2 : 32 < kn
 · obtain rfl : m = false := by rw [hm]; simp [mayN]; omega
   have d2 : decide ((32 : Int) < (kn : Int)) = true := by simp; omega
   clear hm
   go_enter Tryz.func87, Tryz.ntmps87
   go_wp2_with fail
   go_ret
   exact ⟨rfl, HX.out⟩
 have d2 : decide ((32 : Int) < (kn : Int)) = false := by simp; omega
 by_cases h3 : s < 1
 · obtain rfl : m = false := by rw [hm]; simp [mayN]; omega
   have d3 : decide (s < 1) = true := by simp; omega
   clear hm
   go_enter Tryz.func87, Tryz.ntmps87
   go_wp2_with fail
   go_ret
   exact ⟨rfl, HX.out⟩
 have d3 : decide (s < 1) = false := by simp; omega
 by_cases h4 : 2147483647 < s
 · obtain rfl : m = false := by rw [hm]; simp [mayN]; omega
   have d4 : decide ((2147483647 : Int) < s) = true := by simp; omega
   clear hm
   go_enter Tryz.func87, Tryz.ntmps87
   go_wp2_with fail
   go_ret
   exact ⟨rfl, HX.out⟩
 have d4 : decide ((2147483647 : Int) < s) = false := by simp; omega
 by_cases h5 : d = 1
 · subst h5
   by_cases hv : vn ≤ 65536
   · obtain rfl : m = true := by rw [hm, mayN_iff]; omega
     have dv : decide ((vn : Int) ≤ 65536) = true := by simp; omega
     have dvn : decide (vn ≤ 65536) = true := by simp; omega
     clear hm h1 h2 h3 h4 hv
     go_enter Tryz.func87, Tryz.ntmps87
     go_wp2_with fail
     go_ret
     exact ⟨rfl, HX.out⟩
   · obtain rfl : m = false := by rw [hm, Bool.eq_false_iff, ne_eq, mayN_iff]; omega
     have dv : decide ((vn : Int) ≤ 65536) = false := by simp; omega
     have dvn : decide (vn ≤ 65536) = false := by simp; omega
     clear hm h1 h2 h3 h4 hv
     go_enter Tryz.func87, Tryz.ntmps87
     go_wp2_with fail
     go_ret
     exact ⟨rfl, HX.out⟩
 have d5 : (d == 1) = false := by simpa using h5
 by_cases h6 : d = 2
 · subst h6
   obtain rfl : m = ((vn : Int) == 0) := by
    rw [hm, Bool.eq_iff_iff, mayN_iff, beq_iff_eq]; omega
   clear hm h1 h2 h3 h4
   go_enter Tryz.func87, Tryz.ntmps87
   go_wp2_with fail
   go_ret
   exact ⟨rfl, HX.out⟩
 have d6 : (d == 2) = false := by simpa using h6
 obtain rfl : m = false := by
  rw [hm, Bool.eq_false_iff, ne_eq, mayN_iff]; omega
 clear hm h1 h2 h3 h4
 go_enter Tryz.func87, Tryz.ntmps87
 go_wp2_with fail
 go_ret
 exact ⟨rfl, HX.out⟩
theorem cmpK_nil (b : List Nat) : cmpK [] b = if b.length = 0 then 0 else -1 := by cases b <;> simp [cmpK]
theorem cmpK_nil2 (a : List Nat) : cmpK a [] = if a.length = 0 then 0 else 1 := by cases a <;> simp [cmpK]
theorem cmpK_take {a b : List Nat} : ∀ {k : Nat}, k ≤ a.length → k ≤ b.length → a.take k = b.take k → cmpK a b = cmpK (a.drop k) (b.drop k)
 | 0, _, _, _ => by simp
 | k + 1, ha, hb, h => by
  cases a with
  | nil => simp at ha
  | cons x l =>
   cases b with
   | nil => simp at hb
   | cons y r =>
    simp only [List.take_succ_cons, List.cons.injEq] at h
    obtain ⟨rfl, h⟩ := h
    simp only [List.drop_succ_cons, cmpK]
    rw [if_neg (by omega), if_neg (by omega)]
    exact cmpK_take (by simpa using ha) (by simpa using hb) h
set_option maxRecDepth 100000 in
set_option maxHeartbeats 4000000 in
theorem rkeys_any {w : World} {lo hi lo2 hi2 : Nat} {u v : Value} {a b : List Nat} (hu : Bs w lo hi u a) (hv : Bs w lo2 hi2 v b) (ha : ∀ x ∈ a, x < 256) (hb : ∀ x ∈ b, x < 256) (h1 : hi ≤ w.heap.size) (h2 : hi2 ≤ w.heap.size) (hl1 : a.length ≤ 140737488351232) (hl2 : b.length ≤ 140737488351232) :
    Calls Tryz.prog 60 #[u, v] w fun e w' => e = .returned (.int .i64 (cmpK a b)) ∧ Ext w w' := by
 obtain ⟨X, c, rfl, _, _, _, hy1⟩ := hu
 obtain ⟨Y, d, rfl, _, _, _, hy2⟩ := hv
 have H1 := zHd hy1
 have H2 := zHd hy2
 have HHI := zHd (And.intro h1 h2)
 have HBY := zHd (And.intro ha hb)
 have HL := zHd (And.intro hl1 hl2)
 obtain ⟨N, hN⟩ : ∃ N, N = a.length := ⟨_, rfl⟩
 obtain ⟨M, hM⟩ : ∃ M, M = b.length := ⟨_, rfl⟩
 rw [← hN, ← hM]
 have HN := zHd (And.intro hN hM)
 obtain ⟨z, hz⟩ : ∃ z, z = cmpK a b := ⟨_, rfl⟩
 rw [← hz]
 have HZ := zHd hz
 have hlI : (N : Int) ≤ 140737488351232 := by omega
 clear hy1 hy2 h1 h2 ha hb hl1 hl2 hN hM hz
 go_enter Tryz.func60, Tryz.ntmps60
 go_wp2_with fail
 go_loopw [5] (fun x wr => ∃ k : Nat, x = .int .i64 (k : Int) ∧ Hid (k ≤ a.length ∧ k ≤ b.length ∧ a.take k = b.take k) ∧ Hid (Ext w wr)) (fun x _ => N - (intOf x).toNat)
 case atStart => exact ⟨0, rfl, ⟨Nat.zero_le _, Nat.zero_le _, by simp⟩, Ext.refl _⟩
 case round =>
  obtain ⟨k, rfl, HK, HX⟩ := hrel
  by_cases hk1 : k < N
  · have d1 : decide ((k : Int) < (N : Int)) = true := by simp; omega
    have d1n : decide (k < N) = true := by simp; omega
    by_cases hk2 : k < M
    · have d2 : decide ((k : Int) < (M : Int)) = true := by simp; omega
      have d2n : decide (k < M) = true := by simp; omega
      have ha' : k < a.length := by have := HN.out.1; omega
      have hb' : k < b.length := by have := HN.out.2; omega
      obtain ⟨b1, o1, rfl, _, hlt1, q1⟩ := By.at_ H1.out ha'
      obtain ⟨b2, o2, rfl, _, hlt2, q2⟩ := By.at_ H2.out hb'
      replace q1 := ext_cell HX.out q1
      replace q2 := ext_cell HX.out q2
      obtain ⟨x, hx⟩ : ∃ x, x = a[k] := ⟨_, rfl⟩
      obtain ⟨y, hy⟩ : ∃ y, y = b[k] := ⟨_, rfl⟩
      rw [← hx] at q1
      rw [← hy] at q2
      have HXY : Hid (cmpK a b = if x < y then -1 else if y < x then 1 else cmpK (a.drop (k + 1)) (b.drop (k + 1))) := by
       unfold Hid
       rw [cmpK_take HK.out.1 HK.out.2.1 HK.out.2.2, List.drop_eq_getElem_cons ha', List.drop_eq_getElem_cons hb', ← hx, ← hy]
       rfl
      have HE : Hid (x = y → a.take (k + 1) = b.take (k + 1)) := fun e => by
       rw [List.take_succ_eq_append_getElem ha', List.take_succ_eq_append_getElem hb', ← hx, ← hy, HK.out.2.2, e]
      have HKK := zHd (And.intro ha' hb')
      have HK1 := zHd hk1
      have n1 : (0 : Int) ≤ (k : Int) := by omega
      have n2 : (k : Int) < (N : Int) := by omega
      have n3 : (k : Int) < (M : Int) := by omega
      clear hlt1 hlt2 hk1 hk2
      by_cases hlt : x < y
      · have e1 : decide ((x : Int) < (y : Int)) = true := by simp; omega
        have e1n : decide (x < y) = true := by simp; omega
        have HC : Hid (z = -1) := by rw [HZ.out, HXY.out, if_pos hlt]; rfl
        clear hx hy hlt ha' hb'
        go_wp2_with fail
        go_quiet (fail)
        go_wp2_with fail
        go_ret
        have := HC.out
        subst this
        exact ⟨rfl, below_drewN HX.out _⟩
      · have e1 : decide ((x : Int) < (y : Int)) = false := by simp; omega
        have e1n : decide (x < y) = false := by simp; omega
        by_cases hgt : y < x
        · have e2 : decide ((y : Int) < (x : Int)) = true := by simp; omega
          have e2n : decide (y < x) = true := by simp; omega
          have HC : Hid (z = 1) := by rw [HZ.out, HXY.out, if_neg hlt, if_pos hgt]; rfl
          clear hx hy hlt hgt ha' hb'
          go_wp2_with fail
          go_quiet (fail)
          go_wp2_with fail
          go_quiet (fail)
          go_wp2_with fail
          go_ret
          have := HC.out
          subst this
          exact ⟨rfl, below_drewN (below_drewN HX.out _) _⟩
        · have e2 : decide ((y : Int) < (x : Int)) = false := by simp; omega
          have e2n : decide (y < x) = false := by simp; omega
          have HEQ := zHd (HE.out (by omega))
          clear hx hy hlt hgt ha' hb'
          go_wp2_with fail
          go_quiet (fail)
          go_wp2_with fail
          go_quiet (fail)
          go_wp2_with fail
          refine ⟨⟨k + 1, rfl, ⟨HKK.out.1, HKK.out.2, HEQ.out⟩, ?_⟩, ?_⟩
          · exact below_drewN HX.out _
          · have := HK1.out; simp [intOf]; omega
    · have d2 : decide ((k : Int) < (M : Int)) = false := by simp; omega
      have d2n : decide (k < M) = false := by simp; omega
      have HC : Hid (z = 1) := by
       have hkm : k = b.length := by have := HN.out.2; have := HK.out.2.1; omega
       unfold Hid
       rw [HZ.out, cmpK_take HK.out.1 HK.out.2.1 HK.out.2.2, hkm, List.drop_length, cmpK_nil2, List.length_drop, if_neg (by have := HN.out; omega)]
      have e1 : decide ((N : Int) < (M : Int)) = false := by simp; have := HN.out; have := HK.out; omega
      have e1n : decide (N < M) = false := by simp; have := HN.out; have := HK.out; omega
      have e2 : decide ((M : Int) < (N : Int)) = true := by simp; have := HN.out; have := HK.out; omega
      have e2n : decide (M < N) = true := by simp; have := HN.out; have := HK.out; omega
      clear hk1 hk2
      go_wp2_with fail
      go_ret
      have := HC.out
      subst this
      exact ⟨rfl, HX.out⟩
  · have d1 : decide ((k : Int) < (N : Int)) = false := by simp; omega
    have d1n : decide (k < N) = false := by simp; omega
    have hkm : k = a.length := by have := HN.out.1; have := HK.out.1; omega
    have HC : Hid (z = if M = N then 0 else -1) := by
     unfold Hid
     rw [HZ.out, cmpK_take HK.out.1 HK.out.2.1 HK.out.2.2, hkm, List.drop_length, cmpK_nil, List.length_drop, HN.out.1, HN.out.2]
     have h1 := HK.out.2.1
     by_cases h : b.length = a.length
     · rw [if_pos h, if_pos (by omega)]
     · rw [if_neg h, if_neg (by omega)]
    by_cases he : M = N
    · have e1 : decide ((N : Int) < (M : Int)) = false := by simp; omega
      have e1n : decide (N < M) = false := by simp; omega
      have e2 : decide ((M : Int) < (N : Int)) = false := by simp; omega
      have e2n : decide (M < N) = false := by simp; omega
      have HC2 : Hid (z = 0) := by rw [HC.out, if_pos he]; rfl
      clear hk1 he hkm
      go_wp2_with fail
      go_ret
      have := HC2.out
      subst this
      exact ⟨rfl, HX.out⟩
    · have e1 : decide ((N : Int) < (M : Int)) = true := by simp; have := HN.out; have := HK.out; omega
      have e1n : decide (N < M) = true := by simp; have := HN.out; have := HK.out; omega
      have HC2 : Hid (z = -1) := by rw [HC.out, if_neg he]; rfl
      clear hk1 he hkm
      go_wp2_with fail
      go_ret
      have := HC2.out
      subst this
      exact ⟨rfl, HX.out⟩
set_option maxHeartbeats 1000000 in
theorem rcompare_any {w : World} {lo hi lo2 hi2 : Nat} {a b : Ent} {g h : Hd} (hu : Em w lo hi a g) (hv : Em w lo2 hi2 b h) (h1 : hi ≤ w.heap.size) (h2 : hi2 ≤ w.heap.size) (hl1 : a.key.length ≤ 140737488351232) (hl2 : b.key.length ≤ 140737488351232) :
    Calls Tryz.prog 88 #[a.at_ g, b.at_ h] w fun e w' => e = .returned (.int .i64 (cmpE a b)) ∧ Ext w w' := by
 obtain ⟨z, hz⟩ : ∃ z, z = cmpE a b := ⟨_, rfl⟩
 rw [← hz]
 obtain ⟨w1, hw1⟩ : ∃ w1, w1 = (w.alloc (.cells #[.slice g.kA a.key.length g.kc, .int .i64 a.seq, .int .i64 a.kind, .slice g.vA a.val.length g.vc] 50)).alloc (.cells #[.slice h.kA b.key.length h.kc, .int .i64 b.seq, .int .i64 b.kind, .slice h.vA b.val.length h.vc] 50) := ⟨_, rfl⟩
 have HX : Hid (Ext w w1) := by rw [hw1]; exact zEt (ext_alloc _ _) (ext_alloc _ _)
 have HK := zHd (rkeys_any (hu.k.below HX.out h1) (hv.k.below HX.out h2) hu.bk hv.bk (zNt h1 HX.out.size) (zNt h2 HX.out.size) hl1 hl2)
 have b1 := ext_heap (ext_alloc (w.alloc (.cells #[.slice g.kA a.key.length g.kc, .int .i64 a.seq, .int .i64 a.kind, .slice g.vA a.val.length g.vc] 50)) (.cells #[.slice h.kA b.key.length h.kc, .int .i64 b.seq, .int .i64 b.kind, .slice h.vA b.val.length h.vc] 50)) (heap_at w (.cells #[.slice g.kA a.key.length g.kc, .int .i64 a.seq, .int .i64 a.kind, .slice g.vA a.val.length g.vc] 50) rfl)
 have b2 := heap_at (w.alloc (.cells #[.slice g.kA a.key.length g.kc, .int .i64 a.seq, .int .i64 a.kind, .slice g.vA a.val.length g.vc] 50)) (.cells #[.slice h.kA b.key.length h.kc, .int .i64 b.seq, .int .i64 b.kind, .slice h.vA b.val.length h.vc] 50) (k := w.heap.size + 1) (by simp)
 rw [← hw1] at b1 b2
 have q1 := cell_of b1 (k := 1) rfl
 have q2 := cell_of b2 (k := 1) rfl
 clear hu hv h1 h2 hl1 hl2 b1 b2
 obtain ⟨k, hk⟩ : ∃ k, k = cmpK a.key b.key := ⟨_, rfl⟩
 have hz2 : z = if k = 0 then cmpS a.seq b.seq else k := by rw [hz, hk]; rfl
 clear hz
 rw [← hk] at HK
 unfold Ent.at_
 by_cases h0 : k = 0
 · rw [if_pos h0] at hz2
   have d : (k != 0) = false := by simp [h0]
   unfold cmpS at hz2
   subst hw1
   clear hk h0
   by_cases hlt : b.seq < a.seq
   · rw [if_pos hlt] at hz2
     have e1 : decide (b.seq < a.seq) = true := by simp [hlt]
     clear hlt
     go_enter Tryz.func88, Tryz.ntmps88
     go_wp2_with fail
     refine Calls.mono HK.out ?_
     rintro e w' ⟨rfl, hx⟩
     have HX2 := zHd hx
     have p1 := ext_cell hx q1
     have p2 := ext_cell hx q2
     clear hx q1 q2
     go_wp2_with fail
     go_ret
     subst hz2
     exact ⟨rfl, zEt HX.out HX2.out⟩
   · rw [if_neg hlt] at hz2
     have e1 : decide (b.seq < a.seq) = false := by simp; omega
     by_cases hgt : a.seq < b.seq
     · rw [if_pos hgt] at hz2
       have e2 : decide (a.seq < b.seq) = true := by simp [hgt]
       clear hlt hgt
       go_enter Tryz.func88, Tryz.ntmps88
       go_wp2_with fail
       refine Calls.mono HK.out ?_
       rintro e w' ⟨rfl, hx⟩
       have HX2 := zHd hx
       have p1 := ext_cell hx q1
       have p2 := ext_cell hx q2
       clear hx q1 q2
       go_wp2_with fail
       go_ret
       subst hz2
       exact ⟨rfl, zEt HX.out HX2.out⟩
     · rw [if_neg hgt] at hz2
       have e2 : decide (a.seq < b.seq) = false := by simp; omega
       clear hlt hgt
       go_enter Tryz.func88, Tryz.ntmps88
       go_wp2_with fail
       refine Calls.mono HK.out ?_
       rintro e w' ⟨rfl, hx⟩
       have HX2 := zHd hx
       have p1 := ext_cell hx q1
       have p2 := ext_cell hx q2
       clear hx q1 q2
       go_wp2_with fail
       go_ret
       subst hz2
       exact ⟨rfl, zEt HX.out HX2.out⟩
 · rw [if_neg h0] at hz2
   have d : (k != 0) = true := by simp [h0]
   subst hw1
   clear hk h0
   go_enter Tryz.func88, Tryz.ntmps88
   go_wp2_with fail
   refine Calls.mono HK.out ?_
   rintro e w' ⟨rfl, hx⟩
   have HX2 := zHd hx
   clear hx q1 q2
   go_wp2_with fail
   go_ret
   subst hz2
   exact ⟨rfl, zEt HX.out HX2.out⟩
end Go.Proofs.YtkdidghfcfcpfaaGreat
namespace Go.Proofs.YtkdidghfcfcpfaaGreat
open Go.RowKit
section
variable {P : Program} {ops : Array Oper} {Q : Exit → Act → World → Prop} {l m : Nat}
theorem op_in {o : Oper} {a : Act} {w : World} {K : Act → World → Prop} (hnd : ∀ c, o.op ≠ .defer c) (h : o.wp P a w K Q) : o.wpIn (Fence.wide.inRound l) m P a w K Q := by
 refine ⟨fun _ _ => trivial, ?_⟩
 rw [show (Fence.wide.inRound l).round = some l from rfl, Oper.semAt_some l a.eval o hnd]
 unfold Oper.wp at h
 generalize (execOp a.eval o).run P w = r at h ⊢
 cases r with
 | ok x w' =>
  cases x with
  | value v => exact h
  | skip => exact h
  | defer d => exact h
  | enter f args => exact ⟨(fun e => (by cases e)), CallsIn.inRound l (callsIn_wide.2 h)⟩
  | row row args =>
   refine ⟨(fun e => (by cases e)), fun c cs _ => ?_⟩
   obtain ⟨v, w2, hr, hs⟩ := h c cs
   exact ⟨v, w2, hr, stepsIn_wide.2 hs⟩
  | _ => exact h.elim
 | halt x w' => cases x <;> first | exact h | exact h.elim
theorem any_in (hnd : ∀ (i : Nat) (o : Oper), ops[i]? = some o → ∀ c, o.op ≠ .defer c) (hQ : ¬ LetsOut Q) : ∀ (n : Nat) (seen : Array Bool) (a : Act) (w : World), wpAny P .any ops Q n seen a w → wpAnyIn (Fence.wide.inRound l) m P .any ops Q n seen a w := by
 intro n
 induction n with
 | zero => intro seen a w h; exact h
 | succ n ih =>
  intro seen a w h
  refine ⟨h.1, fun i hi => ?_⟩
  have h2 := h.2 i hi
  unfold wpOp at h2
  unfold wpOpIn
  cases ho : ops[i]? with
  | none => simp only [ho] at h2 ⊢; exact ih _ _ _ h2
  | some o =>
   simp only [ho] at h2 ⊢
   split
   · rename_i hw
     rw [if_pos hw] at h2
     rcases h2 with h2 | ⟨_, h2⟩
     · exact Oper.wpIn_mono (fun a w h => ih _ a w h) (op_in (hnd i o ho) h2)
     · exact absurd h2 hQ
   · rename_i hw
     rw [if_neg hw] at h2
     exact ⟨fun _ _ => trivial, ih _ _ _ h2⟩
def noDefer (ops : Array Oper) : Bool := ops.all fun o => match o.op with | .defer _ => false | _ => true
theorem noDefer_at (h : noDefer ops = true) (i : Nat) (o : Oper) (ho : ops[i]? = some o) (c : Call) : o.op ≠ .defer c := by
 intro e
 obtain ⟨hi, he⟩ := zAg.1 ho
 have := (Array.all_eq_true.1 h) i hi
 rw [he, e] at this
 cases this
theorem flow_in {a0 : Act} {id : Nat} {w : World} (hm : P.follows .mixedOrders = true) (hnd : noDefer ops = true) (hQ : ∀ a w, ¬ Q .outgrown a w) (φ : List (Value → World → Prop)) (hok : flowOk ops a0.tmps.size = true) (hsel : Region.noSelect ops = true) (hmono : ∀ p ∈ φ, Mono p)
    (hobl : ∀ f, Obls P ops φ w.drew f 0 ops.toList a0)
    (hfin : ∀ (g : Nat → Value) u, Ext w.drew u → (∀ j, j < ops.size → fact φ j (g j) u) → Q .normal (puts g 0 ops.toList a0) u) : (Code.region id ops true).wpIn (Fence.wide.inRound l) m P Q a0 w := by
 refine wpIn_region_any hm (any_in (noDefer_at hnd) (fun ⟨a, w, h⟩ => hQ a w h) _ _ _ _ (flow_any hok hsel hmono hobl hfin _ _ _ _ ⟨Ext.refl _, by simp, rfl, rfl, fun _ _ => rfl, fun j oj hj hs => ?_, fun j oj hj hs => ?_⟩ ?_))
 · have hlt := (zAg.1 hj).1
   simp [Array.getD, hlt] at hs
 · have hlt := (zAg.1 hj).1
   simp [Array.getD, hlt] at hs
 · unfold left
   rw [List.countP_eq_length.2]
   · simp
   · intro i hi
     have hlt := List.mem_range.1 hi
     simp [Array.getD, hlt]
end
end Go.Proofs.YtkdidghfcfcpfaaGreat
namespace Go.Proofs.YtkdidghfcfcpfaaGreat
open Go.RowKit Go.Shelf
attribute [local go_sem] Oper.semAt_some
theorem Em.keep {w w' : World} {lo hi : Nat} {e : Ent} {g : Hd} (m : Em w lo hi e g) (hk : ∀ p : Addr, lo ≤ p.block → p.block < hi → w'.cell? p = w.cell? p) : Em w' lo hi e g := ⟨m.k.of fun _ h => h.keep hk, m.v.of fun _ h => h.keep hk, m.bk, m.bv, m.s1, m.s2, m.d1, m.d2⟩
theorem Es.keep {w w' : World} {lo hi : Nat} {A : Option Addr} {L : List (Ent × Hd)} (h : Es w lo hi A L) (hk : ∀ p : Addr, lo ≤ p.block → p.block < hi → w'.cell? p = w.cell? p) : Es w' lo hi A L := ⟨h.outer.keep hk, fun p hp => (h.each p hp).keep hk⟩
theorem einfo : (Tryz.prog.info? 50).map (fun i => (i.zero, i.size, i.bytes)) = some (some (.agg #[.slice none 0 0, .int .i64 0, .int .i64 0, .slice none 0 0]), 4, 64) := by kernel_rfl
theorem esize (w : World) : (sizeOf (Tryz.prog.elem 28)).run Tryz.prog w = .ok 4 w := by
 obtain ⟨i0, hi, _, hz1, _⟩ := info_parts einfo
 have e : Tryz.prog.elem 28 = 50 := by kernel_rfl
 rw [e]
 simp [Go.sizeOf, typeInfo, hi, hz1]
theorem erow_drop (L : List (Ent × Hd)) (k : Nat) (hk : k ≤ L.length) : erow (L.drop k) = (erow L).drop (k * 4) := by
 have h := erow_append (L.take k) (L.drop k)
 rw [List.take_append_drop] at h
 have hl : (erow (L.take k)).length = k * 4 := by rw [erow_length, List.length_take, Nat.min_eq_left hk]
 rw [h, ← hl, List.drop_left]
theorem erow_take (L : List (Ent × Hd)) (k : Nat) (hk : k ≤ L.length) : erow (L.take k) = (erow L).take (k * 4) := by
 have h := erow_append (L.take k) (L.drop k)
 rw [List.take_append_drop] at h
 have hl : (erow (L.take k)).length = k * 4 := by rw [erow_length, List.length_take, Nat.min_eq_left hk]
 rw [h, ← hl, List.take_left]
theorem Es.drop {w : World} {lo hi c : Nat} {A : Option Addr} {L : List (Ent × Hd)} (h : Es w lo hi A L) {k : Nat} (hk : k ≤ L.length) (hc : L.length ≤ c) : Es w lo hi (if c = k then A else A.map (·.add (k * 4))) (L.drop k) := by
 refine ⟨?_, fun p hp => h.each p (List.mem_of_mem_drop hp)⟩
 rw [erow_drop L k hk]
 have h2 := Sl.drop (k := k * 4) (cap := c * 4) h.outer (by rw [erow_length]; omega) (by rw [erow_length]; omega)
 by_cases e : c = k
 · rw [if_pos e]; rw [if_pos (by omega)] at h2; exact h2
 · rw [if_neg e]; rw [if_neg (by omega)] at h2; exact h2
theorem Es.take {w : World} {lo hi : Nat} {A : Option Addr} {L : List (Ent × Hd)} (h : Es w lo hi A L) {k : Nat} (hk : k ≤ L.length) : Es w lo hi A (L.take k) := by
 refine ⟨?_, fun p hp => h.each p (List.mem_of_mem_take hp)⟩
 rw [erow_take L k hk]
 exact Sl.take h.outer _
end Go.Proofs.YtkdidghfcfcpfaaGreat
namespace Go.Proofs.YtkdidghfcfcpfaaGreat
open Go.RowKit
end Go.Proofs.YtkdidghfcfcpfaaGreat
namespace Go.Proofs.YtkdidghfcfcpfaaGreat
open Go.RowKit Go.Shelf
attribute [local go_sem] Oper.semAt_some
structure Good (e : Ent) : Prop where
 bk : ∀ x ∈ e.key, x < 256
 bv : ∀ x ∈ e.val, x < 256
 s1 : -9223372036854775808 ≤ e.seq
 s2 : e.seq ≤ 9223372036854775807
 d1 : -9223372036854775808 ≤ e.kind
 d2 : e.kind ≤ 9223372036854775807
structure Mine (B : Nat) (p : Ent × Hd) (A : World) : Prop where
 k : Own B p.1.key (.slice p.2.kA p.1.key.length p.2.kc) A
 v : Own B p.1.val (.slice p.2.vA p.1.val.length p.2.vc) A
 good : Good p.1
theorem Mine.em {B : Nat} {p : Ent × Hd} {A : World} (h : Mine B p A) : Em A 0 A.heap.size p.1 p.2 := ⟨h.k.bs, h.v.bs, h.good.bk, h.good.bv, h.good.s1, h.good.s2, h.good.d1, h.good.d2⟩
theorem Mine.below {B : Nat} {p : Ent × Hd} {A A' : World} (h : Mine B p A) (hx : Ext A A') : Mine B p A' := ⟨h.k.below hx, h.v.below hx, h.good⟩
theorem Mine.base {B B' : Nat} {p : Ent × Hd} {A : World} (h : Mine B p A) (hB : B' ≤ B) : Mine B' p A := ⟨h.k.base hB, h.v.base hB, h.good⟩
theorem Mine.chg {B : Nat} {p : Ent × Hd} {A A' : World} {S : Nat → Prop} (h : Mine B p A) (hc : Chg S A A') (hS : ∀ k, B ≤ k → ¬ S k) : Mine B p A' := ⟨row_chg h.k hc hS, row_chg h.v hc hS, h.good⟩
theorem rowN_kept {w w' : World} {base s n : Nat} {e : TypeId} {v : Value} {xs : List Value} (h : w.ownsRow base e s v n xs) (hk : ∀ g, v.ownBlock = some g → w'.heap[g]? = w.heap[g]?) : w'.ownsRow base e s v n xs := by
 obtain ⟨h1, h2⟩ := h
 refine ⟨h1, ?_⟩
 rcases h2 with h2 | ⟨g, cap, cur, hv, hg, hh, r⟩
 · exact Or.inl h2
 · exact Or.inr ⟨g, cap, cur, hv, hg, (hk g (by rw [hv]; rfl)).trans hh, r⟩
theorem rowN_lt {w : World} {base s n : Nat} {e : TypeId} {v : Value} {xs : List Value} (h : w.ownsRow base e s v n xs) : ∀ g, v.ownBlock = some g → base ≤ g ∧ g < w.heap.size ∧ ∃ cur, w.heap[g]? = some (.cells cur e (0, 0)) := by
 intro g hg
 rcases h.2 with ⟨rfl, _⟩ | ⟨g', cap, cur, hv, hb, hh, r⟩
 · cases hg
 · rw [hv] at hg
   injection hg with hg
   subst hg
   exact ⟨hb, (zAg.1 hh).1, cur, hh⟩
theorem rowN_base {w : World} {b b' s n : Nat} {e : TypeId} {v : Value} {xs : List Value} (h : w.ownsRow b e s v n xs) (hb : b' ≤ b) : w.ownsRow b' e s v n xs := by
 obtain ⟨h1, h2⟩ := h
 refine ⟨h1, ?_⟩
 rcases h2 with h2 | ⟨g, cap, cur, hv, hg, hh, r⟩
 · exact Or.inl h2
 · exact Or.inr ⟨g, cap, cur, hv, zNt hb hg, hh, r⟩
theorem rowN_slice {w : World} {base s n : Nat} {e : TypeId} {v : Value} {xs : List Value} (h : w.ownsRow base e s v n xs) : ∃ A c, v = .slice A n c := by
 rcases h.2 with ⟨rfl, rfl⟩ | ⟨g', cap, cur, hv, _⟩
 · exact ⟨none, 0, rfl⟩
 · exact ⟨_, _, hv⟩
theorem rows_apart {w : World} {B B' s s' n n' : Nat} {e e' : TypeId} {v v' : Value} {xs xs' : List Value} (h : w.ownsRow B e s v n xs) (h' : w.ownsRow B' e' s' v' n' xs') (hne : e ≠ e') {g : Nat} (hg : v.ownBlock = some g) : v'.ownBlock ≠ some g := by
 intro hg'
 obtain ⟨_, _, c, hc⟩ := rowN_lt h g hg
 obtain ⟨_, _, c', hc'⟩ := rowN_lt h' g hg'
 rw [hc] at hc'
 injection hc' with hc'
 injection hc' with _ h2 _
 exact hne h2
end Go.Proofs.YtkdidghfcfcpfaaGreat
namespace Go.Proofs.YtkdidghfcfcpfaaGreat
open Go.RowKit Go.Shelf
attribute [local go_sem] Oper.semAt_some
end Go.Proofs.YtkdidghfcfcpfaaGreat
namespace Go.Proofs.YtkdidghfcfcpfaaGreat
open Go.RowKit Go.Shelf Go.ChangeShapes Go.WideShapes Go.ChangeAt
set_option maxRecDepth 100000 in
theorem cv_any {w : World} {lo hi : Nat} {A : Option Addr} {c : Nat} {l : List Nat} (h : Bs w lo hi (.slice A l.length c) l) : (convert 22 9 (.slice A l.length c)).run Tryz.prog w = .ok (.string (tx l)) w := by
 obtain ⟨A', c', he, _, _, _, hy⟩ := h
 injection he with e1 _ e3
 subst e1 e3
 exact run_text (P := Tryz.prog) w 22 5 Tryz.underlying22 Tryz.underlying5 hy l.length c rfl 9 Tryz.underlying9
attribute [local go_sem] Oper.semAt_some
set_option maxHeartbeats 2000000 in
theorem rsame_any {w : World} {lo hi lo2 hi2 : Nat} {a b : Ent} {g h : Hd} (hu : Em w lo hi a g) (hv : Em w lo2 hi2 b h) (h1 : hi ≤ w.heap.size) (h2 : hi2 ≤ w.heap.size) :
    Calls Tryz.prog 22 #[a.at_ g, b.at_ h] w fun e w' => ∃ z : Bool, (z = true ↔ a = b) ∧ e = .returned (.bool z) ∧ Ext w w' := by
 obtain ⟨w1, hw1⟩ : ∃ w1, w1 = (w.alloc (.cells #[.slice g.kA a.key.length g.kc, .int .i64 a.seq, .int .i64 a.kind, .slice g.vA a.val.length g.vc] 50)).alloc (.cells #[.slice h.kA b.key.length h.kc, .int .i64 b.seq, .int .i64 b.kind, .slice h.vA b.val.length h.vc] 50) := ⟨_, rfl⟩
 have HX : Hid (Ext w w1) := by rw [hw1]; exact zEt (ext_alloc _ _) (ext_alloc _ _)
 have cvn : ∀ (X : Option Addr) (c : Nat) (l : List Nat) (lo hi : Nat), hi ≤ w.heap.size → Bs w lo hi (.slice X l.length c) l → (convert 22 9 (.slice X l.length c)).run Tryz.prog w1 = .ok (.string (tx l)) w1 := fun X c l lo hi hh hb => cv_any (hb.below HX.out hh)
 have v1 := cvn _ _ _ _ _ h1 hu.k
 have v2 := cvn _ _ _ _ _ h2 hv.k
 have v3 := cvn _ _ _ _ _ h1 hu.v
 have v4 := cvn _ _ _ _ _ h2 hv.v
 have t1 := tx_same hu.bk hv.bk
 have t2 := tx_same hu.bv hv.bv
 rw [hw1] at v1 v2 v3 v4
 clear cvn hu hv h1 h2
 unfold Ent.at_
 rw [hw1] at HX
 clear hw1
 by_cases hk : a.key = b.key
 · rw [decide_eq_true hk] at t1
   by_cases hs : a.seq = b.seq
   · have d1 : (a.seq == b.seq) = true := by simp [hs]
     by_cases hd : a.kind = b.kind
     · have d2 : (a.kind == b.kind) = true := by simp [hd]
       obtain ⟨z, hz⟩ : ∃ z, z = decide (a.val = b.val) := ⟨_, rfl⟩
       rw [← hz] at t2
       have HZ : Hid (z = true ↔ a = b) := by rw [hz]; unfold Hid; rw [decide_eq_true_eq]; exact ⟨fun h => Ent.ext hk hs hd h, fun h => by rw [h]⟩
       clear hk hs hd hz
       go_enter Tryz.func22, Tryz.ntmps22
       go_wp2_with fail
       go_ret
       exact ⟨z, HZ.out, by cases z <;> rfl, HX.out⟩
     · have d2 : (a.kind == b.kind) = false := by simp [hd]
       have HZ : Hid (false = true ↔ a = b) := ⟨fun h => (by cases h), fun h => absurd (by rw [h]) hd⟩
       clear hk hs hd t2
       go_enter Tryz.func22, Tryz.ntmps22
       go_wp2_with fail
       go_ret
       exact ⟨false, HZ.out, rfl, HX.out⟩
   · have d1 : (a.seq == b.seq) = false := by simp [hs]
     have HZ : Hid (false = true ↔ a = b) := ⟨fun h => (by cases h), fun h => absurd (by rw [h]) hs⟩
     clear hk hs t2
     go_enter Tryz.func22, Tryz.ntmps22
     go_wp2_with fail
     go_ret
     exact ⟨false, HZ.out, rfl, HX.out⟩
 · rw [decide_eq_false hk] at t1
   have HZ : Hid (false = true ↔ a = b) := ⟨fun h => (by cases h), fun h => absurd (by rw [h]) hk⟩
   clear hk t2
   go_enter Tryz.func22, Tryz.ntmps22
   go_wp2_with fail
   go_ret
   exact ⟨false, HZ.out, rfl, HX.out⟩
theorem results_cell_bool {fn : Func} {p : Tmp} (h : fn.results = #[.cell p 4]) (tmps : Array Value) (w : World) (g : Nat) (z : Bool) (hp : tmps.getD p undef = .pointer (some ⟨g, 0, none⟩)) (hc : w.cell? ⟨g, 0, none⟩ = some (.bool z)) :
    (results fn tmps).run Tryz.prog w = .ok (.bool z) w := by
 simp only [results, h]
 have hp' : tmps[p]?.getD undef = .pointer (some ⟨g, 0, none⟩) := by simpa using hp
 simp [Sem.run_bind, hp', go_sem, hc]
end Go.Proofs.YtkdidghfcfcpfaaGreat
