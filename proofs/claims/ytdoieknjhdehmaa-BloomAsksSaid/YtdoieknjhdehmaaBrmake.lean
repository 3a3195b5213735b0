/- The reference's Make. -/
import Derived.Test.YtdoieknjhdehmaaBref2
namespace Go.Proofs.Ytdoieknjhdehmaa
open Go.ChangeShapes Go.WideShapes Go.ChangeAt Go.RowKit

set_option maxRecDepth 100000 in
set_option maxHeartbeats 4000000 in
theorem rmake_any (A : Option Addr) (c lo hi : Nat) (vs : List Value) (ls : List (List Nat)) (w : World) (h : Rows2 w lo hi A vs ls) (hhi : hi ≤ w.heap.size) (hlen : ls.length ≤ 65536) (hl : ∀ l ∈ ls, ∀ x ∈ l, x < 256) (hll : ∀ l ∈ ls, l.length ≤ 1000000) :
    Calls Try.prog 18 #[.slice A ls.length c] w fun e w' => ∃ A' c', e = .returned (.slice A' (bsize ls.length) c') ∧ Own w.heap.size (mk ls) (.slice A' (bsize ls.length) c') w' ∧ Ext w w' := by
  have HR := Lib.hid h
  have HL := Lib.hid hl
  have HLL := Lib.hid hll
  clear h hl hll
  have HS := Lib.hid (rsize_any (ls.length : Int) (by omega) (by omega) w)
  have HZ := Lib.hid (bsize_pos ls.length)
  have HZ2 : Hid (bsize ls.length ≤ 65544) := bsize_le (by omega)
  rw [sizeI_nat (by omega)] at HS
  obtain ⟨N, hN⟩ : ∃ N, N = bsize ls.length := ⟨_, rfl⟩
  rw [← hN] at HS HZ HZ2
  have HN := Lib.hid hN
  obtain ⟨w1, hrun, hown, hx⟩ := zeros_run w N (by have := HZ2.out; omega)
  have HO1 := Lib.hid hown
  have HX1 := Lib.hid hx
  have hli : (ls.length : Int) ≤ 65536 := by omega
  clear hown hx hN
  go_enter Try.func18, Try.ntmps18
  go_wp2_with fail
  refine Calls.mono HS.out ?_
  rintro e w2 ⟨rfl, rfl⟩
  go_wp2_with fail
  have HF0 : Hid ((List.replicate N 0).length = N) := List.length_replicate
  go_loopw [3, 4] (fun f i wr => ∃ (k : Nat) (g : Nat) (cc : Nat), k ≤ ls.length ∧ i = .int .i64 (k : Int) ∧ f = .slice (some ⟨g, 0, none⟩) N cc ∧ Hid (Own w.heap.size ((ls.take k).foldl addK (List.replicate N 0)) (.slice (some ⟨g, 0, none⟩) N cc) wr) ∧ Hid (Ext w wr)) (fun _ i _ => ls.length - (intOf i).toNat)
  case atStart => exact ⟨0, w.heap.size, N, Nat.zero_le _, rfl, rfl, HO1, HX1⟩
  case round =>
    obtain ⟨k, g, cc, hk, rfl, rfl, HOK, HXK⟩ := hrel
    have HRK : Hid (Rows2 wr lo hi A vs ls) := HR.out.below HXK.out hhi
    by_cases hlt : k < ls.length
    · have d : decide ((k : Int) < (ls.length : Int)) = true := decide_eq_true (by omega)
      have dn : decide (k < ls.length) = true := decide_eq_true hlt
      obtain ⟨b, o, A', c', rfl, hcell, q1, q2, q3, q4⟩ := HRK.out.at_ hlt
      have HV : Hid (Bs wr lo hi (.slice A' ls[k].length c') ls[k]) := ⟨A', c', rfl, q1, q2, q3, q4⟩
      obtain ⟨G, hG⟩ : ∃ G, G = (ls.take k).foldl addK (List.replicate N 0) := ⟨_, rfl⟩
      have hGN : G.length = N := by rw [hG, addKs_length, HF0.out]
      have HOG : Hid (Own w.heap.size G (.slice (some ⟨g, 0, none⟩) G.length cc) wr) := by rw [hGN, hG]; exact HOK.out
      have HADD := Lib.hid (radd_any HOG.out.bs (by rw [hG]; exact addKs_lt (zeros_lt _)) (by have := HZ.out; omega) (by have := HZ2.out; omega) HV.out (by have := HXK.out.size; omega) (HL.out _ (List.getElem_mem hlt)) (HLL.out _ (List.getElem_mem hlt)))
      rw [hGN] at HADD
      have HNX : Hid ((ls.take (k + 1)).foldl addK (List.replicate N 0) = addK G ls[k]) := by rw [hG]; exact mk_take ls _ hlt
      clear q1 q2 q3 q4 hG hGN
      go_wp2_with fail
      refine Calls.mono HADD.out ?_
      rintro e w3 ⟨g3, c3, rfl, ho, hb⟩
      have HO3 : Hid (Own w.heap.size (addK G ls[k]) (.slice (some ⟨g3, 0, none⟩) N c3) w3) := ho.base HXK.out.size
      have HX3 : Hid (Ext w w3) := Ext.trans HXK.out hb
      clear ho hb
      go_wp2_with fail
      go_roundw
      case rel => exact ⟨k + 1, g3, c3, by omega, by go_num, rfl, by rw [HNX.out]; exact HO3, HX3⟩
      case measure => simp [intOf]; omega
    · have d : decide ((k : Int) < (ls.length : Int)) = false := decide_eq_false (by omega)
      have dn : decide (k < ls.length) = false := decide_eq_false hlt
      obtain rfl : k = ls.length := by omega
      go_wp2_with fail
      go_ret
      refine ⟨some ⟨g, 0, none⟩, cc, by rw [HN.out]; rfl, ?_, HXK.out⟩
      have e := HOK.out
      rw [List.take_length] at e
      unfold mk
      rw [← HN.out]
      exact e
end Go.Proofs.Ytdoieknjhdehmaa
