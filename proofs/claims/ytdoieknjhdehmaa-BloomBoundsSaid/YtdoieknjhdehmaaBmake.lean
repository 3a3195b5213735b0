/- Make and Add. -/
import Derived.Test.YtdoieknjhdehmaaBset
import Derived.Test.YtdoieknjhdehmaaDclone
namespace Go.Proofs.Ytdoieknjhdehmaa
open Go.ChangeShapes Go.WideShapes Go.ChangeAt Go.RowKit

theorem zero_row (n : Nat) : (madeCells #[Value.int .u8 0] n).toList = bv (List.replicate n 0) := by
  apply List.ext_getElem
  · simp [size_madeCells, bv]
  · intro i h1 h2
    simp [madeCells, bv, Nat.mod_one]
/-- make([]byte, n). -/
theorem zeros_run (w : World) (n : Nat) (hn : n ≤ 1099511627776) : ∃ w', (Instr.makeSlice 25 (.int .i64 (n : Int)) (.int .i64 (n : Int))).run Try.prog w = .ok (.slice (some ⟨w.heap.size, 0, none⟩) n n) w' ∧ Own w.heap.size (List.replicate n 0) (.slice (some ⟨w.heap.size, 0, none⟩) n n) w' ∧ Ext w w' := by
  obtain ⟨i0, hi0, ix0, ix1, ix2⟩ := info_parts t5info
  obtain ⟨w13, hrun, hown, hgrow⟩ := run_make_full (P := Try.prog) w w.heap.size 25 5 i0 (.int .u8 0) 1 Try.underlying25 hi0 ix0 ix1 .i64 .i64 n (by rw [ix2]; omega) (by unfold maxLen; omega) (Nat.le_refl _)
  refine ⟨w13, hrun, ?_, (Below.refl _ _).grown hgrow (Nat.le_refl _) (fun k hk => by cases hk)⟩
  have h := hown
  simp only [Value.cells] at h
  rw [zero_row, Nat.mul_one] at h
  unfold Own
  rw [List.length_replicate]
  exact h

/-- What Make answers. -/
def MakeAns (w : World) (ls : List (List Nat)) (e : Ending) (w' : World) : Prop :=
  Ext w w' ∧ ((65536 < ls.length ∧ e = .returned (.tuple #[.slice none 0 0, .int .i64 2])) ∨ (ls.length ≤ 65536 ∧ ∃ g c, e = .returned (.tuple #[.slice (some ⟨g, 0, none⟩) (bsize ls.length) c, .int .i64 0]) ∧ Own w.heap.size (mk ls) (.slice (some ⟨g, 0, none⟩) (bsize ls.length) c) w'))

theorem mk_take (ls : List (List Nat)) (F : List Nat) {k : Nat} (h : k < ls.length) : (ls.take (k + 1)).foldl addK F = addK ((ls.take k).foldl addK F) ls[k] := by
  rw [List.take_succ_eq_append_getElem h, List.foldl_append]
  rfl
set_option maxRecDepth 100000 in
set_option maxHeartbeats 4000000 in
theorem make_any (A : Option Addr) (c lo hi : Nat) (vs : List Value) (ls : List (List Nat)) (w : World) (h : Rows2 w lo hi A vs ls) (hhi : hi ≤ w.heap.size) (hc : c ≤ maxLen) (hlc : ls.length ≤ c) (hl : ∀ l ∈ ls, ∀ x ∈ l, x < 256) :
    Calls Try.prog 17 #[.slice A ls.length c] w (MakeAns w ls) := by
  have hlen : (ls.length : Int) ≤ 9223372036854775807 := by unfold maxLen at hc; omega
  have HR := Lib.hid h
  have HL := Lib.hid hl
  clear h hl hc hlc
  by_cases hbig : 65536 < ls.length
  · have d : decide ((65536 : Int) < (ls.length : Int)) = true := decide_eq_true (by omega)
    have dn : decide (65536 < ls.length) = true := decide_eq_true hbig
    have HBIG := Lib.hid hbig
    clear hbig
    go_enter Try.func17, Try.ntmps17
    go_wp2_with fail
    go_ret2
    exact ⟨Ext.refl _, .inl ⟨HBIG.out, rfl⟩⟩
  · have d : decide ((65536 : Int) < (ls.length : Int)) = false := decide_eq_false (by omega)
    have dn : decide (65536 < ls.length) = false := decide_eq_false hbig
    have HBIG := Lib.hid hbig
    have HS := Lib.hid (size_any (ls.length : Int) (by omega) hlen w)
    have HZ := Lib.hid (bsize_pos ls.length)
    have HZ2 : Hid (bsize ls.length ≤ 65544) := bsize_le (by omega)
    rw [sizeI_nat (by omega)] at HS
    obtain ⟨N, hN⟩ : ∃ N, N = bsize ls.length := ⟨_, rfl⟩
    rw [← hN] at HS HZ HZ2
    have HN := Lib.hid hN
    obtain ⟨w1, hrun, hown, hx⟩ := zeros_run w N (by have := HZ2.out; omega)
    have HO1 := Lib.hid hown
    have HX1 := Lib.hid hx
    have hln : ls.length ≤ 65536 := by omega
    clear hbig hown hx hN hlen
    go_enter Try.func17, Try.ntmps17
    go_wp2_with fail
    refine Calls.mono HS.out ?_
    rintro e w2 ⟨rfl, rfl⟩
    go_wp2_with fail
    have HF0 : Hid ((List.replicate N 0).length = N) := List.length_replicate
    go_loopw [16] (fun i wr => ∃ k : Nat, k ≤ ls.length ∧ i = .int .i64 (k : Int) ∧ Hid (Own w.heap.size ((ls.take k).foldl addK (List.replicate N 0)) (.slice (some ⟨w.heap.size, 0, none⟩) N N) wr) ∧ Hid (Ext w wr)) (fun i _ => ls.length - (intOf i).toNat)
    case atStart => exact ⟨0, Nat.zero_le _, rfl, HO1, HX1⟩
    case round =>
      obtain ⟨k, hk, rfl, HOK, HXK⟩ := hrel
      have HRK : Hid (Rows2 wr lo hi A vs ls) := HR.out.below HXK.out hhi
      by_cases hlt : k < ls.length
      · have d : decide ((k : Int) < (ls.length : Int)) = true := decide_eq_true (by omega)
        have dn : decide (k < ls.length) = true := decide_eq_true hlt
        obtain ⟨b, o, A', c', rfl, hcell, q1, q2, q3, q4⟩ := HRK.out.at_ hlt
        have HV : Hid (Bs wr lo hi (.slice A' ls[k].length c') ls[k]) := ⟨A', c', rfl, q1, q2, q3, q4⟩
        obtain ⟨G, hG⟩ : ∃ G, G = (ls.take k).foldl addK (List.replicate N 0) := ⟨_, rfl⟩
        have hGN : G.length = N := by rw [hG, addKs_length, HF0.out]
        have HOG : Hid (Own w.heap.size G (.slice (some ⟨w.heap.size, 0, none⟩) G.length N) wr) := by rw [hGN, hG]; exact HOK.out
        have hgl : w.heap.size < wr.heap.size := by have := hown_lt HOG.out (by have := HZ.out; omega); exact this
        have HSET := Lib.hid (set_any wr w.heap.size w.heap.size N G HOG.out (Nat.le_refl _) hgl (by rw [hG]; exact addKs_lt (zeros_lt _)) (by have := HZ.out; omega) (by have := HZ2.out; omega) _ lo hi ls[k] HV.out (by omega) (HL.out _ (List.getElem_mem hlt)))
        rw [hGN] at HSET
        have HNX : Hid ((ls.take (k + 1)).foldl addK (List.replicate N 0) = addK G ls[k]) := by rw [hG]; exact mk_take ls _ hlt
        clear q1 q2 q3 q4 hG hGN hgl
        go_wp2_with fail
        refine Calls.mono HSET.out ?_
        rintro e w3 ⟨rfl, ho, hb⟩
        have HO3 := Lib.hid ho
        have HX3 : Hid (Ext w w3) := hb w HXK.out
        clear ho hb
        go_wp2_with fail
        go_roundw
        case rel => exact ⟨k + 1, by omega, by go_num, by rw [HNX.out]; exact HO3, HX3⟩
        case measure => simp [intOf]; omega
      · have d : decide ((k : Int) < (ls.length : Int)) = false := decide_eq_false (by omega)
        have dn : decide (k < ls.length) = false := decide_eq_false hlt
        obtain rfl : k = ls.length := by omega
        go_wp2_with fail
        go_ret2
        refine ⟨HXK.out, .inr ⟨by have := HBIG.out; omega, w.heap.size, N, by rw [HN.out]; rfl, ?_⟩⟩
        have e := HOK.out
        rw [List.take_length] at e
        unfold mk
        rw [← HN.out]
        exact e

/-- What Add answers. -/
def AddAns (w : World) (F l : List Nat) (e : Ending) (w' : World) : Prop :=
  Ext w w' ∧ ((okF F.length = false ∧ e = .returned (.tuple #[.slice none 0 0, .int .i64 4])) ∨ (okF F.length = true ∧ ∃ g c, e = .returned (.tuple #[.slice (some ⟨g, 0, none⟩) F.length c, .int .i64 0]) ∧ Own w.heap.size (addK F l) (.slice (some ⟨g, 0, none⟩) F.length c) w'))
theorem okF_iff {n : Nat} : okF n = true ↔ n ≠ 0 ∧ n % 8 = 0 ∧ n ≤ 131072 := by unfold okF; exact decide_eq_true_iff
set_option maxRecDepth 100000 in
set_option maxHeartbeats 4000000 in
theorem add_any {u v : Value} {lo hi lo2 hi2 : Nat} {F l : List Nat} {w : World} (hu : Bs w lo hi u F) (hhi : hi ≤ w.heap.size) (hF : ∀ x ∈ F, x < 256) (hv : Bs w lo2 hi2 v l) (hhi2 : hi2 ≤ w.heap.size) (hl : ∀ x ∈ l, x < 256) :
    Calls Try.prog 25 #[u, v] w (AddAns w F l) := by
  have HU := Lib.hid hu
  have HV := Lib.hid hv
  have HF := Lib.hid hF
  have HL := Lib.hid hl
  obtain ⟨A, c, rfl, q1, q2, _, _⟩ := hu
  have HC := Lib.hid (check_any (w := w) (A := A) (n := F.length) (c := c) (by unfold maxLen at q2; omega))
  clear q1 q2 hv hF hl
  cases hok : okF F.length with
  | false =>
    have HOK := Lib.hid hok
    have e4 : chk F.length = 4 := by unfold chk; rw [hok]; rfl
    rw [e4] at HC
    clear hok e4
    go_enter Try.func25, Try.ntmps25
    go_wp2_with fail
    refine Calls.mono HC.out ?_
    rintro e w2 ⟨rfl, rfl⟩
    go_wp2_with fail
    go_ret2
    exact ⟨Ext.refl _, .inl ⟨HOK.out, rfl⟩⟩
  | true =>
    have HOK := Lib.hid hok
    have e4 : chk F.length = 0 := by unfold chk; rw [hok]; rfl
    obtain ⟨n0, _, n1⟩ := okF_iff.1 hok
    rw [e4] at HC
    clear hok e4
    have HN0 : Hid (0 < F.length) := Nat.pos_of_ne_zero n0
    have HN1 := Lib.hid n1
    clear n0 n1
    go_enter Try.func25, Try.ntmps25
    go_wp2_with fail
    refine Calls.mono HC.out ?_
    rintro e w2 ⟨rfl, rfl⟩
    go_wp2_with fail
    refine (clone_any _ lo hi F w HU.out hhi (by have := HN1.out; omega)).mono ?_
    rintro e w3 ⟨v3, rfl, ho, hb⟩
    have ho' : Own w.heap.size F v3 w3 := ho
    obtain ⟨g, c3, rfl, hg1, hg2, _⟩ := ho'.block HN0.out
    have HO3 := Lib.hid ho'
    have HX3 : Hid (Ext w w3) := hb
    clear ho ho' hb
    go_wp2_with fail
    refine (set_any w3 w.heap.size g c3 F HO3.out hg1 hg2 HF.out HN0.out HN1.out v lo2 hi2 l (HV.out.below HX3.out hhi2) (Nat.le_trans hhi2 HX3.out.size) HL.out).mono ?_
    rintro e w4 ⟨rfl, ho, hb⟩
    have HO4 := Lib.hid ho
    have HX4 : Hid (Ext w w4) := hb w HX3.out
    clear ho hb
    go_wp2_with fail
    go_ret2
    exact ⟨HX4.out, .inr ⟨HOK.out, g, c3, rfl, HO4.out⟩⟩
end Go.Proofs.Ytdoieknjhdehmaa
