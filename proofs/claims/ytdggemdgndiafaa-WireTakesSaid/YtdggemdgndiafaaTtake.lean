/- wire.Take and wire.Put at [2]uint64. -/
import Derived.Test.YtdggemdgndiafaaTlist
namespace Go.Proofs.Ytdggemdgndiafaa
open Go.ChangeShapes Go.WideShapes Go.ChangeAt Go.RowKit

theorem own_lower2 {w : World} {B B' : Nat} {e : TypeId} {v : Value} {n : Nat} {xs : List Value} (h : w.ownsRow B e 2 v n xs) (hb : B' ≤ B) : w.ownsRow B' e 2 v n xs := by
  refine ⟨h.1, ?_⟩
  rcases h.2 with h0 | ⟨g, cap, cur, h1, h2, h3⟩
  · exact .inl h0
  · exact .inr ⟨g, cap, cur, h1, Nat.le_trans hb h2, h3⟩

set_option maxHeartbeats 400000 in
theorem take_clo2 (p q : Nat) (most : Int) (hm1 : -9223372036854775808 ≤ most) (hm2 : most ≤ 9223372036854775807) (r lo hi : Nat) (l : List Nat) (w : World) (h : Rd w r lo hi l) (hl : l.length ≤ 1000000000)
    (hp : w.cell? ⟨p, 0, none⟩ = some (.int .i64 most)) (hq : w.cell? ⟨q, 0, none⟩ = some (.func (.func 38) #[] #[])) :
    Calls Try.prog 65 #[.pointer (some ⟨r, 0, none⟩), .pointer (some ⟨p, 0, none⟩), .pointer (some ⟨q, 0, none⟩)] w (LoosePost (OkPairs w.heap.size most l) (ErrPairs most l) w r lo hi) := by
  have HC := Lib.hid (things_pairs most hm1 hm2 r lo hi l w h hl)
  clear h hl hm1 hm2
  go_enter Try.func65, Try.ntmps65
  go_wp2_with fail
  refine Calls.mono HC.out ?_
  rintro e w1 (⟨v1, rest, hv, rfl, hrd, hg⟩ | ⟨v1, n, hn, hn0, rfl, hg⟩)
  · have HF : Hid (LoosePost (OkPairs w.heap.size most l) (ErrPairs most l) w r lo hi (.returned (.tuple #[v1, .int .i64 0])) w1) := .inl ⟨v1, rest, hv, rfl, hrd, hg⟩
    clear hv hrd hg
    go_wp2_with fail
    go_ret2
    exact HF.out
  · have HF : Hid (LoosePost (OkPairs w.heap.size most l) (ErrPairs most l) w r lo hi (.returned (.tuple #[v1, .int .i64 n])) w1) := .inr ⟨v1, n, hn, hn0, rfl, hg⟩
    clear hn hn0 hg
    go_wp2_with fail
    go_ret2
    exact HF.out

theorem fnilp (w : World) : (binOp .eql 74 (.func (.func 38) #[] #[]) .nilFunc).run Try.prog w = .ok (.bool false) w := by kernel_rfl

set_option maxHeartbeats 400000 in
theorem TakeTwo_any (most : Int) (hm1 : -9223372036854775808 ≤ most) (hm2 : most ≤ 9223372036854775807) (r lo hi : Nat) (l : List Nat) (w : World) (h : Rd w r lo hi l) (hl : l.length ≤ 1000000000) :
    Calls Try.prog 37 #[.pointer (some ⟨r, 0, none⟩), .int .i64 most, .func (.func 38) #[] #[]] w (WholePost (.slice none 0 0) (OkPairs w.heap.size most l) (ErrPairs most l) w r lo hi l) := by
  have hmf := mkf
  have hfn := fnilp
  have HC := Lib.hid (whole_pairs w.heap.size (w.heap.size + 1) (OkPairs (w.heap.size + 4) most l) (ErrPairs most l) r lo hi l ((w.alloc (.cells #[.int .i64 most] 3)).alloc (.cells #[.func (.func 38) #[] #[]] 74)) ((h.alloc _).alloc _)
    (holds_pairs _ _ _ _ (by simp)) (fun v hv => by
      have hc := take_clo2 w.heap.size (w.heap.size + 1) most hm1 hm2 _ lo hi l _ hv hl
        (by rw [World.cell?_alloc_past _ _ _ (by simp; omega), World.cell?_alloc_past _ _ _ (by simp; omega), World.cell?_alloc_past _ _ _ (by simp), World.cell?_alloc_at _ _ _ _ rfl]; rfl)
        (by rw [World.cell?_alloc_past _ _ _ (by simp), World.cell?_alloc_past _ _ _ (by simp), World.cell?_alloc_at _ _ _ _ (by simp)]; rfl)
      simpa using hc))
  clear h hm1 hm2 hl
  go_enter Try.func37, Try.ntmps37
  go_wp2_with fail
  refine Calls.mono HC.out ?_
  intro e w1 hpost
  have hpost := WholePost.weaken (ok' := OkPairs w.heap.size most l) (err' := ErrPairs most l) (w := w)
    (fun v rest w' => by rintro ⟨xs, mid, h1, h2, h3, h4⟩; exact ⟨xs, mid, h1, h2, h3, own_lower2 h4 (by omega)⟩) (fun _ h => h) (fun w' hg => grown_alloc (grown_alloc hg)) hpost
  have HP := Lib.hid hpost
  rcases hpost with ⟨v1, rest, _, rfl, _, _⟩ | ⟨n, _, _, rfl, _, _⟩
  · go_wp2_with fail
    go_ret2
    exact HP.out
  · go_wp2_with fail
    go_ret2
    exact HP.out

/-- The form of two numbers; of a list of them. -/
def form2 (p : Nat × Nat) : List Nat := form p.1 ++ form p.2
def fl2 (xs : List (Nat × Nat)) (k : Nat) : List Nat := ((xs.take k).map form2).flatten
theorem fl2_zero (xs : List (Nat × Nat)) : fl2 xs 0 = [] := by simp [fl2]
theorem fl2_succ (xs : List (Nat × Nat)) {k : Nat} (h : k < xs.length) : fl2 xs (k + 1) = fl2 xs k ++ form2 xs[k] := by
  have := flat_take_succ (xs.map form2) (k := k) (by simpa using h)
  simpa [fl2, List.map_take] using this
def Two64 (xs : List (Nat × Nat)) : Prop := ∀ x ∈ xs, U64 x.1 ∧ U64 x.2
theorem fl2_len (xs : List (Nat × Nat)) (hU : Two64 xs) : ∀ k, k ≤ xs.length → (fl2 xs k).length ≤ 20 * k
  | 0, _ => by simp [fl2]
  | k + 1, h => by
    have h1 := fl2_len xs hU k (by omega)
    have h2 := hU xs[k] (List.getElem_mem (by omega))
    have h3 := form_len64 h2.1
    have h4 := form_len64 h2.2
    rw [fl2_succ xs (by omega)]
    simp [form2]
    omega
def pre2 (xs : List (Nat × Nat)) (k : Nat) : List Nat := form xs.length ++ fl2 xs k
def pairsForm (xs : List (Nat × Nat)) : List Nat := form xs.length ++ (xs.map form2).flatten
theorem pre2_zero (xs : List (Nat × Nat)) : pre2 xs 0 = form xs.length := by simp [pre2, fl2_zero]
theorem pre2_succ (xs : List (Nat × Nat)) {k : Nat} (h : k < xs.length) : pre2 xs (k + 1) = pre2 xs k ++ form2 xs[k] := by
  simp [pre2, fl2_succ xs h]
theorem pre2_all (xs : List (Nat × Nat)) : pre2 xs xs.length = pairsForm xs := by simp [pre2, pairsForm, fl2]
theorem pre2_len (xs : List (Nat × Nat)) (hU : Two64 xs) (hl : xs.length ≤ 3000) {k : Nat} (h : k ≤ xs.length) : (pre2 xs k).length ≤ 70000 := by
  have h1 := fl2_len xs hU k h
  have h2 := form_len64 (n := xs.length) ⟨by omega⟩
  simp [pre2]
  omega
theorem fnil2p (w : World) : (binOp .eql 71 (.func (.func 36) #[] #[]) .nilFunc).run Try.prog w = .ok (.bool false) w := by kernel_rfl
theorem uv2_get : ∀ (xs : List (Nat × Nat)) {k j : Nat} (hk : k < xs.length), j < 2 → (uv2 xs)[k * 2 + j]? = ([Value.int .u64 (xs[k].1 : Int), .int .u64 (xs[k].2 : Int)])[j]?
  | [], _, _, hk, _ => by simp at hk
  | t :: ts, 0, j, _, hj => by
    unfold uv2
    rw [List.flatMap_cons, List.getElem?_append_left (by simp; omega), Nat.zero_mul, Nat.zero_add]
    simp
  | t :: ts, k + 1, j, hk, hj => by
    have := uv2_get ts (k := k) (by simpa using hk) hj
    unfold uv2 at *
    rw [List.flatMap_cons, List.getElem?_append_right (by simp; omega), show (k + 1) * 2 + j - [Value.int .u64 (t.1 : Int), .int .u64 (t.2 : Int)].length = k * 2 + j by simp; omega, this]
    simp
theorem uv2_at {w : World} {lo hi : Nat} {A : Option Addr} {xs : List (Nat × Nat)} (h : Sl w lo hi A (uv2 xs)) {k : Nat} (hk : k < xs.length) :
    ∃ b o, A = some ⟨b, o, none⟩ ∧ w.cell? ⟨b, o + k * 2, none⟩ = some (.int .u64 (xs[k].1 : Int)) ∧ w.cell? ⟨b, o + k * 2 + 1, none⟩ = some (.int .u64 (xs[k].2 : Int)) := by
  have g0 := uv2_get xs hk (j := 0) (by omega)
  have g1 := uv2_get xs hk (j := 1) (by omega)
  rcases h with h0 | ⟨b, o, e, _, _, hc⟩
  · rw [h0] at g0; simp at g0
  · exact ⟨b, o, e, hc (k * 2) _ (by simpa using g0), by rw [Nat.add_assoc]; exact hc (k * 2 + 1) _ (by simpa using g1)⟩
end Go.Proofs.Ytdggemdgndiafaa
