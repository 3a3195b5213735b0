/- Lists of numbers: wire.Take and wire.Put at uint64. -/
import Derived.Test.YtdggemdgndiafaaWyes
namespace Go.Proofs.Ytdggemdgndiafaa
open Go.ChangeShapes Go.WideShapes Go.ChangeAt Go.RowKit

/-- Numbers that stand here one behind the other. -/
def AllNum : List Nat → List Nat → List Nat → Prop
  | l, [], rest => l = rest
  | l, x :: xs, rest => ∃ mid, Begins l x mid ∧ AllNum mid xs rest
theorem AllNum.snoc : ∀ {xs l mid : List Nat} {x : Nat} {rest : List Nat}, AllNum l xs mid → Begins mid x rest → AllNum l (xs ++ [x]) rest
  | [], l, mid, x, rest, h, hb => by
    have : l = mid := h
    subst this
    exact ⟨rest, hb, rfl⟩
  | y :: ys, l, mid, x, rest, ⟨m, h1, h2⟩, hb => ⟨m, h1, AllNum.snoc h2 hb⟩
theorem AllNum.len : ∀ {xs l rest : List Nat}, AllNum l xs rest → xs.length + rest.length ≤ l.length
  | [], l, rest, h => by
    have : l = rest := h
    subst this
    simp
  | x :: xs, l, rest, ⟨m, h1, h2⟩ => by
    have := AllNum.len h2
    have h3 := congrArg List.length h1.eq
    have h4 : 0 < (form x).length := by
      by_cases h : x < 128
      · rw [form_lo h]; simp
      · rw [form_hi h]; simp
    simp at h3
    simp only [List.length_cons]
    omega

def uv (l : List Nat) : List Value := l.map fun n : Nat => Value.int .u64 (n : Int)
theorem t22info : (Try.prog.info? 22).map (fun i => (i.zero, i.size, i.bytes)) = some (some (.int .u64 0), 1, 8) := by kernel_rfl

/-- A list that stands here, in new memory from block B on. -/
def OkList (B : Nat) (most : Int) (l : List Nat) (v : Value) (rest : List Nat) (w : World) : Prop :=
  ∃ xs mid : List Nat, Begins l xs.length mid ∧ (xs.length : Int) ≤ most ∧ AllNum mid xs rest ∧ w.ownsRow B 22 1 v xs.length (uv xs)
def ErrList (most : Int) (l : List Nat) (n : Int) : Prop := ErrCount most l n ∨ (n = 4 ∧ ∃ m mid, Begins l m mid ∧ (m : Int) ≤ most ∧ ∃ xs rest, xs.length < m ∧ AllNum mid xs rest ∧ NoNum rest)

theorem holds_list (B : Nat) (most : Int) (l : List Nat) (B' : Nat) (h : B' ≤ B) : Holds2 (OkList B most l) B' := by
  rintro v rest w b o u ⟨xs, mid, h1, h2, h3, h4⟩ hb
  exact ⟨xs, mid, h1, h2, h3, ownsRow_setCell_below h4 (by simpa using Nat.lt_of_lt_of_le hb h) u⟩

theorem own_grown {w w' : World} {B : Nat} {e : TypeId} {v : Value} {n : Nat} {xs : List Value} {r : Nat} (h : w.ownsRow B e 1 v n xs) (hg : w.grownBy w' (some r)) (hr : r < B) : w'.ownsRow B e 1 v n xs := by
  refine h.kept hg ?_
  cases hb : v.ownBlock with
  | none => exact .inl rfl
  | some k =>
    right
    have := (h.lt k hb).1
    intro he
    injection he with he
    omega

theorem grownBy_trans {a b c : World} {r : Nat} (h : a.grownBy b (some r)) (k : b.grownBy c (some r)) : a.grownBy c (some r) :=
  ⟨k.os.trans h.os, k.tape.trans h.tape, k.output.trans h.output, Nat.le_trans h.size k.size, fun i hi hne => (k.block i (Nat.lt_of_lt_of_le hi h.size) hne).trans (h.block i hi hne)⟩
theorem grownBy_below {a b c : World} {r : Nat} (h : a.grownBy b (some r)) (k : Below a.heap.size b c) : a.grownBy c (some r) :=
  ⟨k.os.trans h.os, k.tape.trans h.tape, k.output.trans h.output, Nat.le_trans h.size k.size, fun i hi hne => (k.block i hi).trans (h.block i hi hne)⟩

set_option maxHeartbeats 2000000 in
theorem things_u64 (most : Int) (hm1 : -9223372036854775808 ≤ most) (hm2 : most ≤ 9223372036854775807) (r lo hi : Nat) (l : List Nat) (w : World) (h : Rd w r lo hi l) (hl : l.length ≤ 1000000000000) :
    Calls Try.prog 63 #[.pointer (some ⟨r, 0, none⟩), .int .i64 most, .func (.func 16) #[] #[]] w (LoosePost (OkList w.heap.size most l) (ErrList most l) w r lo hi) := by
  obtain ⟨i0, hi0, hz0, hz1, hz2⟩ := info_parts t22info
  have HI := Lib.hid hi0
  have HC := Lib.hid (count_loose most hm1 hm2 r lo hi l w h)
  have HL := Lib.hid hl
  have HR0 := Lib.hid h
  clear h hm1 hm2 hl hi0
  go_enter Try.func63, Try.ntmps63
  go_wp2_with fail
  refine Calls.mono HC.out ?_
  rintro e w1 (⟨v, mid, ⟨n, hb, hle, rfl⟩, rfl, hr, hg⟩ | ⟨v, n, hn, hn0, rfl, hg⟩)
  · have hlr : mid.length ≤ l.length := by have := congrArg List.length hb.eq; simp at this; omega
    have HB := Lib.hid hb
    have HLE := Lib.hid hle
    have HML := Lib.hid hlr
    have HR1 := Lib.hid hr
    have HG1 := Lib.hid hg
    clear hb hle hlr hr hg
    go_wp2_with fail
    go_loopw [10, 11, 12, 23] (fun v _ _ i wr => ∃ (xs rest : List Nat), xs.length ≤ n ∧ i = .int .u64 (xs.length : Int) ∧ AllNum mid xs rest ∧ Rd wr r lo hi rest ∧ wr.ownsRow w.heap.size 22 1 v xs.length (uv xs) ∧ w.grownBy wr (some r)) (fun _ _ _ i _ => n - (intOf i).toNat)
    case atStart => exact ⟨[], mid, Nat.zero_le _, rfl, rfl, HR1.out, World.ownsRow_nil _ _ _ _, HG1.out⟩
    case round =>
      obtain ⟨xs, rest, hk, rfl, hall, hrd, hown, hg⟩ := hrel
      have HRD := Lib.hid hrd
      have HO := Lib.hid hown
      have HG := Lib.hid hg
      have HA := Lib.hid hall
      clear hrd hown hg hall
      by_cases hlt : xs.length < n
      · have hd : decide (xs.length < n) = true := by simp [hlt]
        have hd2 : decide ((xs.length : Int) < (n : Int)) = true := by simp; omega
        by_cases hex : ∃ x rest', Begins rest x rest'
        · obtain ⟨x, rest', hbx⟩ := hex
          have HX := Lib.hid hbx
          clear hbx
          go_wp2_with fail
          refine (Number_yes HRD.out HX.out).mono ?_
          rintro e w2 ⟨rfl, hrd2, hg2⟩
          have HRD2 := Lib.hid hrd2
          have HG2 := Lib.hid (grownBy_trans HG.out hg2)
          have hown2 := own_grown HO.out hg2 HR0.out.lt
          have hz2' : w.heap.size ≤ w2.heap.size := HG2.out.size
          have HALL := Lib.hid (HA.out.snoc HX.out)
          have HLEN := Lib.hid (show xs.length + 1 ≤ 1000000000000 by
            have := HALL.out.len; have h2 := HML.out; have h3 := HL.out; simp at this; omega)
          have hI : (xs.length : Int) + 1 ≤ 18446744073709551615 := by have := HLEN.out; omega
          clear hrd2 hg2
          go_wp2_with (at_builtin; refine wpList_push rfl (.tmp 34) (.tmp 36) 54 rfl w.heap.size 22 i0 (.int .u64 0) 8 Try.underlying54 HI.out hz0 hz1 hz2 rfl _ _ _ rfl hown2 _ rfl rfl ?c3 ?c4 hz2' ?_)
          case c3 => have := HLEN.out; unfold maxLen; omega
          case c4 => have := HLEN.out; omega
          intro v3 w3 hown3 hb3
          have HB3 := Lib.hid (hb3 _ (Below.refl _ _))
          have hown4 : w3.ownsRow w.heap.size 22 1 v3 (xs ++ [x]).length (uv (xs ++ [x])) := by simpa [uv] using hown3
          have HO4 := Lib.hid hown4
          clear hown3 hown2 hown4 hb3
          go_wp2_with fail
          refine ⟨⟨xs ++ [x], rest', by simp; omega, by simp, HALL.out, HRD2.out.below HB3.out HR0.out.top HR0.out.lt, HO4.out, grownBy_below HG2.out HB3.out⟩, by simp [intOf]; omega⟩
        · have hno : NoNum rest := fun x rest' h => hex ⟨x, rest', h⟩
          have HNO := Lib.hid hno
          clear hex hno
          go_wp2_with fail
          refine (Number_no HRD.out HNO.out).mono ?_
          rintro e w2 ⟨rfl, _, hg2⟩
          have HF : Hid (LoosePost (OkList w.heap.size most l) (ErrList most l) w r lo hi (.returned (.tuple #[.slice none 0 0, .int .i64 4])) w2) :=
            .inr ⟨_, 4, .inr ⟨rfl, n, mid, HB.out, HLE.out, xs, rest, hlt, HA.out, HNO.out⟩, by decide, rfl, grownBy_trans HG.out hg2⟩
          clear hg2
          go_wp2_with fail
          go_ret2
          exact HF.out
      · have hd : decide (xs.length < n) = false := by simp; omega
        have hd2 : decide ((xs.length : Int) < (n : Int)) = false := by simp; omega
        have hn : n = xs.length := by omega
        have HF : Hid (LoosePost (OkList w.heap.size most l) (ErrList most l) w r lo hi (.returned (.tuple #[u10, .int .i64 0])) wr) :=
          .inl ⟨_, rest, ⟨xs, mid, by rw [← hn]; exact HB.out, by rw [← hn]; exact HLE.out, HA.out, HO.out⟩, rfl, HRD.out, HG.out⟩
        clear hn hlt
        go_wp2_with fail
        go_ret2
        exact HF.out
  · have HF : Hid (LoosePost (OkList w.heap.size most l) (ErrList most l) w r lo hi (.returned (.tuple #[.slice none 0 0, .int .i64 n])) w1) := .inr ⟨_, n, .inl hn, hn0, rfl, hg⟩
    have hn0' : (n != 0) = true := by simpa using hn0
    clear hn hg hn0
    go_wp2_with fail
    go_ret2
    exact HF.out

set_option maxHeartbeats 400000 in
theorem take_clo (p q : Nat) (most : Int) (hm1 : -9223372036854775808 ≤ most) (hm2 : most ≤ 9223372036854775807) (r lo hi : Nat) (l : List Nat) (w : World) (h : Rd w r lo hi l) (hl : l.length ≤ 1000000000000)
    (hp : w.cell? ⟨p, 0, none⟩ = some (.int .i64 most)) (hq : w.cell? ⟨q, 0, none⟩ = some (.func (.func 16) #[] #[])) :
    Calls Try.prog 62 #[.pointer (some ⟨r, 0, none⟩), .pointer (some ⟨p, 0, none⟩), .pointer (some ⟨q, 0, none⟩)] w (LoosePost (OkList w.heap.size most l) (ErrList most l) w r lo hi) := by
  have HC := Lib.hid (things_u64 most hm1 hm2 r lo hi l w h hl)
  clear h hl hm1 hm2
  go_enter Try.func62, Try.ntmps62
  go_wp2_with fail
  refine Calls.mono HC.out ?_
  rintro e w1 (⟨v1, rest, hv, rfl, hrd, hg⟩ | ⟨v1, n, hn, hn0, rfl, hg⟩)
  · have HF : Hid (LoosePost (OkList w.heap.size most l) (ErrList most l) w r lo hi (.returned (.tuple #[v1, .int .i64 0])) w1) := .inl ⟨v1, rest, hv, rfl, hrd, hg⟩
    clear hv hrd hg
    go_wp2_with fail
    go_ret2
    exact HF.out
  · have HF : Hid (LoosePost (OkList w.heap.size most l) (ErrList most l) w r lo hi (.returned (.tuple #[v1, .int .i64 n])) w1) := .inr ⟨v1, n, hn, hn0, rfl, hg⟩
    clear hn hn0 hg
    go_wp2_with fail
    go_ret2
    exact HF.out

theorem fnil (w : World) : (binOp .eql 64 (.func (.func 16) #[] #[]) .nilFunc).run Try.prog w = .ok (.bool false) w := by kernel_rfl

set_option maxHeartbeats 400000 in
theorem Take_any (most : Int) (hm1 : -9223372036854775808 ≤ most) (hm2 : most ≤ 9223372036854775807) (r lo hi : Nat) (l : List Nat) (w : World) (h : Rd w r lo hi l) (hl : l.length ≤ 1000000000000) :
    Calls Try.prog 32 #[.pointer (some ⟨r, 0, none⟩), .int .i64 most, .func (.func 16) #[] #[]] w (WholePost (.slice none 0 0) (OkList w.heap.size most l) (ErrList most l) w r lo hi l) := by
  have hmf := mkf
  have hfn := fnil
  have HC := Lib.hid (whole_u64s w.heap.size (w.heap.size + 1) (OkList (w.heap.size + 4) most l) (ErrList most l) r lo hi l ((w.alloc (.cells #[.int .i64 most] 3)).alloc (.cells #[.func (.func 16) #[] #[]] 64)) ((h.alloc _).alloc _)
    (holds_list _ _ _ _ (by simp)) (fun v hv => by
      have hc := take_clo w.heap.size (w.heap.size + 1) most hm1 hm2 _ lo hi l _ hv hl
        (by rw [World.cell?_alloc_past _ _ _ (by simp; omega), World.cell?_alloc_past _ _ _ (by simp; omega), World.cell?_alloc_past _ _ _ (by simp), World.cell?_alloc_at _ _ _ _ rfl]; rfl)
        (by rw [World.cell?_alloc_past _ _ _ (by simp), World.cell?_alloc_past _ _ _ (by simp), World.cell?_alloc_at _ _ _ _ (by simp)]; rfl)
      simpa using hc))
  clear h hm1 hm2 hl
  go_enter Try.func32, Try.ntmps32
  go_wp2_with fail
  refine Calls.mono HC.out ?_
  intro e w1 hpost
  have hpost := WholePost.weaken (ok' := OkList w.heap.size most l) (err' := ErrList most l) (w := w)
    (fun v rest w' => by rintro ⟨xs, mid, h1, h2, h3, h4⟩; exact ⟨xs, mid, h1, h2, h3, own_lower h4 (by omega)⟩) (fun _ h => h) (fun w' hg => grown_alloc (grown_alloc hg)) hpost
  have HP := Lib.hid hpost
  rcases hpost with ⟨v1, rest, _, rfl, _, _⟩ | ⟨n, _, _, rfl, _, _⟩
  · go_wp2_with fail
    go_ret2
    exact HP.out
  · go_wp2_with fail
    go_ret2
    exact HP.out

/-- The form of a list of numbers. -/
def listForm (xs : List Nat) : List Nat := form xs.length ++ (xs.map form).flatten

theorem allnum_forms : ∀ (xs rest : List Nat), (∀ x ∈ xs, U64 x) → AllNum ((xs.map form).flatten ++ rest) xs rest
  | [], rest, _ => by simp [AllNum]
  | x :: xs, rest, h => ⟨(xs.map form).flatten ++ rest, ⟨h x (by simp), by simp⟩, allnum_forms xs rest fun y hy => h y (by simp [hy])⟩
theorem AllNum.forms : ∀ {xs l rest : List Nat}, AllNum l xs rest → l = (xs.map form).flatten ++ rest ∧ ∀ x ∈ xs, U64 x
  | [], l, rest, h => ⟨by simpa using (show l = rest from h), by simp⟩
  | x :: xs, l, rest, ⟨m, h1, h2⟩ => by
    obtain ⟨h3, h4⟩ := AllNum.forms h2
    refine ⟨by rw [h1.eq, h3]; simp, fun y hy => ?_⟩
    rcases List.mem_cons.1 hy with rfl | hy
    · exact h1.n64
    · exact h4 y hy
end Go.Proofs.Ytdggemdgndiafaa
