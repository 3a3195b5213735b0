/- wire.things at [2]uint64. -/
import Derived.Test.YtdggemdgndiafaaTpair
namespace Go.Proofs.Ytdggemdgndiafaa
open Go.ChangeShapes Go.WideShapes Go.ChangeAt Go.RowKit

def AllTwo : List Nat → List (Nat × Nat) → List Nat → Prop
  | l, [], rest => l = rest
  | l, x :: xs, rest => ∃ mid, Begins2 l x mid ∧ AllTwo mid xs rest
theorem AllTwo.snoc : ∀ {xs : List (Nat × Nat)} {l mid : List Nat} {x : Nat × Nat} {rest : List Nat}, AllTwo l xs mid → Begins2 mid x rest → AllTwo l (xs ++ [x]) rest
  | [], l, mid, x, rest, h, hb => by
    have : l = mid := h
    subst this
    exact ⟨rest, hb, rfl⟩
  | y :: ys, l, mid, x, rest, ⟨m, h1, h2⟩, hb => ⟨m, h1, AllTwo.snoc h2 hb⟩
theorem Begins2.len {l rest : List Nat} {x : Nat × Nat} (h : Begins2 l x rest) : 1 + rest.length ≤ l.length := by
  obtain ⟨mid, h1, h2⟩ := h
  have a := congrArg List.length h1.eq
  have b := congrArg List.length h2.eq
  have c := List.length_pos_iff.2 (form_ne x.1)
  simp at a b
  omega
theorem AllTwo.len : ∀ {xs : List (Nat × Nat)} {l rest : List Nat}, AllTwo l xs rest → xs.length + rest.length ≤ l.length
  | [], l, rest, h => by have : l = rest := h; subst this; simp
  | x :: xs, l, rest, ⟨m, h1, h2⟩ => by have := h1.len; have := AllTwo.len h2; simp; omega
def uv2 (xs : List (Nat × Nat)) : List Value := xs.flatMap fun p => [.int .u64 (p.1 : Int), .int .u64 (p.2 : Int)]
theorem uv2_snoc (xs : List (Nat × Nat)) (x : Nat × Nat) : uv2 (xs ++ [x]) = uv2 xs ++ [.int .u64 (x.1 : Int), .int .u64 (x.2 : Int)] := by simp [uv2]
theorem t70info : (Try.prog.info? 70).map (fun i => (i.zero, i.size, i.bytes)) = some (some (.agg #[.int .u64 0, .int .u64 0]), 2, 16) := by kernel_rfl

theorem own_grown2 {w w' : World} {B : Nat} {e : TypeId} {v : Value} {n : Nat} {xs : List Value} {r : Nat} (h : w.ownsRow B e 2 v n xs) (hg : w.grownBy w' (some r)) (hr : r < B) : w'.ownsRow B e 2 v n xs := by
  refine h.kept hg ?_
  cases hb : v.ownBlock with
  | none => exact .inl rfl
  | some k =>
    right
    have := (h.lt k hb).1
    intro he
    injection he with he
    omega
theorem own_below2 {w w' : World} {B : Nat} {e : TypeId} {v : Value} {n : Nat} {xs : List Value} (h : w.ownsRow B e 2 v n xs) (hb : Below w.heap.size w w') : w'.ownsRow B e 2 v n xs :=
  h.kept (row := none) ⟨hb.os, hb.tape, hb.output, hb.size, fun i hi _ => hb.block i hi⟩ (by cases v.ownBlock <;> simp)

/-- append of one thing of two cells. -/
theorem wpList_push2 {P : Program} {ops : Array Oper} {rest : List Oper} {o : Oper} {a : Act} {Q : Exit → Act → World → Prop} {wr : World} (hgd : o.guard = none) (s x : Operand) (t : TypeId)
    (ho : o.op = .call { callee := .builtin .append, args := #[s, x], argTypes := #[t, t] })
    (B : Nat) (e : TypeId) (i : TypeInfo) (z : Value) (bytes : Nat) (ht : P.underlying t = some (.slice e)) (hi : P.info? e = some i) (hz : i.zero = some z)
    (hsize : i.size = 2) (hby : i.bytes = bytes) (hzs : z.cells.size = 2)
    (v : Value) (n : Nat) (xs : List Value) (hs : a.eval s = v) (hown : wr.ownsRow B e 2 v n xs) (u1 u2 : Value) (hu1 : u1.oneCell' = true) (hu2 : u2.oneCell' = true)
    (g : Nat) (hx : a.eval x = .slice (some ⟨g, 0, none⟩) 1 1) (hg : g = wr.heap.size) (h63 : n + 1 ≤ maxLen) (hbytes : (n + 1) * bytes ≤ 140737488355328) (hB : B ≤ wr.heap.size)
    (h : ∀ v' w', w'.ownsRow B e 2 v' (n + 1) (xs ++ [u1, u2]) → (∀ w0, Below B w0 wr → Below B w0 w') → wpList P ops Q rest (a.put o.dst v') w') :
    wpList P ops Q (o :: rest) a (wr.alloc (.cells #[u1, u2] e)) := by
  subst hg
  refine wpList_append_own _ hgd s x t ho B e i z 2 bytes ht hi hz hsize hby hzs (by omega) v n xs hs (own_below2 hown ((Below.refl _ _).alloc (Nat.le_refl _) _)) ⟨wr.heap.size, 0, none⟩ 1 1 [u1, u2] hx rfl (fun j q hj => ?_) (fun q hq => ?_) h63 hbytes
    (Nat.le_trans hB (by simp)) (fun v' w' h2 h3 _ => h v' w' h2 fun w0 hb => ?_)
  · rw [addr_add, World.cell?_alloc_at _ _ _ _ rfl, ← hj, Nat.zero_add]
    simp
  · simp only [List.mem_cons, List.not_mem_nil, or_false] at hq
    rcases hq with rfl | rfl
    · exact hu1
    · exact hu2
  · exact (hb.alloc hB _).grown h3 (Nat.le_trans hB (by simp)) (fun k hk => (hown.lt k hk).1)

def OkPairs (B : Nat) (most : Int) (l : List Nat) (v : Value) (rest : List Nat) (w : World) : Prop :=
  ∃ (xs : List (Nat × Nat)) (mid : List Nat), Begins l xs.length mid ∧ (xs.length : Int) ≤ most ∧ AllTwo mid xs rest ∧ w.ownsRow B 70 2 v xs.length (uv2 xs)
def ErrPairs (most : Int) (l : List Nat) (n : Int) : Prop := ErrCount most l n ∨ (n = 4 ∧ ∃ m mid, Begins l m mid ∧ (m : Int) ≤ most ∧ ∃ (xs : List (Nat × Nat)) (rest : List Nat), xs.length < m ∧ AllTwo mid xs rest ∧ NoPair rest)
theorem own_set2 {w : World} {B : Nat} {e : TypeId} {v : Value} {n : Nat} {xs : List Value} {b o : Nat} {u : Value} (h : w.ownsRow B e 2 v n xs) (hb : b < B) : (w.setCell ⟨b, o, none⟩ u).ownsRow B e 2 v n xs := own_grown2 h (grownBy_set w b o u) hb
theorem holds_pairs (B : Nat) (most : Int) (l : List Nat) (B' : Nat) (h : B' ≤ B) : Holds2 (OkPairs B most l) B' := by
  rintro v rest w b o u ⟨xs, mid, h1, h2, h3, h4⟩ hb
  exact ⟨xs, mid, h1, h2, h3, own_set2 h4 (by omega)⟩

set_option maxHeartbeats 4000000 in
theorem things_pairs (most : Int) (hm1 : -9223372036854775808 ≤ most) (hm2 : most ≤ 9223372036854775807) (r lo hi : Nat) (l : List Nat) (w : World) (h : Rd w r lo hi l) (hl : l.length ≤ 1000000000) :
    Calls Try.prog 66 #[.pointer (some ⟨r, 0, none⟩), .int .i64 most, .func (.func 38) #[] #[]] w (LoosePost (OkPairs w.heap.size most l) (ErrPairs most l) w r lo hi) := by
  obtain ⟨i0, hi0, hz0, hz1, hz2⟩ := info_parts t70info
  have HI := Lib.hid hi0
  have HC := Lib.hid (count_loose most hm1 hm2 r lo hi l w h)
  have HL := Lib.hid hl
  have HR0 := Lib.hid h
  clear h hm1 hm2 hl hi0
  go_enter Try.func66, Try.ntmps66
  go_wp2_with fail
  refine Calls.mono HC.out ?_
  rintro e w1 (⟨v, mid, ⟨n, hb, hle, rfl⟩, rfl, hr, hg⟩ | ⟨v, n, hn, hn0, rfl, hg⟩)
  · have hlr : mid.length ≤ l.length := by have := congrArg List.length hb.eq; simp at this; omega
    have hn64 : n ≤ 18446744073709551615 := by have := hb.n64.lt; omega
    have HB := Lib.hid hb
    have HLE := Lib.hid hle
    have HML := Lib.hid hlr
    have HR1 := Lib.hid hr
    have HG1 := Lib.hid hg
    clear hb hle hlr hr hg
    go_wp2_with fail
    go_loopw [10, 11, 12, 23] (fun v _ _ i wr => ∃ (xs : List (Nat × Nat)) (rest : List Nat), xs.length ≤ n ∧ i = .int .u64 (xs.length : Int) ∧ AllTwo mid xs rest ∧ Rd wr r lo hi rest ∧ wr.ownsRow w.heap.size 70 2 v xs.length (uv2 xs) ∧ w.grownBy wr (some r)) (fun _ _ _ i _ => n - (intOf i).toNat)
    case atStart => exact ⟨[], mid, Nat.zero_le _, rfl, rfl, HR1.out, World.ownsRow_nil _ _ _ _, HG1.out⟩
    case round =>
      obtain ⟨xs, rest, hk, rfl, hall, hrd, hown, hg⟩ := hrel
      have HRD := Lib.hid hrd
      have HO := Lib.hid hown
      have HG := Lib.hid hg
      have HA := Lib.hid hall
      clear hrd hown hg hall
      by_cases hlt : xs.length < n
      · have hd : decide (xs.length < n) = true := by simp [hlt]
        have hd2 : decide ((xs.length : Int) < (n : Int)) = true := by simp; omega
        have HLT := Lib.hid hlt
        go_wp2_with fail
        refine (pair_any _ _ _ _ _ HRD.out).mono ?_
        rintro e w2 ⟨x, y, k, rfl, hg2, ⟨rfl, rest', hbx, hrd2⟩ | ⟨rfl, hno⟩⟩
        · have HRD2 := Lib.hid hrd2
          have HG2 := Lib.hid (grownBy_trans HG.out hg2)
          have hown2 := own_grown2 HO.out hg2 HR0.out.lt
          have hz2' : w.heap.size ≤ w2.heap.size := HG2.out.size
          have HALL := Lib.hid (HA.out.snoc hbx)
          have HLEN := Lib.hid (show xs.length + 1 ≤ 1000000000 by
            have := HALL.out.len; have h2 := HML.out; have h3 := HL.out; simp at this; omega)
          have hI : (xs.length : Int) + 1 ≤ 18446744073709551615 := by have := HLEN.out; omega
          have hown3 := own_below2 hown2 ((Below.refl _ _).alloc (Nat.le_refl _) (.cells #[.int .u64 (x : Int), .int .u64 (y : Int)] 70))
          have HO3 := Lib.hid hown3
          clear hrd2 hg2 hbx hown2 hown3
          go_wp2_with (at_builtin; refine wpList_push2 rfl (.tmp 34) (.tmp 36) 68 rfl w.heap.size 70 i0 (.agg #[.int .u64 0, .int .u64 0]) 16 Try.underlying68 HI.out hz0 hz1 hz2 rfl _ _ _ rfl HO3.out _ _ rfl rfl _ rfl ?c2 ?c3 ?c4 ?c5 ?_)
          case c2 => simp
          case c3 => have := HLEN.out; unfold maxLen; omega
          case c4 => have := HLEN.out; omega
          case c5 => simp; omega
          intro v3 w3 hown4 hb3
          have HB3 := Lib.hid (hb3 _ ((Below.refl _ _).alloc hz2' _))
          have HO4 : Hid (w3.ownsRow w.heap.size 70 2 v3 (xs ++ [(x, y)]).length (uv2 (xs ++ [(x, y)]))) := Lib.hid (by rw [uv2_snoc]; simpa using hown4)
          clear hown4 hb3
          go_wp2_with fail
          refine ⟨⟨xs ++ [(x, y)], rest', by simp; omega, by simp, HALL.out, HRD2.out.below HB3.out HR0.out.top HR0.out.lt, HO4.out, grownBy_below HG2.out HB3.out⟩, by simp [intOf]; omega⟩
        · have HF : Hid (LoosePost (OkPairs w.heap.size most l) (ErrPairs most l) w r lo hi (.returned (.tuple #[.slice none 0 0, .int .i64 4])) (w2.alloc (.cells #[.int .u64 (x : Int), .int .u64 (y : Int)] 70))) :=
            .inr ⟨_, 4, .inr ⟨rfl, n, mid, HB.out, HLE.out, xs, rest, hlt, HA.out, hno⟩, by decide, rfl, grownBy_below (grownBy_trans HG.out hg2) ((Below.refl _ _).alloc (grownBy_trans HG.out hg2).size _)⟩
          clear hg2 hno
          go_wp2_with fail
          go_ret2
          exact HF.out
      · have hd : decide (xs.length < n) = false := by simp; omega
        have hd2 : decide ((xs.length : Int) < (n : Int)) = false := by simp; omega
        have hn : n = xs.length := by omega
        have HF : Hid (LoosePost (OkPairs w.heap.size most l) (ErrPairs most l) w r lo hi (.returned (.tuple #[u10, .int .i64 0])) wr) :=
          .inl ⟨_, rest, ⟨xs, mid, by rw [← hn]; exact HB.out, by rw [← hn]; exact HLE.out, HA.out, HO.out⟩, rfl, HRD.out, HG.out⟩
        clear hn hlt
        go_wp2_with fail
        go_ret2
        exact HF.out
  · have HF : Hid (LoosePost (OkPairs w.heap.size most l) (ErrPairs most l) w r lo hi (.returned (.tuple #[.slice none 0 0, .int .i64 n])) w1) := .inr ⟨_, n, .inl hn, hn0, rfl, hg⟩
    have hn0' : (n != 0) = true := by simpa using hn0
    clear hn hg hn0
    go_wp2_with fail
    go_ret2
    exact HF.out
end Go.Proofs.Ytdggemdgndiafaa
