/- Plain Wnum Args Wrow Pread Wrd Wnumber Wwhole Wmeth Wtext Wbytes Wyes Iplain Flow Cflow, joined. -/
import Derived.Test.YtlnihaeeoolkhaaMa1
import Derived.WalkLawsBesides
import Derived.WalkSpells
import Derived.ProofKit
import Derived.Outline
import Derived.OpenShut
import Derived.ShutString
import Derived.ChangeOld
import Derived.Deep.Slices

/- Plain arithmetic of the forms of numbers: nothing of the program stands here. -/
namespace Go.Proofs.Ytlnihaeeoolkhaa

/-- The form of a number. -/
def form (n : Nat) : List Nat := if n < 128 then [n] else (n % 128 + 128) :: form (n / 128)
termination_by n
decreasing_by omega
theorem form_lo {n : Nat} (h : n < 128) : form n = [n] := by rw [form, if_pos h]
theorem form_hi {n : Nat} (h : ¬ n < 128) : form n = (n % 128 + 128) :: form (n / 128) := by rw [form, if_neg h]
theorem form_len (k : Nat) : ∀ n, n < 128 ^ (k + 1) → (form n).length ≤ k + 1 := by
  induction k with
  | zero => intro n h; rw [form_lo (by simpa using h)]; simp
  | succ k ih =>
    intro n h
    by_cases h0 : n < 128
    · rw [form_lo h0]; simp
    · rw [form_hi h0]
      have := ih (n / 128) (by rw [Nat.div_lt_iff_lt_mul (by omega)]; rw [Nat.pow_succ] at h; exact h)
      simp only [List.length_cons]; omega
theorem form_bytes (n : Nat) : ∀ b ∈ form n, b < 256 := by
  induction n using Nat.strongRecOn with
  | ind n ih =>
    by_cases h0 : n < 128
    · rw [form_lo h0]; intro b hb; simp at hb; omega
    · rw [form_hi h0]
      intro b hb
      rcases List.mem_cons.1 hb with rfl | hb
      · omega
      · exact ih (n / 128) (by omega) b hb
end Go.Proofs.Ytlnihaeeoolkhaa
namespace Go.Proofs.Ytlnihaeeoolkhaa
/-- A number of 64 bits (closed to the walk). -/
structure U64 (n : Nat) : Prop where
  lt : n < 18446744073709551616
theorem U64.div {n : Nat} (h : U64 n) (k : Nat) : U64 (n / k) := ⟨Nat.lt_of_le_of_lt (Nat.div_le_self _ _) h.lt⟩
theorem form_len64 {n : Nat} (h : U64 n) : (form n).length ≤ 10 := form_len 9 n (Nat.lt_of_lt_of_le h.lt (by decide))

/-- A signed number as one from 0 on: near 0 stays near 0. -/
def zz (n : Int) : Nat := if 0 ≤ n then (2 * n).toNat else (-2 * n - 1).toNat
theorem zz_pos {n : Int} (h : 0 ≤ n) : (zz n : Int) = n * 2 := by unfold zz; rw [if_pos h]; omega
theorem zz_neg {n : Int} (h : n < 0) : (zz n : Int) = -2 * n - 1 := by unfold zz; rw [if_neg (by omega)]; omega
theorem zz_64 {n : Int} (h1 : -9223372036854775808 ≤ n) (h2 : n ≤ 9223372036854775807) : U64 (zz n) := by
  constructor
  rcases Int.lt_or_le n 0 with h | h
  · have := zz_neg h; omega
  · have := zz_pos h; omega
theorem xor_ones (x : Nat) (h : x < 18446744073709551616) : x ^^^ 18446744073709551615 = 18446744073709551615 - x := by
  have h1 : ((BitVec.ofNat 64 x) ^^^ BitVec.allOnes 64).toNat = (~~~ (BitVec.ofNat 64 x)).toNat := by rw [BitVec.xor_allOnes]
  rw [BitVec.toNat_xor, BitVec.toNat_not, BitVec.toNat_allOnes, BitVec.toNat_ofNat] at h1
  have e : x % 2 ^ 64 = x := Nat.mod_eq_of_lt (by omega)
  rw [e] at h1
  simpa using h1

theorem flat_take_le (ls : List (List Nat)) (k : Nat) : (ls.take k).flatten.length ≤ ls.flatten.length := by
  have h := congrArg List.flatten (List.take_append_drop k ls)
  rw [List.flatten_append] at h
  have := congrArg List.length h
  simp only [List.length_append] at this
  omega
theorem flat_take_succ (ls : List (List Nat)) {k : Nat} (h : k < ls.length) : (ls.take (k + 1)).flatten = (ls.take k).flatten ++ ls[k] := by
  rw [List.take_succ_eq_append_getElem h, List.flatten_append]; simp
/-- How many bytes the first k rows have together. -/
def tot (ls : List (List Nat)) (k : Nat) : Nat := (ls.take k).flatten.length
theorem tot_zero (ls : List (List Nat)) : tot ls 0 = 0 := by simp [tot]
theorem tot_le (ls : List (List Nat)) (k : Nat) : tot ls k ≤ ls.flatten.length := flat_take_le ls k
theorem tot_succ (ls : List (List Nat)) {k : Nat} (h : k < ls.length) : tot ls (k + 1) = tot ls k + ls[k].length := by
  unfold tot; rw [flat_take_succ ls h, List.length_append]
theorem tot_all (ls : List (List Nat)) : tot ls ls.length = ls.flatten.length := by unfold tot; rw [List.take_length]
end Go.Proofs.Ytlnihaeeoolkhaa

/- The writers of wire: Number, Signed, Flag answer the forms, in new memory. -/
namespace Go.Proofs.Ytlnihaeeoolkhaa
open Go.ChangeShapes Go.WideShapes Go.ChangeAt Go.RowKit

theorem or128 (m : Nat) : bits .or .u8 ((m : Int) % 256) 128 = (m : Int) % 128 + 128 := by
  have h : ∀ x, x < 256 → x ||| 128 = x % 128 + 128 := by decide +kernel
  have h2 := u8_or_nat (m % 256) 128 (by omega) (by omega)
  rw [h _ (by omega)] at h2
  have e1 : ((m % 256 : Nat) : Int) = (m : Int) % 256 := by omega
  have e2 : ((m % 256 % 128 + 128 : Nat) : Int) = (m : Int) % 128 + 128 := by omega
  rw [e1, e2] at h2
  exact h2

theorem xor_pos (n : Int) (h0 : 0 ≤ n) (h1 : n ≤ 9223372036854775807) : bits BinOp.xor IntKind.u64 (n * 2) (n / 9223372036854775808) = (zz n : Int) := by
  have e : n / 9223372036854775808 = 0 := by omega
  rw [e, u64_xor (n * 2) 0 (by omega) (by omega) (by omega) (by omega), zz_pos h0]
  simp; omega

theorem xor_neg (n : Int) (h0 : n < 0) (h1 : -9223372036854775808 ≤ n) :
    bits BinOp.xor IntKind.u64 (IntKind.u64.wrap (IntKind.u64.wrap n * 2)) (IntKind.u64.wrap (n / 9223372036854775808)) = (zz n : Int) := by
  have e1 : IntKind.u64.wrap (IntKind.u64.wrap n * 2) = 18446744073709551616 + 2 * n := by rw [IntKind.wrap_u64, IntKind.wrap_u64]; omega
  have e2 : IntKind.u64.wrap (n / 9223372036854775808) = 18446744073709551615 := by rw [IntKind.wrap_u64]; omega
  rw [e1, e2, u64_xor _ _ (by omega) (by omega) (by omega) (by omega), zz_neg h0]
  have e3 : (18446744073709551615 : Int).toNat = 18446744073709551615 := rfl
  rw [e3, xor_ones _ (by omega)]
  omega

/-- The form of a flag. -/
def flagForm (b : Bool) : List Nat := if b then [1] else [0]

/-- A literal of one byte is the call's own row. -/
theorem own_lit (w : World) (n : Nat) : (w.alloc (.cells #[.int .u8 (n : Int)] 5)).ownsRow w.heap.size 5 1 (.slice (some ⟨w.heap.size, 0, none⟩) 1 1) 1 (bv [n]) :=
  ⟨by simp [bv], .inr ⟨w.heap.size, 1, _, rfl, Nat.le_refl _, heap_alloc_new w _, Nat.le_refl _, by simp [maxLen], by simp, by simp [bv]⟩⟩

end Go.Proofs.Ytlnihaeeoolkhaa

/- Arguments that came in, and rows of bytes: what every law's walk is told of them (no function of the program). -/
namespace Go.Proofs.Ytlnihaeeoolkhaa
open Go.ChangeShapes Go.WideShapes Go.ChangeAt Go.RowKit

theorem Bs.drew {w : World} {lo hi : Nat} {v : Value} {l : List Nat} (h : Bs w lo hi v l) : Bs w.drew lo hi v l := h

/-- A slice of slices of bytes: the outer cells, and what each reads as. -/
structure Rows2 (w : World) (lo hi : Nat) (A : Option Addr) (vs : List Value) (ls : List (List Nat)) : Prop where
  outer : Sl w lo hi A vs
  len : vs.length = ls.length
  each : ∀ (i : Nat) (v : Value) (l : List Nat), vs[i]? = some v → ls[i]? = some l → Bs w lo hi v l

theorem Rows2.below {w w' : World} {lo hi B : Nat} {A : Option Addr} {vs : List Value} {ls : List (List Nat)} (h : Rows2 w lo hi A vs ls) (hb : Below B w w') (hB : hi ≤ B) : Rows2 w' lo hi A vs ls :=
  ⟨h.outer.below hb hB, h.len, fun i v l hv hl => (h.each i v l hv hl).below hb hB⟩

theorem Rows2.at_ {w : World} {lo hi : Nat} {A : Option Addr} {vs : List Value} {ls : List (List Nat)} (h : Rows2 w lo hi A vs ls) {k : Nat} (hk : k < ls.length) :
    ∃ b o A' c, A = some ⟨b, o, none⟩ ∧ w.cell? ⟨b, o + k, none⟩ = some (.slice A' ls[k].length c) ∧ ls[k].length ≤ c ∧ c ≤ maxLen ∧ (A' = none → c = 0) ∧ By w lo hi A' ls[k] := by
  have hk' : k < vs.length := by rw [h.len]; exact hk
  obtain ⟨b, o, rfl, _, _, hc⟩ := h.outer.at_ hk'
  obtain ⟨A', c, hv, h1, h2, h3, h4⟩ := h.each k _ _ (List.getElem?_eq_getElem hk') (List.getElem?_eq_getElem hk)
  exact ⟨b, o, A', c, rfl, by rw [hc, hv], h1, h2, h3, h4⟩

theorem own : ownKnob Try.prog.godebug = none := by kernel_rfl
theorem laidOut : laidOutB Try.prog = true := by kernel_rfl

theorem u8_wf {n : Int} (h : (Lit.int .u8 n).wf = true) : 0 ≤ n ∧ n < 256 := by
  have : 0 ≤ n ∧ n ≤ 255 := by simpa [Lit.wf, IntKind.min, IntKind.max, IntKind.signed, IntKind.bits] using h
  omega
theorem u64_wf {n : Int} (h : (Lit.int .u64 n).wf = true) : ∃ m : Nat, n = (m : Int) ∧ U64 m := by
  have h2 : 0 ≤ n ∧ n ≤ 18446744073709551615 := by simpa [Lit.wf, IntKind.min, IntKind.max, IntKind.signed, IntKind.bits] using h
  exact ⟨n.toNat, by omega, ⟨by omega⟩⟩
theorem i64_wf {n : Int} (h : (Lit.int .i64 n).wf = true) : -9223372036854775808 ≤ n ∧ n ≤ 9223372036854775807 := by
  simpa [Lit.wf, IntKind.min, IntKind.max, IntKind.signed, IntKind.bits] using h

/-- A slice of bytes that came in. -/
theorem bs_cells {W : World} {x : Addr} {len cap : Nat} {zs : List Int} (hl : len ≤ cap) (hm : cap ≤ maxLen) (hz : zs.length = cap)
    (hcell : ∀ i, i < zs.length → W.cell? (x.add i) = some (.int .u8 (zs.getD i 0))) (hwz : ∀ n ∈ zs, (Lit.int .u8 n).wf = true) :
    ∃ l : List Nat, l.length = len ∧ (∀ b ∈ l, b < 256) ∧ Bs W 0 W.heap.size (.slice (some x) len cap) l := by
  have hlen : ((zs.take len).map Int.toNat).length = len := by simp; omega
  refine ⟨(zs.take len).map Int.toNat, hlen, fun b hb => ?_, some x, cap, by rw [hlen], by rw [hlen]; exact hl, hm, (fun h => by cases h), ?_⟩
  · simp only [List.mem_map] at hb
    obtain ⟨n, hn, rfl⟩ := hb
    have := u8_wf (hwz n (List.mem_of_mem_take hn))
    omega
  · by_cases h0 : len = 0
    · subst h0
      exact .inl (by simp [bv])
    · obtain ⟨b, o, spot⟩ := x
      have hc0 := hcell 0 (by omega)
      have hspot : spot = none := by simpa [Addr.add] using World.cell?_spot hc0
      subst hspot
      refine .inr ⟨b, o, rfl, Nat.zero_le _, World.block_lt_of_cell? W ((⟨b, o, none⟩ : Addr).add 0) hc0 |> fun h => by rw [addr_add] at h; exact h, fun i u hu => ?_⟩
      have hi : i < len := by
        rcases Nat.lt_or_ge i len with h | h
        · exact h
        · rw [List.getElem?_eq_none (by rw [bv_length, hlen]; exact h)] at hu; cases hu
      have hz1 : i < zs.length := by omega
      have hw := u8_wf (hwz zs[i] (List.getElem_mem hz1))
      have h2 := hcell i hz1
      rw [addr_add] at h2
      rw [h2, ← hu]
      simp [bv, List.getD, hi, List.getElem?_eq_getElem hz1]
      omega

set_option maxRecDepth 100000 in
theorem open_bytes {H : Type} {enc : TypeId × Value → H} {W : World} {v : Value} {d : DataW H} {p : List MemPlace} {b0 : Nat}
    (hv : Value.okWide Try.prog W .any b0 34 v) (h : DataW.Trod enc Try.prog W 0 (fun _ => true) true 34 v d p) :
    ∃ l : List Nat, (∀ b ∈ l, b < 256) ∧ Bs W 0 W.heap.size v l := by
  obtain ⟨a0, len0, cap0, rfl⟩ := okWide_slice Try.underlying34 hv
  obtain ⟨fuel, hf⟩ := h
  rcases open_ints Try.underlying34 Try.underlying5 (by kernel_rfl) hf with ⟨hcs, _⟩ | ⟨x, l, c, zs, hcs, _, hl, hm, hz, _, hcell, hwz⟩
  · simp [Value.cells] at hcs
    obtain ⟨rfl, rfl, rfl⟩ := hcs
    exact ⟨[], by simp, Bs.nil _ _ _⟩
  · simp [Value.cells] at hcs
    obtain ⟨rfl, rfl, rfl⟩ := hcs
    obtain ⟨l', h1, h2, h3⟩ := bs_cells hl hm (by simpa using hz) hcell hwz
    exact ⟨l', h2, h3⟩
/-- A row among the rows, in every later world. -/
theorem Rows2.later {w : World} {lo hi : Nat} {A : Option Addr} {vs : List Value} {ls : List (List Nat)} (h : Rows2 w lo hi A vs ls) {k : Nat} (hk : k < ls.length) :
    ∃ b o A' c, A = some ⟨b, o, none⟩ ∧ (A' = none → c = 0) ∧ ∀ B w', Below B w w' → hi ≤ B → w'.cell? ⟨b, o + k, none⟩ = some (.slice A' ls[k].length c) ∧ Bs w' lo hi (.slice A' ls[k].length c) ls[k] := by
  have hk' : k < vs.length := by rw [h.len]; exact hk
  obtain ⟨b, o, rfl, _, hb, hc⟩ := h.outer.at_ hk'
  have hx := h.each k _ _ (List.getElem?_eq_getElem hk') (List.getElem?_eq_getElem hk)
  have hx2 := hx
  obtain ⟨A', c, hv, h1, h2, h3, h4⟩ := hx
  rw [hv] at hx2
  exact ⟨b, o, A', c, rfl, h3, fun B w' hB hle => ⟨by rw [hB.cell (p := ⟨b, o + k, none⟩) (show b < B by omega), hc, hv], hx2.below hB hle⟩⟩

/-- A part of a slice of bytes. -/
theorem mid_run (A : Option Addr) (n c k j : Nat) (hkj : k ≤ j) (hjn : j ≤ n) (hc : n ≤ c) : ∃ A2, (∀ l : List Nat, l.length = n → ∀ (W : World) (lo hi : Nat), By W lo hi A l → By W lo hi A2 ((l.drop k).take (j - k))) ∧ (A2 = none → A = none) ∧
    ∀ w, (Instr.slice 34 (.slice A n c) (some (.int .i64 (k : Int))) (some (.int .i64 (j : Int))) none).run Try.prog w = .ok (.slice A2 (j - k) (c - k)) w := by
  obtain ⟨i0, hi, _, hz1, _⟩ := info_parts t5info
  refine ⟨if c = k then A else A.map (·.add k), fun l hl W lo hi' h => ?_, ?_, fun w => ?_⟩
  · have h2 := By.drop (k := k) (cap := c) h (by omega) (by omega)
    unfold By
    rw [bv_take]
    exact Sl.take h2 _
  · split
    · exact id
    · cases A <;> simp
  · have he : Try.prog.underlying 34 = some (.slice (Try.prog.elem 34)) := by kernel_rfl
    have hs : (sizeOf (Try.prog.elem 34)).run Try.prog w = .ok 1 w := by
      have e : Try.prog.elem 34 = 5 := by kernel_rfl
      rw [e]
      simp [Go.sizeOf, typeInfo, hi, hz1]
    rw [run_slice_lh w 34 A n c he .i64 .i64 (k : Int) (j : Int) (by omega) (by omega) (by omega), hs]
    simp [Result.andThen, sliced]


/-- A row of the call's own stays when only newer memory changes. -/
theorem own_below {w w' : World} {B base : Nat} {e : TypeId} {v : Value} {n : Nat} {xs : List Value} (h : w.ownsRow base e 1 v n xs) (hb : Below B w w') (hB : w.heap.size ≤ B) : w'.ownsRow base e 1 v n xs := by
  obtain ⟨h1, h2⟩ := h
  refine ⟨h1, ?_⟩
  rcases h2 with h2 | ⟨g, cap, cur, hv, hg, hh, r⟩
  · exact Or.inl h2
  · have hlt : g < w.heap.size := by
      rcases Nat.lt_or_ge g w.heap.size with h | h
      · exact h
      · rw [Array.getElem?_eq_none h] at hh; cases hh
    exact Or.inr ⟨g, cap, cur, hv, hg, by rw [hb.block g (by omega)]; exact hh, r⟩
end Go.Proofs.Ytlnihaeeoolkhaa

/- Rows of bytes: slices.Clone, Grow and Concat at bytes, and wire's Join and Bytes, which go by them. -/
namespace Go.Proofs.Ytlnihaeeoolkhaa
open Go.ChangeShapes Go.WideShapes Go.ChangeAt Go.RowKit
theorem nilq (A : Option Addr) (n c : Nat) (w : World) : (binOp .eql 34 (.slice A n c) (.slice none 0 0)).run Try.prog w = .ok (.bool A.isNone) w := Lib.run_eql_slice_nil w _ _ A n c 0 0 Try.underlying34

theorem own_empty (w : World) (e : TypeId) : (w.alloc (.cells #[] e)).ownsRow w.heap.size e 1 (.slice (some ⟨w.heap.size, 0, none⟩) 0 0) 0 [] :=
  ⟨by simp, .inr ⟨w.heap.size, 0, _, rfl, Nat.le_refl _, heap_alloc_new w _, Nat.le_refl _, by simp [maxLen], by simp, by simp⟩⟩

set_option maxHeartbeats 400000 in
theorem clone_any (v : Value) (lo hi : Nat) (l : List Nat) (w : World) (h : Bs w lo hi v l) (hhi : hi ≤ w.heap.size) (hl : l.length ≤ 1099511627776) :
    Calls Try.prog 32 #[v] w (NewBy w l) := by
  obtain ⟨i0, hi0, hz0, hz1, hz2⟩ := info_parts t5info
  have HI := Lib.hid hi0
  clear hi0
  obtain ⟨A, c, rfl, h1, h2, hnil, hby⟩ := h
  rcases A with _ | a
  · obtain rfl := hnil rfl
    have hl0 : l = [] := by simpa using h1
    subst hl0
    have hq := nilq none 0 0
    clear h1 h2 hl
    go_enter Try.func32, Try.ntmps32
    go_wp2_with fail
    go_ret
    exact ⟨_, rfl, World.ownsRow_nil _ _ _ _, Below.refl _ _⟩
  · have hq := fun n => nilq (some a) n c
    have HL := Lib.hid hl
    clear h1 h2 hl hnil
    go_enter Try.func32, Try.ntmps32
    go_wp2_with (at_builtin; refine wpList_addall rfl (.tmp 5) (.tmp 6) 34 rfl w.heap.size 5 i0 (.int .u8 0) 1 Try.underlying34 HI.out hz0 hz1 hz2 rfl _ _ _ rfl (own_empty w _) lo hi (some a) l.length c (bv l) rfl ?c1 ?c2 ?c3 (bv_one l) ?c4 ?c5 ?c6 ?_)
    case c1 => intro h; cases h
    case c2 => exact bv_length l
    case c3 => exact Sl.alloc hby hhi _
    case c4 => have := HL.out; unfold maxLen; omega
    case c5 => have := HL.out; omega
    case c6 => simp
    intro v1 w1 hown1 hb1
    go_wp2
    go_ret
    exact ⟨v1, rfl, by simpa using hown1, hb1 _ ((Below.refl _ _).alloc (Nat.le_refl _) _)⟩

/-- An empty row of the call's own. -/
def Fresh (w : World) (e : Ending) (w' : World) : Prop := ∃ v, e = .returned v ∧ w'.ownsRow w.heap.size 5 1 v 0 [] ∧ Below w.heap.size w w'

/-- What is owned from a later block on is owned from an earlier one on. -/
theorem own_lower {w : World} {B B' : Nat} {e : TypeId} {size n : Nat} {v : Value} {xs : List Value} (h : w.ownsRow B e size v n xs) (hB : B' ≤ B) : w.ownsRow B' e size v n xs := by
  refine ⟨h.1, ?_⟩
  rcases h.2 with h2 | ⟨g, cap, cur, hv, hg, r⟩
  · exact .inl h2
  · exact .inr ⟨g, cap, cur, hv, Nat.le_trans hB hg, r⟩

theorem rows2_two {w : World} {lo hi : Nat} {v1 v2 : Value} {l1 l2 : List Nat} {T : TypeId} (h1 : Bs w lo hi v1 l1) (h2 : Bs w lo hi v2 l2) (hhi : hi ≤ w.heap.size) :
    Rows2 (w.alloc (.cells #[v1, v2] T)) lo (w.heap.size + 1) (some ⟨w.heap.size, 0, none⟩) [v1, v2] [l1, l2] ∨ w.heap.size < lo := by
  rcases Nat.lt_or_ge w.heap.size lo with h | h
  · exact .inr h
  · refine .inl ⟨.inr ⟨w.heap.size, 0, rfl, h, by omega, fun i u hu => ?_⟩, rfl, fun i v l hv hl => ?_⟩
    · rw [World.cell?_alloc_at _ _ _ _ rfl, Nat.zero_add]
      match i, hu with
      | 0, hu => simpa using hu
      | 1, hu => simpa using hu
      | (i + 2), hu => simp at hu
    · match i, hv, hl with
      | 0, hv, hl => simp at hv hl; subst hv hl; exact (h1.alloc hhi _).wide (Nat.le_refl _) (by omega)
      | 1, hv, hl => simp at hv hl; subst hv hl; exact (h2.alloc hhi _).wide (Nat.le_refl _) (by omega)
      | (i + 2), hv, hl => simp at hv

/-- The form of bytes. -/
def bytesForm (l : List Nat) : List Nat := form l.length ++ l

end Go.Proofs.Ytlnihaeeoolkhaa

/- Plain arithmetic of what begins with the form of a number: nothing of the program stands here. -/
namespace Go.Proofs.Ytlnihaeeoolkhaa

/-- What digits of seven bits come to, the first one weighing least. -/
def val : List Nat → Nat
  | [] => 0
  | b :: r => b % 128 + 128 * val r
theorem val_append (p r : List Nat) : val (p ++ r) = val p + 128 ^ p.length * val r := by
  induction p with
  | nil => simp [val]
  | cons b p ih =>
    simp only [List.cons_append, val, ih, List.length_cons, Nat.pow_succ, Nat.mul_add]
    rw [Nat.add_assoc, ← Nat.mul_assoc, Nat.mul_comm 128 (128 ^ p.length)]
theorem val_lt (p : List Nat) : val p < 128 ^ p.length := by
  induction p with
  | nil => simp [val]
  | cons b p ih =>
    simp only [val, List.length_cons, Nat.pow_succ]
    have : b % 128 < 128 := Nat.mod_lt _ (by omega)
    omega
theorem val_form (n : Nat) : val (form n) = n := by
  induction n using Nat.strongRecOn with
  | ind n ih =>
    by_cases h : n < 128
    · rw [form_lo h]; simp [val]; omega
    · rw [form_hi h, val, ih _ (by omega)]; omega

/-- Digits that say that more follow. -/
def More (p : List Nat) : Prop := ∀ b ∈ p, 128 ≤ b ∧ b < 256

theorem form_shape (n : Nat) : ∃ p q, form n = p ++ [q] ∧ More p ∧ q < 128 ∧ (p ≠ [] → q ≠ 0) := by
  induction n using Nat.strongRecOn with
  | ind n ih =>
    by_cases h : n < 128
    · exact ⟨[], n, by rw [form_lo h]; rfl, by intro b hb; simp at hb, h, fun h => absurd rfl h⟩
    · obtain ⟨p, q, he, hp, hq, hz⟩ := ih (n / 128) (by omega)
      refine ⟨(n % 128 + 128) :: p, q, by rw [form_hi h, he]; rfl, ?_, hq, fun _ => ?_⟩
      · intro b hb
        rcases List.mem_cons.1 hb with rfl | hb
        · omega
        · exact hp b hb
      · by_cases hpe : p = []
        · subst hpe
          have h2 := val_form (n / 128)
          rw [he] at h2
          simp [val] at h2
          omega
        · exact hz hpe

theorem form_of_val (p : List Nat) : ∀ q, More p → q < 128 → (p ≠ [] → q ≠ 0) → form (val (p ++ [q])) = p ++ [q] := by
  induction p with
  | nil => intro q _ hq _; simp [val]; rw [form_lo (by omega), Nat.mod_eq_of_lt hq]
  | cons b p ih =>
    intro q hp hq hz
    have hb := hp b (by simp)
    have hq0 := hz (by simp)
    have h1 := ih q (fun c hc => hp c (by simp [hc])) hq (fun _ => hq0)
    have hv : 1 ≤ val (p ++ [q]) := by
      rw [val_append]
      have h2 : val [q] = q := by simp [val]; omega
      rw [h2]
      have h3 : 1 * 1 ≤ 128 ^ p.length * q := Nat.mul_le_mul (Nat.pow_pos (by omega)) (by omega)
      omega
    simp only [List.cons_append, val]
    rw [form_hi (by omega)]
    have e1 : (b % 128 + 128 * val (p ++ [q])) / 128 = val (p ++ [q]) := by omega
    have e2 : (b % 128 + 128 * val (p ++ [q])) % 128 + 128 = b := by omega
    rw [e1, e2, h1]

theorem shape_unique : ∀ (p p' : List Nat) (q q' : Nat) (r r' : List Nat), More p → More p' → q < 128 → q' < 128 → p ++ q :: r = p' ++ q' :: r' → p = p' ∧ q = q' ∧ r = r' := by
  intro p
  induction p with
  | nil =>
    intro p' q q' r r' _ hp' hq hq' h
    cases p' with
    | nil => simp at h; exact ⟨rfl, h.1, h.2⟩
    | cons b p' =>
      simp at h
      have := hp' b (by simp)
      omega
  | cons b p ih =>
    intro p' q q' r r' hp hp' hq hq' h
    cases p' with
    | nil =>
      simp at h
      have := hp b (by simp)
      omega
    | cons b' p' =>
      simp only [List.cons_append, List.cons.injEq] at h
      obtain ⟨rfl, h⟩ := h
      obtain ⟨rfl, rfl, rfl⟩ := ih p' q q' r r' (fun c hc => hp c (by simp [hc])) (fun c hc => hp' c (by simp [hc])) hq hq' h
      exact ⟨rfl, rfl, rfl⟩

/-- These bytes begin with the form of n, behind which r stands. -/
structure Begins (l : List Nat) (n : Nat) (r : List Nat) : Prop where
  n64 : U64 n
  eq : l = form n ++ r

theorem Begins.unique {l : List Nat} {n n' : Nat} {r r' : List Nat} (h : Begins l n r) (h' : Begins l n' r') : n = n' ∧ r = r' := by
  obtain ⟨p, q, he, hp, hq, _⟩ := form_shape n
  obtain ⟨p', q', he', hp', hq', _⟩ := form_shape n'
  have hh : p ++ q :: r = p' ++ q' :: r' := by
    have h1 := h.eq
    have h2 := h'.eq
    rw [he, List.append_assoc] at h1
    rw [he', List.append_assoc] at h2
    exact h1.symm.trans h2
  obtain ⟨rfl, rfl, rfl⟩ := shape_unique p p' q q' r r' hp hp' hq hq' hh
  exact ⟨by rw [← val_form n, ← val_form n', he, he'], rfl⟩

/-- A form is read: all ahead of its last digit say that more follow. -/
theorem begins_of {l : List Nat} {i : Nat} (hi : i < l.length) (hm : More (l.take i)) (hq : l[i] < 128) (hz : i ≠ 0 → l[i] ≠ 0) (h9 : i < 9 ∨ i = 9 ∧ l[i] ≤ 1) :
    Begins l (val (l.take i) + 128 ^ i * l[i]) (l.drop (i + 1)) := by
  have hlen : (l.take i).length = i := by simp; omega
  have hv : val (l.take i ++ [l[i]]) = val (l.take i) + 128 ^ i * l[i] := by
    rw [val_append, hlen]
    have : val [l[i]] = l[i] := by simp [val]; omega
    rw [this]
  have hne : l.take i ≠ [] → l[i] ≠ 0 := fun h => hz (by rintro rfl; simp at h)
  have hf := form_of_val (l.take i) l[i] hm hq hne
  rw [hv] at hf
  refine ⟨⟨?_⟩, ?_⟩
  · have h1 := val_lt (l.take i)
    rw [hlen] at h1
    rcases h9 with h9 | ⟨rfl, h9⟩
    · have h2 : 128 ^ (i + 1) ≤ 128 ^ 9 := Nat.pow_le_pow_right (by omega) (by omega)
      have h3 : 128 ^ i * l[i] ≤ 128 ^ i * 127 := Nat.mul_le_mul_left _ (by omega)
      rw [Nat.pow_succ] at h2
      have h4 : (128 : Nat) ^ 9 = 9223372036854775808 := by decide
      omega
    · have h4 : (128 : Nat) ^ 9 = 9223372036854775808 := by decide
      have h3 : 128 ^ 9 * l[9] ≤ 128 ^ 9 * 1 := Nat.mul_le_mul_left _ h9
      omega
  · rw [hf, List.append_assoc]
    have h1 := List.take_append_drop i l
    rw [List.drop_eq_getElem_cons hi] at h1
    exact h1.symm

/-- Of digits that all say that more follow none is the last one. -/
theorem not_begins_more {l : List Nat} (hm : More l) (n : Nat) (r : List Nat) : ¬ Begins l n r := by
  intro h
  obtain ⟨p, q, he, hp, hq, _⟩ := form_shape n
  have := hm q (by rw [h.eq, he]; simp)
  omega

theorem begins_at {l : List Nat} {n : Nat} {r : List Nat} (h : Begins l n r) {i : Nat} (hi : i < l.length) (hm : More (l.take i)) : 
    (128 ≤ l[i] ∧ i + 1 < (form n).length) ∨ (l[i] < 128 ∧ (form n).length = i + 1 ∧ n = val (l.take i) + 128 ^ i * l[i] ∧ (i ≠ 0 → l[i] ≠ 0)) := by
  obtain ⟨p, q, he, hp, hq, hz⟩ := form_shape n
  have hl : l = p ++ q :: r := by rw [h.eq, he, List.append_assoc]; rfl
  have hlen : (l.take i).length = i := by simp; omega
  rcases Nat.lt_or_ge l[i] 128 with hlt | hge
  · right
    have h1 := List.take_append_drop i l
    rw [List.drop_eq_getElem_cons hi] at h1
    obtain ⟨e1, e2, e3⟩ := shape_unique _ p _ q _ r hm hp hlt hq (h1.trans hl)
    have hn := val_form n
    rw [he, ← e1, ← e2, val_append, hlen] at hn
    have : val [l[i]] = l[i] := by simp [val]; omega
    rw [this] at hn
    refine ⟨hlt, by rw [he, ← e1]; simp [hlen], hn.symm, fun h0 => ?_⟩
    rw [e2]
    apply hz
    rw [← e1]
    intro hh
    rw [hh] at hlen
    exact h0 hlen.symm
  · left
    refine ⟨hge, ?_⟩
    rw [he]
    simp only [List.length_append, List.length_cons, List.length_nil]
    rcases Nat.lt_or_ge i p.length with h2 | h2
    · omega
    · rcases Nat.eq_or_lt_of_le h2 with h3 | h3
      · subst h3
        exfalso
        have : l[p.length] = q := by simp [hl]
        omega
      · exfalso
        have hp2 : p.length < (l.take i).length := by omega
        have h4 := hm ((l.take i)[p.length]) (List.getElem_mem hp2)
        have h5 : (l.take i)[p.length] = q := by simp [hl]
        omega

theorem not_begins_zero {l : List Nat} {i : Nat} (hi : i < l.length) (hm : More (l.take i)) (h0 : i ≠ 0) (hz : l[i] = 0) (n : Nat) (r : List Nat) : ¬ Begins l n r := by
  intro h
  rcases begins_at h hi hm with ⟨h1, _⟩ | ⟨_, _, _, h4⟩
  · omega
  · exact h4 h0 hz

theorem not_begins_nine {l : List Nat} (hi : 9 < l.length) (hm : More (l.take 9)) (hz : 1 < l[9]) (n : Nat) (r : List Nat) : ¬ Begins l n r := by
  intro h
  have h10 := form_len64 h.n64
  rcases begins_at h hi hm with ⟨_, h2⟩ | ⟨_, _, h3, _⟩
  · omega
  · have h4 : (128 : Nat) ^ 9 = 9223372036854775808 := by decide
    have h5 : 128 ^ 9 * 2 ≤ 128 ^ 9 * l[9] := Nat.mul_le_mul_left _ hz
    have := h.n64.lt
    omega
end Go.Proofs.Ytlnihaeeoolkhaa
namespace Go.Proofs.Ytlnihaeeoolkhaa
theorem more_nil (l : List Nat) : More (l.take 0) := by intro b hb; simp at hb
theorem more_succ {l : List Nat} {k : Nat} (h : k < l.length) (hm : More (l.take k)) (h1 : 128 ≤ l[k]) (h2 : l[k] < 256) : More (l.take (k + 1)) := by
  intro b hb
  rw [List.take_succ_eq_append_getElem h, List.mem_append] at hb
  rcases hb with hb | hb
  · exact hm b hb
  · simp at hb; subst hb; exact ⟨h1, h2⟩
theorem val_succ {l : List Nat} {k : Nat} (h : k < l.length) : val (l.take (k + 1)) = val (l.take k) + 128 ^ k * (l[k] % 128) := by
  rw [List.take_succ_eq_append_getElem h, val_append]
  have : (l.take k).length = k := by simp; omega
  rw [this]
  simp [val]
theorem val_take_lt {l : List Nat} {k : Nat} (h : k ≤ l.length) : val (l.take k) < 128 ^ k := by
  have h1 := val_lt (l.take k)
  have : (l.take k).length = k := by simp; omega
  rwa [this] at h1
end Go.Proofs.Ytlnihaeeoolkhaa
namespace Go.Proofs.Ytlnihaeeoolkhaa
theorem form_mono (n : Nat) : ∀ m, n ≤ m → (form n).length ≤ (form m).length := by
  induction n using Nat.strongRecOn with
  | ind n ih =>
    intro m h
    by_cases h0 : n < 128
    · rw [form_lo h0]
      by_cases h1 : m < 128
      · rw [form_lo h1]; simp
      · rw [form_hi h1]; simp
    · rw [form_hi h0, form_hi (show ¬ m < 128 by omega)]
      have := ih (n / 128) (by omega) (m / 128) (Nat.div_le_div_right h)
      simp only [List.length_cons]; omega
theorem form_no_prefix {n m : Nat} (hn : U64 n) (hm : U64 m) (h : n ≠ m) : (form m).take (form n).length ≠ form n := by
  intro he
  have h1 : Begins (form m) n ((form m).drop (form n).length) := ⟨hn, by
    have := List.take_append_drop (form n).length (form m)
    rw [he] at this
    exact this.symm⟩
  have h2 : Begins (form m) m [] := ⟨hm, by simp⟩
  exact h (h1.unique h2).1
end Go.Proofs.Ytlnihaeeoolkhaa

/- The reader of wire: what one is in memory, Open, none, Left, End. -/
namespace Go.Proofs.Ytlnihaeeoolkhaa
open Go.ChangeShapes Go.WideShapes Go.ChangeAt Go.RowKit

section
variable {w w' : World} {r : Nat} {v : Value} {o : Bool}
end

section
variable {w w' : World} {r lo hi : Nat} {l : List Nat}
end

/-- What End says. -/
def endErr (l : List Nat) : Int := if l = [] then 0 else 4

end Go.Proofs.Ytlnihaeeoolkhaa

/- A number's reader: the loop over its digits. -/
namespace Go.Proofs.Ytlnihaeeoolkhaa
open Go.ChangeShapes Go.WideShapes Go.ChangeAt Go.RowKit

/-- A digit of seven bits more, as the program reckons it. -/
theorem digit_more (v x k : Nat) (hk : k ≤ 9) (hv : v < 128 ^ k) (hx : x < 256) (h9 : k = 9 → x ≤ 1) :
    bits BinOp.or IntKind.u64 (v : Int) (IntKind.u64.wrap (IntKind.u64.wrap (bits BinOp.and IntKind.u8 (x : Int) 127) * 2 ^ (7 * k))) = ((v + 128 ^ k * (x % 128) : Nat) : Int) := by
  have e1 : bits BinOp.and IntKind.u8 (x : Int) 127 = ((x % 128 : Nat) : Int) := by
    have := u8_and_nat x 127 hx (by omega)
    rw [nat_mask7] at this
    exact this
  have e2 : IntKind.u64.wrap ((x % 128 : Nat) : Int) = ((x % 128 : Nat) : Int) := by rw [IntKind.wrap_u64]; omega
  have e3 : ((2 : Int) ^ (7 * k)) = ((128 ^ k : Nat) : Int) := by
    rw [Int.pow_mul]
    simp
  have hlt : 128 ^ k * (x % 128) < 18446744073709551616 := by
    have h4 : (128 : Nat) ^ 9 = 9223372036854775808 := by decide
    by_cases h : k = 9
    · have := h9 h
      subst h
      have h3 : 128 ^ 9 * (x % 128) ≤ 128 ^ 9 * 1 := Nat.mul_le_mul_left _ (by omega)
      omega
    · have h2 : 128 ^ (k + 1) ≤ 128 ^ 9 := Nat.pow_le_pow_right (by omega) (by omega)
      have h3 : 128 ^ k * (x % 128) ≤ 128 ^ k * 127 := Nat.mul_le_mul_left _ (by omega)
      rw [Nat.pow_succ] at h2
      omega
  have hv9 : v < 18446744073709551616 := by
    have h4 : (128 : Nat) ^ 9 = 9223372036854775808 := by decide
    have h2 : 128 ^ k ≤ 128 ^ 9 := Nat.pow_le_pow_right (by omega) (by omega)
    omega
  have e4 : IntKind.u64.wrap (((x % 128 : Nat) : Int) * ((128 ^ k : Nat) : Int)) = ((128 ^ k * (x % 128) : Nat) : Int) := by
    rw [← Int.natCast_mul, Nat.mul_comm, IntKind.wrap_u64]
    omega
  rw [e1, e2, e3, e4, u64_or_nat _ _ hv9 hlt]
  have e5 : v ||| 128 ^ k * (x % 128) = v + 128 ^ k * (x % 128) := by
    have e6 : (128 : Nat) ^ k = 2 ^ (7 * k) := by rw [Nat.pow_mul]
    rw [Nat.or_comm, nat_join (7 * k) _ v (by rw [e6]; simp) (by rw [← e6]; exact hv), Nat.add_comm]
  rw [e5]

/-- What is left behind the first k bytes. -/
theorem tail_run' (kl : IntKind) (A : Option Addr) (n c k : Nat) (hk : k ≤ n) (hc : n ≤ c) : ∃ A2, (∀ l : List Nat, l.length = n → ∀ (W : World) (lo hi : Nat), By W lo hi A l → By W lo hi A2 (l.drop k)) ∧ (A2 = none → A = none) ∧
    ∀ w, (Instr.slice 34 (.slice A n c) (some (.int kl (k : Int))) none none).run Try.prog w = .ok (.slice A2 (n - k) (c - k)) w := by
  obtain ⟨i0, hi, _, hz1, _⟩ := info_parts t5info
  refine ⟨if c = k then A else A.map (·.add k), fun l hl W lo hi' h => ?_, ?_, fun w => ?_⟩
  · subst hl
    exact By.drop h hk hc
  · split
    · exact id
    · cases A <;> simp
  · have he : Try.prog.underlying 34 = some (.slice (Try.prog.elem 34)) := by kernel_rfl
    have hs : (sizeOf (Try.prog.elem 34)).run Try.prog w = .ok 1 w := by
      have e : Try.prog.elem 34 = 5 := by kernel_rfl
      rw [e]
      simp [Go.sizeOf, typeInfo, hi, hz1]
    rw [run_slice_l w 34 A n c he kl (k : Int) (by omega) (by omega), hs]
    simp [Result.andThen, sliced]

theorem tail_run (A : Option Addr) (n c k : Nat) (hk : k ≤ n) (hc : n ≤ c) : ∃ A2, (∀ l : List Nat, l.length = n → ∀ (W : World) (lo hi : Nat), By W lo hi A l → By W lo hi A2 (l.drop k)) ∧ (A2 = none → A = none) ∧
    ∀ w, (Instr.slice 34 (.slice A n c) (some (.int .i64 (k : Int))) none none).run Try.prog w = .ok (.slice A2 (n - k) (c - k)) w := tail_run' .i64 A n c k hk hc

/-- The first k bytes. -/
theorem head_run (kl : IntKind) (A : Option Addr) (n c k : Nat) (hk : k ≤ n) (hc : n ≤ c) : ∃ A2, (∀ l : List Nat, l.length = n → ∀ (W : World) (lo hi : Nat), By W lo hi A l → By W lo hi A2 (l.take k)) ∧ (A2 = none → A = none) ∧
    ∀ w, (Instr.slice 34 (.slice A n c) none (some (.int kl (k : Int))) none).run Try.prog w = .ok (.slice A2 k c) w := by
  obtain ⟨i0, hi, _, hz1, _⟩ := info_parts t5info
  refine ⟨if c = 0 then A else A.map (·.add 0), fun l hl W lo hi' h => ?_, ?_, fun w => ?_⟩
  · have h2 := By.drop (k := 0) (cap := c) h (by omega) (by omega)
    unfold By
    rw [bv_take]
    exact Sl.take h2 k
  · split
    · exact id
    · cases A <;> simp
  · have he : Try.prog.underlying 34 = some (.slice (Try.prog.elem 34)) := by kernel_rfl
    have hs : (sizeOf (Try.prog.elem 34)).run Try.prog w = .ok 1 w := by
      have e : Try.prog.elem 34 = 5 := by kernel_rfl
      rw [e]
      simp [Go.sizeOf, typeInfo, hi, hz1]
    rw [run_slice_h w 34 A n c he kl (k : Int) (by omega) (by omega), hs]
    simp [Result.andThen, sliced]

theorem grownBy_set (w : World) (r o : Nat) (u : Value) : w.grownBy (w.setCell ⟨r, o, none⟩ u) (some r) :=
  ⟨rfl, rfl, rfl, by simp [World.setCell], fun i _ hne => Below.heap_setCell w _ u i (by rintro rfl; exact hne rfl)⟩

end Go.Proofs.Ytlnihaeeoolkhaa

/- wire.whole: a reading on a copy of the reader, which counts where it went through. -/
namespace Go.Proofs.Ytlnihaeeoolkhaa
open Go.ChangeShapes Go.WideShapes Go.ChangeAt Go.RowKit

theorem grown_two {w w1 : World} {o1 o2 : Obj} (r : Nat) (u b : Value) (hr : r < w.heap.size) (hg : ((w.alloc o1).alloc o2).grownBy w1 (some (w.heap.size + 1))) :
    w.grownBy ((w1.setCell ⟨r, 0, none⟩ u).setCell ⟨r, 1, none⟩ b) (some r) := by
  refine ⟨hg.os, hg.tape, hg.output, ?_, fun i hi hne => ?_⟩
  · have := hg.size; simp at this; simp [World.setCell]; omega
  · have h1 := hg.block i (by simp; omega) (by intro h; injection h with h; omega)
    rw [Below.heap_setCell _ _ _ _ (by rintro rfl; exact hne rfl), Below.heap_setCell _ _ _ _ (by rintro rfl; exact hne rfl), h1, Below.heap_alloc _ _ _ (by simp; omega), Below.heap_alloc _ _ _ hi]

/-- A property of answers that stores into readers do not touch. -/
def Holds2 (ok : Value → List Nat → World → Prop) (B : Nat) : Prop := ∀ v rest w b o u, ok v rest w → b < B → ok v rest (w.setCell ⟨b, o, none⟩ u)

end Go.Proofs.Ytlnihaeeoolkhaa

/- The readers of wire: Number, Signed, Flag, and what a count is. -/
namespace Go.Proofs.Ytlnihaeeoolkhaa
open Go.ChangeShapes Go.WideShapes Go.ChangeAt Go.RowKit

/-- No form of a number stands here. -/
def NoNum (l : List Nat) : Prop := ∀ n rest, ¬ Begins l n rest

def OkNum (l : List Nat) (v : Value) (rest : List Nat) (_ : World) : Prop := ∃ n, Begins l n rest ∧ v = .int .u64 (n : Int)
def ErrNum (l : List Nat) (n : Int) : Prop := n = 4 ∧ NoNum l

theorem holds_num (l : List Nat) (B : Nat) : Holds2 (OkNum l) B := fun _ _ _ _ _ _ h _ => h

/-- A signed number that stands here. -/
def OkSig (l : List Nat) (v : Value) (rest : List Nat) (_ : World) : Prop := ∃ s : Int, -9223372036854775808 ≤ s ∧ s ≤ 9223372036854775807 ∧ Begins l (zz s) rest ∧ v = .int .i64 s

theorem ofInt_i64n (a : Nat) (ha : a < 9223372036854775808) : (BitVec.ofInt 64 (a : Int)).toNat = a := by
  rw [BitVec.ofInt_natCast, BitVec.toNat_ofNat]; exact Nat.mod_eq_of_lt (by omega)

theorem unzig (n : Nat) (h : n < 18446744073709551616) :
    ∃ s : Int, bits BinOp.xor IntKind.i64 (wrap64 ((n : Int) / 2)) (wrap64 (-wrap64 (bits BinOp.and IntKind.u64 (n : Int) 1))) = s ∧ -9223372036854775808 ≤ s ∧ s ≤ 9223372036854775807 ∧ zz s = n := by
  have e1 : bits BinOp.and IntKind.u64 (n : Int) 1 = ((n % 2 : Nat) : Int) := by
    have := u64_and_nat n 1 h (by omega)
    rw [nat_mask1] at this
    exact this
  have e2 : wrap64 ((n : Int) / 2) = ((n / 2 : Nat) : Int) := by unfold wrap64; omega
  rw [e1, e2]
  have hs : n / 2 < 9223372036854775808 := by omega
  rcases Nat.mod_two_eq_zero_or_one n with h2 | h2
  · have e3 : wrap64 (-wrap64 ((n % 2 : Nat) : Int)) = 0 := by rw [h2]; unfold wrap64; omega
    rw [e3]
    refine ⟨((n / 2 : Nat) : Int), ?_, by omega, by omega, ?_⟩
    · show IntKind.i64.wrap ((BitVec.ofInt 64 ((n / 2 : Nat) : Int) ^^^ BitVec.ofInt 64 0).toNat : Int) = _
      have e4 : BitVec.ofInt 64 0 = 0#64 := by rfl
      rw [e4, BitVec.xor_zero, ofInt_i64n _ hs, IntKind.wrap_i64]
      omega
    · unfold zz; rw [if_pos (by omega)]; omega
  · have e3 : wrap64 (-wrap64 ((n % 2 : Nat) : Int)) = -1 := by rw [h2]; unfold wrap64; omega
    rw [e3]
    refine ⟨-((n / 2 : Nat) : Int) - 1, ?_, by omega, by omega, ?_⟩
    · show IntKind.i64.wrap ((BitVec.ofInt 64 ((n / 2 : Nat) : Int) ^^^ BitVec.ofInt 64 (-1)).toNat : Int) = _
      have e4 : BitVec.ofInt 64 (-1) = BitVec.allOnes 64 := by decide
      rw [e4, BitVec.xor_allOnes, BitVec.toNat_not, ofInt_i64n _ hs, IntKind.wrap_i64]
      omega
    · unfold zz; rw [if_neg (by omega)]; omega

theorem holds_sig (l : List Nat) (B : Nat) : Holds2 (OkSig l) B := fun _ _ _ _ _ _ h _ => h

/-- A flag that stands here. -/
def OkFlag (l : List Nat) (v : Value) (rest : List Nat) (_ : World) : Prop := ∃ b : Bool, l = flagForm b ++ rest ∧ v = .bool b
def ErrFlag (l : List Nat) (n : Int) : Prop := n = 4 ∧ ∀ b rest, l ≠ flagForm b ++ rest

theorem holds_flag (l : List Nat) (B : Nat) : Holds2 (OkFlag l) B := fun _ _ _ _ _ _ h _ => h

/-- A count: a number that stands here, at most so many. -/
def OkCount (most : Int) (l : List Nat) (v : Value) (rest : List Nat) : Prop := ∃ n : Nat, Begins l n rest ∧ (n : Int) ≤ most ∧ v = .int .u64 (n : Int)
/-- Why it is none, in the order in which it is asked. -/
def ErrCount (most : Int) (l : List Nat) (n : Int) : Prop := (n = 2 ∧ most < 0) ∨ (0 ≤ most ∧ n = 4 ∧ NoNum l) ∨ (0 ≤ most ∧ n = 3 ∧ ∃ m rest, Begins l m rest ∧ most < (m : Int))

end Go.Proofs.Ytlnihaeeoolkhaa

/- The reader of bytes. -/
namespace Go.Proofs.Ytlnihaeeoolkhaa
open Go.ChangeShapes Go.WideShapes Go.ChangeAt Go.RowKit

/-- Bytes that stand here, in new memory from block B on. -/
def OkText (B : Nat) (most : Int) (l : List Nat) (v : Value) (rest : List Nat) (w : World) : Prop :=
  ∃ bs : List Nat, (bs.length : Int) ≤ most ∧ U64 bs.length ∧ l = bytesForm bs ++ rest ∧ w.ownsRow B 5 1 v bs.length (bv bs)
def ErrText (most : Int) (l : List Nat) (n : Int) : Prop := ErrCount most l n ∨ (n = 4 ∧ ∃ m rest, Begins l m rest ∧ (m : Int) ≤ most ∧ rest.length < m)

theorem holds_text (B : Nat) (most : Int) (l : List Nat) (B' : Nat) (h : B' ≤ B) : Holds2 (OkText B most l) B' := by
  rintro v rest w b o u ⟨bs, h1, h2, h3, h4⟩ hb
  exact ⟨bs, h1, h2, h3, ownsRow_setCell_below h4 (by simpa using Nat.lt_of_lt_of_le hb h) u⟩

end Go.Proofs.Ytlnihaeeoolkhaa

/- The method Bytes: the closure that it hands to whole. -/
namespace Go.Proofs.Ytlnihaeeoolkhaa
open Go.ChangeShapes Go.WideShapes Go.ChangeAt Go.RowKit

theorem grown_alloc {w w' : World} {o : Obj} {row : Option Nat} (h : (w.alloc o).grownBy w' row) : w.grownBy w' row :=
  ⟨h.os, h.tape, h.output, by have := h.size; simp at this; omega, fun i hi hne => (h.block i (by simp; omega) hne).trans (Below.heap_alloc w o i hi)⟩

theorem mkf (fn : Fn) (first cap : Array Value) (w : World) : (Instr.makeFunc fn first cap).run Try.prog w = .ok (.func fn first cap) w := rfl

end Go.Proofs.Ytlnihaeeoolkhaa

/- The readers where it is known what stands there, or that it does not. -/
namespace Go.Proofs.Ytlnihaeeoolkhaa
open Go.ChangeShapes Go.WideShapes Go.ChangeAt Go.RowKit

theorem zz_inj {a b : Int} (h : zz a = zz b) : a = b := by
  rcases Int.lt_or_le a 0 with h1 | h1 <;> rcases Int.lt_or_le b 0 with h2 | h2
  · have := zz_neg h1; have := zz_neg h2; omega
  · have := zz_neg h1; have := zz_pos h2; omega
  · have := zz_pos h1; have := zz_neg h2; omega
  · have := zz_pos h1; have := zz_pos h2; omega

theorem flagForm_inj {a b : Bool} {r r' : List Nat} (h : flagForm a ++ r = flagForm b ++ r') : a = b ∧ r = r' := by
  cases a <;> cases b <;> simp [flagForm] at h <;> simp [h]

theorem begins_bytes {bs rest : List Nat} (h : U64 bs.length) : Begins (bytesForm bs ++ rest) bs.length (bs ++ rest) := ⟨h, by simp [bytesForm]⟩

end Go.Proofs.Ytlnihaeeoolkhaa

/- Plain mathematics of entries: which may be, their order, their bytes (no function of the program). -/
namespace Go.Proofs.Ytlnihaeeoolkhaa

/-- An entry. -/
structure Ent where
  key : List Nat
  seq : Int
  kind : Int
  val : List Nat
/-- May it be, by how long its parts are? -/
def mayN (kn : Nat) (s d : Int) (vn : Nat) : Bool := decide (1 ≤ kn) && decide (kn ≤ 32) && decide (1 ≤ s) && decide (s ≤ 2147483647) && (decide (d = 1) && decide (vn ≤ 65536) || decide (d = 2) && decide (vn = 0))
def Ent.may (e : Ent) : Bool := mayN e.key.length e.seq e.kind e.val.length
theorem mayN_iff {kn : Nat} {s d : Int} {vn : Nat} : mayN kn s d vn = true ↔ 1 ≤ kn ∧ kn ≤ 32 ∧ 1 ≤ s ∧ s ≤ 2147483647 ∧ (d = 1 ∧ vn ≤ 65536 ∨ d = 2 ∧ vn = 0) := by
  unfold mayN
  simp only [Bool.and_eq_true, Bool.or_eq_true, decide_eq_true_eq, and_assoc]
/-- An entry's bytes. -/
def Ent.form (e : Ent) : List Nat := bytesForm e.key ++ (Go.Proofs.Ytlnihaeeoolkhaa.form e.seq.toNat ++ (Go.Proofs.Ytlnihaeeoolkhaa.form e.kind.toNat ++ (if e.kind = 1 then bytesForm e.val else [])))

theorem bytesForm_cut {a b r r' : List Nat} (ha : U64 a.length) (hb : U64 b.length) (h : bytesForm a ++ r = bytesForm b ++ r') : a = b ∧ r = r' := by
  unfold bytesForm at h
  rw [List.append_assoc, List.append_assoc] at h
  obtain ⟨e1, e2⟩ := Begins.unique (l := form a.length ++ (a ++ r)) ⟨ha, rfl⟩ ⟨hb, h⟩
  exact List.append_inj e2 e1
theorem form_cut {a b : Nat} {r r' : List Nat} (ha : U64 a) (hb : U64 b) (h : form a ++ r = form b ++ r') : a = b ∧ r = r' :=
  Begins.unique (l := form a ++ r) ⟨ha, rfl⟩ ⟨hb, h⟩

/-- The entry of which these are the bytes. -/
def IsE (b : List Nat) (e : Ent) : Prop := e.may = true ∧ e.form = b
theorem Ent.may_u64 {e : Ent} (h : e.may = true) : U64 e.key.length ∧ U64 e.seq.toNat ∧ U64 e.kind.toNat ∧ U64 e.val.length := by
  obtain ⟨h1, h2, h3, h4, h5⟩ := mayN_iff.1 h
  refine ⟨⟨by omega⟩, ⟨by omega⟩, ⟨?_⟩, ⟨?_⟩⟩ <;> rcases h5 with ⟨h5, h6⟩ | ⟨h5, h6⟩ <;> omega
theorem IsE.unique {b : List Nat} {e e' : Ent} (h : IsE b e) (h' : IsE b e') : e = e' := by
  obtain ⟨u1, u2, u3, u4⟩ := Ent.may_u64 h.1
  obtain ⟨v1, v2, v3, v4⟩ := Ent.may_u64 h'.1
  have hh := h.2.trans h'.2.symm
  unfold Ent.form at hh
  obtain ⟨e1, hh⟩ := bytesForm_cut u1 v1 hh
  obtain ⟨e2, hh⟩ := form_cut u2 v2 hh
  obtain ⟨e3, hh⟩ := form_cut u3 v3 hh
  obtain ⟨a1, a2, a3, a4, a5⟩ := mayN_iff.1 h.1
  obtain ⟨b1, b2, b3, b4, b5⟩ := mayN_iff.1 h'.1
  have k0 : e.kind = e'.kind := by rcases a5 with ⟨a, _⟩ | ⟨a, _⟩ <;> rcases b5 with ⟨b, _⟩ | ⟨b, _⟩ <;> omega
  have s0 : e.seq = e'.seq := by omega
  have w0 : e.val = e'.val := by
    rcases a5 with ⟨a, _⟩ | ⟨a, an⟩
    · rw [if_pos a, if_pos (k0.symm.trans a)] at hh
      exact (bytesForm_cut (r := []) (r' := []) u4 v4 (by simpa using hh)).1
    · rcases b5 with ⟨b, _⟩ | ⟨b, bn⟩
      · omega
      · rw [List.eq_nil_of_length_eq_zero an, List.eq_nil_of_length_eq_zero bn]
  cases e; cases e'; simp_all
theorem bytesForm_len {l : List Nat} (h : U64 l.length) : (bytesForm l).length ≤ l.length + 10 ∧ l.length < (bytesForm l).length := by
  have h1 := form_len64 h
  have h2 : (form l.length) ≠ [] := by
    by_cases h0 : l.length < 128
    · rw [form_lo h0]; simp
    · rw [form_hi h0]; simp
  have h3 : 0 < (form l.length).length := List.length_pos_iff.2 h2
  unfold bytesForm
  rw [List.length_append]
  omega
theorem Ent.form_len {e : Ent} (h : e.may = true) : e.form.length ≤ 65700 := by
  obtain ⟨u1, u2, u3, u4⟩ := Ent.may_u64 h
  obtain ⟨h1, h2, h3, h4, h5⟩ := mayN_iff.1 h
  have a1 := (bytesForm_len u1).1
  have a2 := form_len64 u2
  have a3 := form_len64 u3
  have a4 := (bytesForm_len u4).1
  unfold Ent.form
  split <;> simp only [List.length_append, List.length_nil] <;> rcases h5 with ⟨h5, h6⟩ | ⟨h5, h6⟩ <;> omega
theorem Ent.form_lt {e : Ent} (hk : ∀ x ∈ e.key, x < 256) (hv : ∀ x ∈ e.val, x < 256) : ∀ x ∈ e.form, x < 256 := by
  intro x hx
  unfold Ent.form bytesForm at hx
  simp only [List.mem_append] at hx
  rcases hx with (hx | hx) | hx | hx | hx
  · exact form_bytes _ x hx
  · exact hk x hx
  · exact form_bytes _ x hx
  · exact form_bytes _ x hx
  · split at hx
    · rcases List.mem_append.1 hx with hx | hx
      · exact form_bytes _ x hx
      · exact hv x hx
    · cases hx

/-- Two keys, by their bytes. -/
def cmpK : List Nat → List Nat → Int
  | [], [] => 0
  | [], _ :: _ => -1
  | _ :: _, [] => 1
  | a :: l, b :: bs => if a < b then -1 else if b < a then 1 else cmpK l bs
theorem cmpK_self (a : List Nat) : cmpK a a = 0 := by
  induction a with
  | nil => rfl
  | cons a l ih => simp [cmpK, ih]
theorem cmpK_zero {a b : List Nat} (h : cmpK a b = 0) : a = b := by
  induction a generalizing b with
  | nil => cases b with
    | nil => rfl
    | cons b bs => simp [cmpK] at h
  | cons a l ih =>
    cases b with
    | nil => simp [cmpK] at h
    | cons b bs =>
      simp only [cmpK] at h
      split at h
      · omega
      · split at h
        · omega
        · rw [ih h, show a = b by omega]
theorem cmpK_turn (a b : List Nat) : cmpK b a = -cmpK a b := by
  induction a generalizing b with
  | nil => cases b <;> simp [cmpK]
  | cons a l ih =>
    cases b with
    | nil => simp [cmpK]
    | cons b bs =>
      simp only [cmpK]
      rcases Nat.lt_trichotomy a b with h | h | h
      · rw [if_neg (by omega), if_pos h, if_pos h]; rfl
      · rw [if_neg (by omega), if_neg (by omega), if_neg (by omega), if_neg (by omega)]; exact ih bs
      · rw [if_pos h, if_neg (by omega), if_pos h]
theorem cmpK_range (a b : List Nat) : cmpK a b = -1 ∨ cmpK a b = 0 ∨ cmpK a b = 1 := by
  induction a generalizing b with
  | nil => cases b <;> simp [cmpK]
  | cons a l ih =>
    cases b with
    | nil => simp [cmpK]
    | cons b bs =>
      simp only [cmpK]
      split
      · exact .inl rfl
      · split
        · exact .inr (.inr rfl)
        · exact ih bs
theorem cmpK_lt_trans {a b c : List Nat} (h : cmpK a b = -1) (k : cmpK b c = -1) : cmpK a c = -1 := by
  induction a generalizing b c with
  | nil => cases c with
    | nil => cases b <;> simp [cmpK] at h k
    | cons c cs => rfl
  | cons a l ih =>
    cases b with
    | nil => simp [cmpK] at h
    | cons b bs =>
      cases c with
      | nil => simp [cmpK] at k
      | cons c cs =>
        simp only [cmpK] at h k ⊢
        split at h
        · split at k
          · rw [if_pos (by omega)]
          · split at k
            · omega
            · rw [if_pos (by omega)]
        · split at h
          · omega
          · split at k
            · rw [if_pos (by omega)]
            · split at k
              · omega
              · rw [if_neg (by omega), if_neg (by omega)]; exact ih h k

/-- Two numbers, the greater one first. -/
def cmpS (s t : Int) : Int := if t < s then -1 else if s < t then 1 else 0
/-- Two entries, by their places. -/
def cmpE (a b : Ent) : Int := if cmpK a.key b.key = 0 then cmpS a.seq b.seq else cmpK a.key b.key
theorem cmpE_range (a b : Ent) : cmpE a b = -1 ∨ cmpE a b = 0 ∨ cmpE a b = 1 := by
  unfold cmpE
  split
  · unfold cmpS; split
    · exact .inl rfl
    · split
      · exact .inr (.inr rfl)
      · exact .inr (.inl rfl)
  · exact cmpK_range _ _
theorem cmpE_turn (a b : Ent) : cmpE b a = -cmpE a b := by
  unfold cmpE
  rw [cmpK_turn a.key b.key]
  by_cases h : cmpK a.key b.key = 0
  · rw [if_pos (by omega), if_pos h]
    unfold cmpS
    repeat' split
    all_goals omega
  · rw [if_neg (by omega), if_neg h]
theorem cmpE_zero {a b : Ent} : cmpE a b = 0 ↔ a.key = b.key ∧ a.seq = b.seq := by
  unfold cmpE
  constructor
  · intro h
    split at h
    · rename_i hk
      refine ⟨cmpK_zero hk, ?_⟩
      unfold cmpS at h
      split at h
      · omega
      · split at h
        · omega
        · omega
    · contradiction
  · rintro ⟨h1, h2⟩
    rw [h1, h2, cmpK_self, if_pos rfl]
    simp [cmpS]
theorem cmpE_lt_trans {a b c : Ent} (h : cmpE a b = -1) (k : cmpE b c = -1) : cmpE a c = -1 := by
  unfold cmpE at *
  by_cases h1 : cmpK a.key b.key = 0
  · rw [if_pos h1] at h
    rw [cmpK_zero h1]
    by_cases k1 : cmpK b.key c.key = 0
    · rw [if_pos k1] at k ⊢
      unfold cmpS at *
      split at h <;> split at k <;> (try split at h) <;> (try split at k) <;> (try omega)
    · rw [if_neg k1] at k ⊢
      exact k
  · rw [if_neg h1] at h
    by_cases k1 : cmpK b.key c.key = 0
    · rw [← cmpK_zero k1, if_neg h1]; exact h
    · rw [if_neg k1] at k
      have := cmpK_lt_trans h k
      rw [if_neg (by omega)]; exact this
/-- Three in a row. -/
theorem cmpE_row {a b c : Ent} (h : cmpE a b ≤ 0) (k : cmpE b c ≤ 0) : cmpE a c ≤ 0 := by
  by_cases h1 : cmpE a b = 0
  · obtain ⟨e1, e2⟩ := cmpE_zero.1 h1
    have : cmpE a c = cmpE b c := by unfold cmpE; rw [e1, e2]
    omega
  · by_cases k1 : cmpE b c = 0
    · obtain ⟨e1, e2⟩ := cmpE_zero.1 k1
      have : cmpE a c = cmpE a b := by unfold cmpE; rw [e1, e2]
      omega
    · have h2 := cmpE_range a b
      have k2 := cmpE_range b c
      have := cmpE_lt_trans (a := a) (b := b) (c := c) (by omega) (by omega)
      omega
end Go.Proofs.Ytlnihaeeoolkhaa

/- A region that draws its order, by facts: each operation, whenever it comes up, gives a value of which a fact holds that stays true in later worlds; so behind all of them all facts hold, whatever the order was. -/
namespace Go.Proofs.Ytlnihaeeoolkhaa
open Go.RowKit

/-- A fact that later worlds keep. -/
def Mono (p : Value → World → Prop) : Prop := ∀ v u u', p v u → Ext u u' → p v u'
/-- The value is this one. -/
def Is (c : Value) : Value → World → Prop := fun v _ => v = c
theorem Mono.is (c : Value) : Mono (Is c) := fun _ _ _ h _ => h
/-- The j-th of the facts. -/
def fact (φ : List (Value → World → Prop)) (j : Nat) (v : Value) (u : World) : Prop := (φ.getD j fun _ _ => True) v u
theorem fact_mono {φ : List (Value → World → Prop)} (h : ∀ p ∈ φ, Mono p) (j : Nat) {v : Value} {u u' : World} (hf : fact φ j v u) (hu : Ext u u') : fact φ j v u' := by
  unfold fact at *
  by_cases hj : j < φ.length
  · have e : φ.getD j (fun _ _ => True) = φ[j] := by simp [List.getD, List.getElem?_eq_getElem hj]
    rw [e] at hf ⊢
    exact h _ (List.getElem_mem hj) _ _ _ hf hu
  · have e : φ.getD j (fun _ _ => True) = fun _ _ => True := by simp [List.getD, List.getElem?_eq_none (Nat.le_of_not_lt hj)]
    rw [e]; trivial

/-- Operation o must come behind the j-th. -/
def aft (o : Oper) (j : Nat) : Bool := o.after.any fun e => Region.binds .any e && e.on == j
/-- What a run gives. -/
def GivesR (P : Program) (r : Result Next) (R : Value → World → Prop) : Prop := match r with
  | .ok (.value v) u' => R v u'
  | .ok .skip u' => R undef u'
  | .ok (.enter f args) u' => Calls P f args u' fun e w => ∃ v, e = .returned v ∧ R v w
  | _ => False
/-- What is kept of an operation's value. -/
def kept (o : Oper) (v : Value) : Value := match o.dst with | some _ => v | none => undef
/-- Each operation gives its fact. -/
def Obls (P : Program) (ops : Array Oper) (φ : List (Value → World → Prop)) (w0 : World) (f : Nat → Value) : Nat → List Oper → Act → Prop
  | _, [], _ => True
  | k, o :: rest, a => (∀ u, Ext w0 u → (∀ j, aft o j = true → fact φ j (f j) u) →
      if Region.wanted o (yielded ops a.tmps) = true then GivesR P ((execOp a.eval o).run P u) (fun v u' => Ext u u' ∧ fact φ k (kept o v) u') else fact φ k undef u) ∧ Obls P ops φ w0 f (k + 1) rest (a.put o.dst (f k))
/-- The values laid into their slots. -/
def puts (g : Nat → Value) : Nat → List Oper → Act → Act
  | _, [], a => a
  | k, o :: rest, a => puts g (k + 1) rest (a.put o.dst (g k))

/-- What the theorem asks of a region, to be reckoned. -/
def flowOk (ops : Array Oper) (size : Nat) : Bool :=
  (List.range ops.size).all fun i => match ops[i]? with
    | none => false
    | some oi => oi.after.all (fun e => !Region.binds .any e || decide (e.on < i)) &&
      (match oi.guard with | some (g, _) => aft oi g | none => true) &&
      (match oi.dst with | some d => decide (d < size) | none => true) &&
      (List.range ops.size).all fun j => match ops[j]? with
        | none => false
        | some oj => match oj.dst with
          | none => true
          | some d => (j == i || oi.dst != some d) && (!(oi.looksAt ops).contains d || aft oi j || aft oj i)

theorem flowOk_at {ops : Array Oper} {size i : Nat} {oi : Oper} (h : flowOk ops size = true) (hi : ops[i]? = some oi) :
    (∀ e ∈ oi.after, Region.binds .any e = true → e.on < i) ∧ (∀ g b, oi.guard = some (g, b) → aft oi g = true) ∧ (∀ d, oi.dst = some d → d < size) ∧
    ∀ j oj d, ops[j]? = some oj → oj.dst = some d → (j ≠ i → oi.dst ≠ some d) ∧ (d ∈ oi.looksAt ops → aft oi j = true ∨ aft oj i = true) := by
  have hlt : i < ops.size := (Array.getElem?_eq_some_iff.1 hi).1
  unfold flowOk at h
  rw [List.all_eq_true] at h
  have h1 := h i (List.mem_range.2 hlt)
  simp only [hi, Bool.and_eq_true] at h1
  obtain ⟨⟨⟨ha, hb⟩, hc⟩, hd⟩ := h1
  refine ⟨fun e he hbind => ?_, fun g b hg => ?_, fun d hd' => ?_, fun j oj d hj hjd => ?_⟩
  · have := (Array.all_eq_true_iff_forall_mem.1 ha) e he
    simpa [hbind] using this
  · simpa [hg] using hb
  · simpa [hd'] using hc
  · rw [List.all_eq_true] at hd
    have h2 := hd j (List.mem_range.2 (Array.getElem?_eq_some_iff.1 hj).1)
    simp only [hj, hjd, Bool.and_eq_true, Bool.or_eq_true, beq_iff_eq, bne_iff_ne, ne_eq, Bool.not_eq_true'] at h2
    obtain ⟨x, y⟩ := h2
    refine ⟨fun hne => x.resolve_left hne, fun hm => ?_⟩
    rcases y with (y | y) | y
    · have : (oi.looksAt ops).contains d = true := by simpa using hm
      rw [y] at this; cases this
    · exact .inl y
    · exact .inr y

/-- The value in an operation's slot. -/
def slot (a : Act) (o : Oper) : Value := match o.dst with | some d => a.tmps.getD d undef | none => undef

theorem put_get (a : Act) (dst : Option Tmp) (v : Value) (s : Nat) : (a.put dst v).tmps[s]? = if dst = some s ∧ s < a.tmps.size then some v else a.tmps[s]? := by
  cases dst with
  | none => simp [Act.put]
  | some d =>
    simp only [Act.put, Array.getElem?_setIfInBounds]
    by_cases h : d = s
    · subst h
      by_cases h2 : d < a.tmps.size <;> simp [h2]
    · simp [h]
theorem put_size (a : Act) (dst : Option Tmp) (v : Value) : (a.put dst v).tmps.size = a.tmps.size := by cases dst <;> simp [Act.put]
theorem put_defers' (a : Act) (dst : Option Tmp) (v : Value) : (a.put dst v).defers = a.defers := by cases dst <;> rfl

/-- The slots behind some of the operations, by index. -/
theorem puts_get (g : Nat → Value) : ∀ (l : List Oper) (k : Nat) (a : Act) (s : Nat), s < a.tmps.size → (∀ (i j : Nat) (oi oj : Oper), l[i]? = some oi → l[j]? = some oj → oi.dst = some s → oj.dst = some s → i = j) →
    ((∀ (j : Nat) (o : Oper), l[j]? = some o → o.dst ≠ some s) → (puts g k l a).tmps[s]? = a.tmps[s]?) ∧ (∀ (j : Nat) (o : Oper), l[j]? = some o → o.dst = some s → (puts g k l a).tmps[s]? = some (g (k + j))) := by
  intro l
  induction l with
  | nil => intro k a s _ _; exact ⟨fun _ => rfl, fun j o h => by simp at h⟩
  | cons o l ih =>
    intro k a s hs hu
    have hu' : ∀ (i j : Nat) (oi oj : Oper), l[i]? = some oi → l[j]? = some oj → oi.dst = some s → oj.dst = some s → i = j := fun i j oi oj hi hj h1 h2 => by
      have := hu (i + 1) (j + 1) oi oj (by simpa using hi) (by simpa using hj) h1 h2; omega
    obtain ⟨h1, h2⟩ := ih (k + 1) (a.put o.dst (g k)) s (by rw [put_size]; exact hs) hu'
    refine ⟨fun hn => ?_, fun j oj hj hd => ?_⟩
    · show (puts g (k + 1) l (a.put o.dst (g k))).tmps[s]? = _
      rw [h1 (fun j oj hj => hn (j + 1) oj (by simpa using hj)), put_get, if_neg (fun h => hn 0 o (by simp) h.1)]
    · show (puts g (k + 1) l (a.put o.dst (g k))).tmps[s]? = _
      cases j with
      | zero =>
        simp at hj; subst hj
        have hno : ∀ (j : Nat) (oj : Oper), l[j]? = some oj → oj.dst ≠ some s := fun j oj hj h => by
          have := hu 0 (j + 1) o oj (by simp) (by simpa using hj) hd h; omega
        rw [h1 hno, put_get, if_pos ⟨hd, hs⟩]; rfl
      | succ j =>
        have := h2 j oj (by simpa using hj) hd
        rw [this, show k + 1 + j = k + (j + 1) by omega]
theorem puts_size (g : Nat → Value) : ∀ (l : List Oper) (k : Nat) (a : Act), (puts g k l a).tmps.size = a.tmps.size := by
  intro l
  induction l with
  | nil => intro k a; rfl
  | cons o l ih => intro k a; exact (ih _ _).trans (put_size _ _ _)
theorem puts_defers (g : Nat → Value) : ∀ (l : List Oper) (k : Nat) (a : Act), (puts g k l a).defers = a.defers := by
  intro l
  induction l with
  | nil => intro k a; rfl
  | cons o l ih => intro k a; exact (ih _ _).trans (put_defers' _ _ _)

theorem Obls.at {P : Program} {ops : Array Oper} {φ : List (Value → World → Prop)} {w0 : World} {f : Nat → Value} : ∀ (l : List Oper) (k : Nat) (a : Act), Obls P ops φ w0 f k l a → ∀ (i : Nat) (o : Oper), l[i]? = some o →
    ∀ u, Ext w0 u → (∀ j, aft o j = true → fact φ j (f j) u) →
      if Region.wanted o (yielded ops (puts f k (l.take i) a).tmps) = true then GivesR P ((execOp (puts f k (l.take i) a).eval o).run P u) (fun v u' => Ext u u' ∧ fact φ (k + i) (kept o v) u') else fact φ (k + i) undef u := by
  intro l
  induction l with
  | nil => intro k a _ i o h; simp at h
  | cons o l ih =>
    intro k a h i oi hi
    cases i with
    | zero => simp at hi; subst hi; exact h.1
    | succ i =>
      have := ih (k + 1) _ h.2 i oi (by simpa using hi)
      simp only [List.take_succ_cons, puts]
      rw [show k + (i + 1) = k + 1 + i by omega]
      exact this

structure Inv (ops : Array Oper) (φ : List (Value → World → Prop)) (a0 : Act) (w0 : World) (seen : Array Bool) (a : Act) (u : World) : Prop where
  ext : Ext w0 u
  size : seen.size = ops.size
  defs : a.defers = a0.defers
  tsz : a.tmps.size = a0.tmps.size
  old : ∀ s, (∀ (j : Nat) (oj : Oper), ops[j]? = some oj → seen.getD j false = true → oj.dst ≠ some s) → a.tmps[s]? = a0.tmps[s]?
  facts : ∀ (j : Nat) (oj : Oper), ops[j]? = some oj → seen.getD j false = true → fact φ j (slot a oj) u
  closed : ∀ (j : Nat) (oj : Oper), ops[j]? = some oj → seen.getD j false = true → ∀ k, aft oj k = true → seen.getD k false = true

theorem aft_lt {ops : Array Oper} {size i k : Nat} {oi : Oper} (h : flowOk ops size = true) (hi : ops[i]? = some oi) (hk : aft oi k = true) : k < i := by
  unfold aft at hk
  obtain ⟨e, he, hb⟩ := Array.any_eq_true'.1 hk
  simp only [Bool.and_eq_true, beq_iff_eq] at hb
  rw [← hb.2]
  exact (flowOk_at h hi).1 e he hb.1

section
variable {P : Program} {ops : Array Oper} {Q : Exit → Act → World → Prop} {φ : List (Value → World → Prop)} {a0 : Act} {w0 : World}

/-- What stands in the slots of operation i's fact. -/
def held (ops : Array Oper) (a : Act) (j : Nat) : Value := match ops[j]? with | some oj => slot a oj | none => undef

theorem look_same {seen : Array Bool} {a : Act} {u : World} (hok : flowOk ops a0.tmps.size = true) (hI : Inv ops φ a0 w0 seen a u) {i : Nat} {oi : Oper} (hi : ops[i]? = some oi) (hn : seen.getD i false = false)
    {t : Nat} (ht : t ∈ oi.looksAt ops) : a.tmps[t]? = (puts (held ops a) 0 (ops.toList.take i) a0).tmps[t]? := by
  by_cases hsz : t < a0.tmps.size
  · have hlen : i < ops.toList.length := by simpa using (Array.getElem?_eq_some_iff.1 hi).1
    have conv : ∀ (j : Nat) (o : Oper), (ops.toList.take i)[j]? = some o → j < i ∧ ops[j]? = some o := fun j o h => by
      rw [List.getElem?_take] at h
      split at h
      · rename_i hj; exact ⟨hj, by rw [← Array.getElem?_toList]; exact h⟩
      · cases h
    have huniq : ∀ (x y : Nat) (ox oy : Oper), (ops.toList.take i)[x]? = some ox → (ops.toList.take i)[y]? = some oy → ox.dst = some t → oy.dst = some t → x = y := fun x y ox oy hx hy h1 h2 => by
      rcases Nat.decEq x y with hne | he
      · exact absurd h1 (((flowOk_at hok (conv x ox hx).2).2.2.2 y oy t (conv y oy hy).2 h2).1 (fun e => hne e.symm))
      · exact he
    obtain ⟨h1, h2⟩ := puts_get (held ops a) (ops.toList.take i) 0 a0 t hsz huniq
    by_cases hex : ∃ (j : Nat) (oj : Oper), (ops.toList.take i)[j]? = some oj ∧ oj.dst = some t
    · obtain ⟨j, oj, hj, hd⟩ := hex
      rw [h2 j oj hj hd, Nat.zero_add]
      have hj' := (conv j oj hj).2
      have hlt := (conv j oj hj).1
      simp only [held, hj', slot, hd]
      have hts : t < a.tmps.size := by rw [hI.tsz]; exact hsz
      simp [Array.getD, hts]
    · have hex' : ∀ (j : Nat) (o : Oper), (ops.toList.take i)[j]? = some o → o.dst ≠ some t := fun j o hj hd => hex ⟨j, o, hj, hd⟩
      rw [h1 hex']
      refine hI.old t fun j oj hj hsj hd => ?_
      rcases ((flowOk_at hok hi).2.2.2 j oj t hj hd).2 ht with h | h
      · have hlt := aft_lt hok hi h
        refine hex' j oj ?_ hd
        rw [List.getElem?_take, if_pos hlt, Array.getElem?_toList]; exact hj
      · have := hI.closed j oj hj hsj i h
        rw [hn] at this; cases this
  · have e1 : a.tmps[t]? = none := Array.getElem?_eq_none (by rw [hI.tsz]; omega)
    have e2 : (puts (held ops a) 0 (ops.toList.take i) a0).tmps[t]? = none := Array.getElem?_eq_none (by rw [puts_size]; omega)
    rw [e1, e2]

theorem set_getD (seen : Array Bool) (i j : Nat) : (seen.setIfInBounds i true).getD j false = if i = j ∧ j < seen.size then true else seen.getD j false := by
  by_cases h : i = j
  · subst h
    by_cases h2 : i < seen.size <;> simp [Array.getD, h2]
  · rw [if_neg (fun e => h e.1), Array.getD_eq_getD_getElem?, Array.getD_eq_getD_getElem?, Array.getElem?_setIfInBounds_ne h]

theorem Inv.next {seen : Array Bool} {a : Act} {u u' : World} (hok : flowOk ops a0.tmps.size = true) (hmono : ∀ p ∈ φ, Mono p) (hI : Inv ops φ a0 w0 seen a u) {i : Nat} {oi : Oper} (hi : ops[i]? = some oi)
    (hs : ∀ k, aft oi k = true → seen.getD k false = true) {v : Value} (hu : Ext u u') (hf : fact φ i (kept oi v) u') : Inv ops φ a0 w0 (seen.setIfInBounds i true) (a.put oi.dst v) u' := by
  refine ⟨hI.ext.trans hu, by simp [hI.size], by rw [put_defers']; exact hI.defs, by rw [put_size]; exact hI.tsz, fun s h => ?_, fun j oj hj hsj => ?_, fun j oj hj hsj k hk => ?_⟩
  · have hlt : i < seen.size := by rw [hI.size]; exact (Array.getElem?_eq_some_iff.1 hi).1
    have hne : oi.dst ≠ some s := h i oi hi (by rw [set_getD, if_pos ⟨rfl, hlt⟩])
    rw [put_get, if_neg (fun h => hne h.1)]
    refine hI.old s fun j oj hj hsj => h j oj hj ?_
    rw [set_getD]
    split
    · rfl
    · exact hsj
  · rw [set_getD] at hsj
    by_cases hij : i = j
    · subst hij
      rw [hi] at hj
      injection hj with hj
      subst hj
      have e : slot (a.put oi.dst v) oi = kept oi v := by
        unfold slot kept
        cases hd : oi.dst with
        | none => rfl
        | some d =>
          have hds := (flowOk_at hok hi).2.2.1 d hd
          have hd2 : d < a.tmps.size := by rw [hI.tsz]; exact hds
          simp [Act.put, Array.getD, hd2]
      rw [e]; exact hf
    · rw [if_neg (fun h => hij h.1)] at hsj
      have e : slot (a.put oi.dst v) oj = slot a oj := by
        unfold slot
        cases hd : oj.dst with
        | none => rfl
        | some d =>
          have hne := ((flowOk_at hok hi).2.2.2 j oj d hj hd).1 (fun e => hij e.symm)
          have := put_get a oi.dst v d
          rw [if_neg (fun h => hne h.1)] at this
          show (a.put oi.dst v).tmps.getD d undef = a.tmps.getD d undef
          rw [Array.getD_eq_getD_getElem?, this, ← Array.getD_eq_getD_getElem?]
      rw [e]
      exact fact_mono hmono j (hI.facts j oj hj hsj) hu
  · rw [set_getD] at hsj ⊢
    split
    · rfl
    · rename_i hk2
      by_cases hij : i = j
      · subst hij
        rw [hi] at hj
        injection hj with hj
        subst hj
        exact hs k hk
      · rw [if_neg (fun h => hij h.1)] at hsj
        exact hI.closed j oj hj hsj k hk

theorem getD_both (seen : Array Bool) {i : Nat} (h : i < seen.size) : seen.getD i true = seen.getD i false := by simp [Array.getD, h]

theorem gives_wp {o : Oper} {a : Act} {u : World} {R : Value → World → Prop} {K : Act → World → Prop} (h : GivesR P ((execOp a.eval o).run P u) R) (hK : ∀ v u', R v u' → K (a.put o.dst v) u') : o.wp P a u K Q := by
  unfold Oper.wp
  generalize (execOp a.eval o).run P u = r at h
  cases r with
  | ok n w' =>
    cases n <;> simp only [GivesR, Oper.upon] at h ⊢ <;> first | exact hK _ _ h | exact h.elim | exact Calls.mono h (fun e w'' he => by obtain ⟨v, rfl, hv⟩ := he; exact hK _ _ hv)
  | halt x w' => exact h.elim

theorem flow_step {seen : Array Bool} {a : Act} {u : World} {m : Nat} (hok : flowOk ops a0.tmps.size = true) (hsel : Region.noSelect ops = true) (hmono : ∀ p ∈ φ, Mono p) (hobl : ∀ f, Obls P ops φ w0 f 0 (ops.toList.take m) a0)
    (hI : Inv ops φ a0 w0 seen a u) {i : Nat} (him : i < m) (hr : i ∈ Region.ready .any ops seen) : wpOp P ops Q i (fun b u' => Inv ops φ a0 w0 (seen.setIfInBounds i true) b u') a u := by
  obtain ⟨hun, oi, hi, hall⟩ := mem_ready.1 hr
  have hlt : i < ops.size := (Array.getElem?_eq_some_iff.1 hi).1
  have hn : seen.getD i false = false := by rw [← getD_both seen (by rw [hI.size]; exact hlt)]; simpa using hun
  have hs : ∀ k, aft oi k = true → seen.getD k false = true := fun k hk => by
    unfold aft at hk
    obtain ⟨e, he, hb⟩ := Array.any_eq_true'.1 hk
    simp only [Bool.and_eq_true, beq_iff_eq] at hb
    rw [← hb.2]
    exact hall e he hb.1
  have hlook := fun {t : Nat} (ht : t ∈ oi.looksAt ops) => look_same hok hI hi hn ht
  have hfacts : ∀ j, aft oi j = true → fact φ j (held ops a j) u := fun j hj => by
    have hjl := aft_lt hok hi hj
    have hoj : ops[j]? = some ops[j] := Array.getElem?_eq_getElem (by omega)
    have := hI.facts j _ hoj (hs j hj)
    simp only [held, hoj]
    exact this
  have hO := Obls.at (ops.toList.take m) 0 a0 (hobl (held ops a)) i oi (by rw [List.getElem?_take, if_pos him, Array.getElem?_toList]; exact hi) u hI.ext hfacts
  rw [Nat.zero_add, List.take_take, Nat.min_eq_left (Nat.le_of_lt him)] at hO
  have hex : execOp (puts (held ops a) 0 (ops.toList.take i) a0).eval oi = execOp a.eval oi := by
    refine execOp_congr oi (fun cs b => Region.noSelect_spec hsel i oi cs b hi) fun x hx => ?_
    cases x with
    | tmp t =>
      have ht : t ∈ oi.looksAt ops := by
        unfold Oper.looksAt
        refine List.mem_append_left _ (List.mem_filterMap.2 ⟨.tmp t, by simpa using hx, rfl⟩)
      show Array.getD _ t undef = Array.getD _ t undef
      rw [Array.getD_eq_getD_getElem?, Array.getD_eq_getD_getElem?, hlook ht]
    | _ => rfl
  have hwt : Region.wanted oi (yielded ops (puts (held ops a) 0 (ops.toList.take i) a0).tmps) = Region.wanted oi (yielded ops a.tmps) := by
    unfold Region.wanted
    cases hg : oi.guard with
    | none => rfl
    | some gb =>
      obtain ⟨g, b⟩ := gb
      have e : yielded ops (puts (held ops a) 0 (ops.toList.take i) a0).tmps g = yielded ops a.tmps g := by
        unfold yielded
        cases hd : (ops[g]?).bind (·.dst) with
        | none => rfl
        | some d =>
          have ht : d ∈ oi.looksAt ops := by
            unfold Oper.looksAt
            rw [hg]
            refine List.mem_append_right _ ?_
            simp only [hd]
            simp
          show (match (puts (held ops a) 0 (ops.toList.take i) a0).tmps[d]? with | some (Value.bool b) => some b | _ => none) = _
          rw [← hlook ht]
          rfl
      simp only [e]
  rw [hex, hwt] at hO
  unfold wpOp
  simp only [hi]
  split
  · rename_i hw
    rw [if_pos hw] at hO
    exact .inl (gives_wp hO fun v u' h => hI.next hok hmono hi hs h.1 h.2)
  · rename_i hw
    rw [if_neg hw] at hO
    refine hI.next hok hmono hi hs (Ext.refl u) ?_
    have : kept oi undef = undef := by unfold kept; cases oi.dst <;> rfl
    rw [this]; exact hO

/-- How many have not come up. -/
def left (ops : Array Oper) (seen : Array Bool) : Nat := (List.range ops.size).countP fun i => !seen.getD i false
theorem left_next {seen : Array Bool} (hs : seen.size = ops.size) {i : Nat} (hi : i < ops.size) (hn : seen.getD i false = false) : left ops (seen.setIfInBounds i true) + 1 = left ops seen := by
  unfold left
  have key : ∀ n, i < n → n ≤ ops.size → (List.range n).countP (fun j => !(seen.setIfInBounds i true).getD j false) + 1 = (List.range n).countP fun j => !seen.getD j false := by
    intro n
    induction n with
    | zero => intro h; omega
    | succ n ih =>
      intro h1 h2
      rw [List.range_succ, List.countP_append, List.countP_append]
      by_cases h : i = n
      · subst h
        have e : (List.range i).countP (fun j => !(seen.setIfInBounds i true).getD j false) = (List.range i).countP fun j => !seen.getD j false := by
          apply List.countP_congr
          intro j hj
          rw [set_getD, if_neg (by simp at hj; omega)]
        rw [e]
        have e2 : (seen.setIfInBounds i true).getD i false = true := by rw [set_getD, if_pos ⟨rfl, by omega⟩]
        simp only [List.countP_cons, List.countP_nil, e2, hn]
        simp
      · have := ih (by omega) (by omega)
        have e : (!(seen.setIfInBounds i true).getD n false) = !seen.getD n false := by rw [set_getD, if_neg (by omega)]
        simp only [List.countP_cons, List.countP_nil, e]
        omega
  exact key ops.size hi (Nat.le_refl _)

theorem all_seen {seen : Array Bool} {a : Act} {u : World} (hok : flowOk ops a0.tmps.size = true) (hI : Inv ops φ a0 w0 seen a u) (hr : Region.ready .any ops seen = []) : ∀ i, i < ops.size → seen.getD i false = true := by
  intro i
  induction i using Nat.strongRecOn with
  | ind i ih =>
    intro hlt
    rcases h : seen.getD i false with _ | _
    · have hi : ops[i]? = some ops[i] := Array.getElem?_eq_getElem hlt
      have : i ∈ Region.ready .any ops seen := mem_ready.2 ⟨by rw [getD_both seen (by rw [hI.size]; exact hlt)]; exact h, ops[i], hi, fun e he hb => by
        have := (flowOk_at hok hi).1 e he hb
        exact ih e.on this (by omega)⟩
      rw [hr] at this; cases this
    · rfl

theorem act_is {seen : Array Bool} {a : Act} {u : World} (hok : flowOk ops a0.tmps.size = true) (hI : Inv ops φ a0 w0 seen a u) : a = puts (held ops a) 0 ops.toList a0 := by
  have hd : a.defers = (puts (held ops a) 0 ops.toList a0).defers := by rw [puts_defers]; exact hI.defs
  have ht : a.tmps = (puts (held ops a) 0 ops.toList a0).tmps := by
    apply Array.ext_getElem?
    intro t
    by_cases hsz : t < a0.tmps.size
    · have conv : ∀ (j : Nat) (o : Oper), ops.toList[j]? = some o → ops[j]? = some o := fun j o h => by rw [← Array.getElem?_toList]; exact h
      have huniq : ∀ (x y : Nat) (ox oy : Oper), ops.toList[x]? = some ox → ops.toList[y]? = some oy → ox.dst = some t → oy.dst = some t → x = y := fun x y ox oy hx hy h1 h2 => by
        rcases Nat.decEq x y with hne | he
        · exact absurd h1 (((flowOk_at hok (conv x ox hx)).2.2.2 y oy t (conv y oy hy) h2).1 (fun e => hne e.symm))
        · exact he
      obtain ⟨h1, h2⟩ := puts_get (held ops a) ops.toList 0 a0 t hsz huniq
      by_cases hex : ∃ (j : Nat) (oj : Oper), ops.toList[j]? = some oj ∧ oj.dst = some t
      · obtain ⟨j, oj, hj, hd⟩ := hex
        rw [h2 j oj hj hd, Nat.zero_add]
        simp only [held, conv j oj hj, slot, hd]
        have hts : t < a.tmps.size := by rw [hI.tsz]; exact hsz
        simp [Array.getD, hts]
      · have hex' : ∀ (j : Nat) (o : Oper), ops.toList[j]? = some o → o.dst ≠ some t := fun j o hj hd => hex ⟨j, o, hj, hd⟩
        rw [h1 hex']
        exact hI.old t fun j oj hj _ => hex' j oj (by rw [Array.getElem?_toList]; exact hj)
    · rw [Array.getElem?_eq_none (by rw [hI.tsz]; omega), Array.getElem?_eq_none (by rw [puts_size]; omega)]
  have ext : ∀ x y : Act, x.tmps = y.tmps → x.defers = y.defers → x = y := by rintro ⟨_, _⟩ ⟨_, _⟩ rfl rfl; rfl
  exact ext _ _ ht hd

theorem flow_any (hok : flowOk ops a0.tmps.size = true) (hsel : Region.noSelect ops = true) (hmono : ∀ p ∈ φ, Mono p) (hobl : ∀ f, Obls P ops φ w0 f 0 ops.toList a0)
    (hfin : ∀ (g : Nat → Value) u, Ext w0 u → (∀ j, j < ops.size → fact φ j (g j) u) → Q .normal (puts g 0 ops.toList a0) u) :
    ∀ (n : Nat) (seen : Array Bool) (a : Act) (u : World), Inv ops φ a0 w0 seen a u → left ops seen = n → wpAny P .any ops Q n seen a u := by
  have done : ∀ (seen : Array Bool) (a : Act) (u : World), Inv ops φ a0 w0 seen a u → (∀ i, i < ops.size → seen.getD i false = true) → Q .normal a u := fun seen a u hI hall => by
    rw [act_is hok hI]
    refine hfin _ _ hI.ext fun j hj => ?_
    have hoj : ops[j]? = some ops[j] := Array.getElem?_eq_getElem hj
    simp only [held, hoj]
    exact hI.facts j _ hoj (hall j hj)
  intro n
  induction n with
  | zero =>
    intro seen a u hI hl
    have hall : ∀ i, i < ops.size → seen.getD i false = true := fun i hi => by
      have := List.countP_eq_zero.1 hl i (List.mem_range.2 hi)
      simpa using this
    refine ⟨?_, done seen a u hI hall⟩
    refine List.eq_nil_iff_forall_not_mem.2 fun i hi => ?_
    obtain ⟨hun, oi, hio, _⟩ := mem_ready.1 hi
    have hlt := (Array.getElem?_eq_some_iff.1 hio).1
    rw [getD_both seen (by rw [hI.size]; exact hlt), hall i hlt] at hun
    cases hun
  | succ n ih =>
    intro seen a u hI hl
    refine ⟨fun hr => done seen a u hI (all_seen hok hI hr), fun i hi => ?_⟩
    refine wpOp_mono (fun b u' hb => ih _ b u' hb ?_) (flow_step (m := ops.size) hok hsel hmono (fun f => by rw [List.take_of_length_le (by simp)]; exact hobl f) hI (Array.getElem?_eq_some_iff.1 (mem_ready.1 hi).2.choose_spec.1).1 hi)
    obtain ⟨hun, oi, hio, _⟩ := mem_ready.1 hi
    have hlt := (Array.getElem?_eq_some_iff.1 hio).1
    rw [getD_both seen (by rw [hI.size]; exact hlt)] at hun
    have := left_next hI.size hlt hun
    omega

/-- A region that draws its order, by facts. -/
theorem flow {id : Nat} {w : World} (hm : P.follows .mixedOrders = true) (φ : List (Value → World → Prop)) (hok : flowOk ops a0.tmps.size = true) (hsel : Region.noSelect ops = true) (hmono : ∀ p ∈ φ, Mono p)
    (hobl : ∀ f, Obls P ops φ w.drew f 0 ops.toList a0)
    (hfin : ∀ (g : Nat → Value) u, Ext w.drew u → (∀ j, j < ops.size → fact φ j (g j) u) → Q .normal (puts g 0 ops.toList a0) u) : (Code.region id ops true).wp P Q a0 w := by
  refine wp_region_any hm (flow_any hok hsel hmono hobl hfin _ _ _ _ ⟨Ext.refl _, by simp, rfl, rfl, fun _ _ => rfl, fun j oj hj hs => ?_, fun j oj hj hs => ?_⟩ ?_)
  · have hlt := (Array.getElem?_eq_some_iff.1 hj).1
    simp [Array.getD, hlt] at hs
  · have hlt := (Array.getElem?_eq_some_iff.1 hj).1
    simp [Array.getD, hlt] at hs
  · unfold left
    rw [List.countP_eq_length.2]
    · simp
    · intro i hi
      have hlt := List.mem_range.1 hi
      simp [Array.getD, hlt]

theorem inv_start {w : World} : Inv ops φ a0 w (Array.replicate ops.size false) a0 w := by
  refine ⟨Ext.refl _, by simp, rfl, rfl, fun _ _ => rfl, fun j oj hj hs => ?_, fun j oj hj hs => ?_⟩
  · have hlt := (Array.getElem?_eq_some_iff.1 hj).1
    simp [Array.getD, hlt] at hs
  · have hlt := (Array.getElem?_eq_some_iff.1 hj).1
    simp [Array.getD, hlt] at hs
theorem left_start : left ops (Array.replicate ops.size false) = ops.size := by
  unfold left
  rw [List.countP_eq_length.2]
  · simp
  · intro i hi
    have hlt := List.mem_range.1 hi
    simp [Array.getD, hlt]

/-- Just before the last operation: what stands in the slots. -/
theorem act_before {seen : Array Bool} {a : Act} {u : World} {m : Nat} (hok : flowOk ops a0.tmps.size = true) (hI : Inv ops φ a0 w0 seen a u) (hm : m + 1 = ops.size) (hn : seen.getD m false = false) : a = puts (held ops a) 0 (ops.toList.take m) a0 := by
  have hd : a.defers = (puts (held ops a) 0 (ops.toList.take m) a0).defers := by rw [puts_defers]; exact hI.defs
  have conv : ∀ (j : Nat) (o : Oper), (ops.toList.take m)[j]? = some o → j < m ∧ ops[j]? = some o := fun j o h => by
    rw [List.getElem?_take] at h
    split at h
    · rename_i hj; exact ⟨hj, by rw [← Array.getElem?_toList]; exact h⟩
    · cases h
  have ht : a.tmps = (puts (held ops a) 0 (ops.toList.take m) a0).tmps := by
    apply Array.ext_getElem?
    intro t
    by_cases hsz : t < a0.tmps.size
    · have huniq : ∀ (x y : Nat) (ox oy : Oper), (ops.toList.take m)[x]? = some ox → (ops.toList.take m)[y]? = some oy → ox.dst = some t → oy.dst = some t → x = y := fun x y ox oy hx hy h1 h2 => by
        rcases Nat.decEq x y with hne | he
        · exact absurd h1 (((flowOk_at hok (conv x ox hx).2).2.2.2 y oy t (conv y oy hy).2 h2).1 (fun e => hne e.symm))
        · exact he
      obtain ⟨h1, h2⟩ := puts_get (held ops a) (ops.toList.take m) 0 a0 t hsz huniq
      by_cases hex : ∃ (j : Nat) (oj : Oper), (ops.toList.take m)[j]? = some oj ∧ oj.dst = some t
      · obtain ⟨j, oj, hj, hd⟩ := hex
        rw [h2 j oj hj hd, Nat.zero_add]
        simp only [held, (conv j oj hj).2, slot, hd]
        have hts : t < a.tmps.size := by rw [hI.tsz]; exact hsz
        simp [Array.getD, hts]
      · have hex' : ∀ (j : Nat) (o : Oper), (ops.toList.take m)[j]? = some o → o.dst ≠ some t := fun j o hj hd => hex ⟨j, o, hj, hd⟩
        rw [h1 hex']
        refine hI.old t fun j oj hj hs => ?_
        have hjm : j ≠ m := fun e => by subst e; rw [hn] at hs; cases hs
        have hlt := (Array.getElem?_eq_some_iff.1 hj).1
        exact hex' j oj (by rw [List.getElem?_take, if_pos (by omega), Array.getElem?_toList]; exact hj)
    · rw [Array.getElem?_eq_none (by rw [hI.tsz]; omega), Array.getElem?_eq_none (by rw [puts_size]; omega)]
  have ext : ∀ x y : Act, x.tmps = y.tmps → x.defers = y.defers → x = y := by rintro ⟨_, _⟩ ⟨_, _⟩ rfl rfl; rfl
  exact ext _ _ ht hd

/-- A region whose last operation waits for all others: that one may do what it likes. -/
theorem flow_last_any {m : Nat} {ol : Oper} (hok : flowOk ops a0.tmps.size = true) (hsel : Region.noSelect ops = true) (hm : m + 1 = ops.size) (hol : ops[m]? = some ol) (hall : (List.range m).all (aft ol) = true) (hmono : ∀ p ∈ φ, Mono p)
    (hobl : ∀ f, Obls P ops φ w0 f 0 (ops.toList.take m) a0)
    (hfin : ∀ (g : Nat → Value) u, Ext w0 u → (∀ j, j < m → fact φ j (g j) u) → if Region.wanted ol (yielded ops (puts g 0 (ops.toList.take m) a0).tmps) = true then ol.wp P (puts g 0 (ops.toList.take m) a0) u (fun b u' => Q .normal b u') Q else Q .normal ((puts g 0 (ops.toList.take m) a0).put ol.dst undef) u) :
    ∀ (n : Nat) (seen : Array Bool) (a : Act) (u : World), Inv ops φ a0 w0 seen a u → seen.getD m false = false → left ops seen = n → wpAny P .any ops Q n seen a u := by
  intro n
  induction n with
  | zero =>
    intro seen a u hI hn hl
    have := List.countP_eq_zero.1 hl m (List.mem_range.2 (by omega))
    rw [hn] at this; simp at this
  | succ n ih =>
    intro seen a u hI hn hl
    refine ⟨fun hr => ?_, fun i hi => ?_⟩
    · have := all_seen hok hI hr m (by omega)
      rw [hn] at this; cases this
    · obtain ⟨hun, oi, hio, hed⟩ := mem_ready.1 hi
      have hlt := (Array.getElem?_eq_some_iff.1 hio).1
      rw [getD_both seen (by rw [hI.size]; exact hlt)] at hun
      have hleft := left_next hI.size hlt hun
      by_cases him : i = m
      · subst him
        rw [hol] at hio
        injection hio with hio
        subst hio
        have hseen : ∀ j, j < i → seen.getD j false = true := fun j hj => by
          have h1 := (List.all_eq_true.1 hall) j (List.mem_range.2 hj)
          unfold aft at h1
          obtain ⟨e, he, hb⟩ := Array.any_eq_true'.1 h1
          simp only [Bool.and_eq_true, beq_iff_eq] at hb
          rw [← hb.2]
          exact hed e he hb.1
        have hn0 : n = 0 := by
          have h0 : left ops (seen.setIfInBounds i true) = 0 := by
            unfold left
            rw [List.countP_eq_zero]
            intro j hj
            have hjl := List.mem_range.1 hj
            have : (seen.setIfInBounds i true).getD j false = true := by
              rw [set_getD]
              by_cases e : i = j
              · rw [if_pos ⟨e, by rw [hI.size]; exact hjl⟩]
              · rw [if_neg (fun h => e h.1)]; exact hseen j (by omega)
            simp [this]
          omega
        subst hn0
        have hre : Region.ready .any ops (seen.setIfInBounds i true) = [] := by
          refine List.eq_nil_iff_forall_not_mem.2 fun j hj => ?_
          obtain ⟨hj1, oj, hj2, _⟩ := mem_ready.1 hj
          have hjl := (Array.getElem?_eq_some_iff.1 hj2).1
          rw [getD_both _ (by simp [hI.size]; exact hjl), set_getD] at hj1
          by_cases e : i = j
          · rw [if_pos ⟨e, by rw [hI.size]; exact hjl⟩] at hj1; cases hj1
          · rw [if_neg (fun h => e h.1), hseen j (by omega)] at hj1; cases hj1
        have hA := act_before hok hI hm hn
        have hF := hfin (held ops a) u hI.ext fun j hj => by
          have hoj : ops[j]? = some ops[j] := Array.getElem?_eq_getElem (by omega)
          simp only [held, hoj]
          exact hI.facts j _ hoj (hseen j hj)
        rw [← hA] at hF
        unfold wpOp
        simp only [hol]
        split
        · rename_i hw
          rw [if_pos hw] at hF
          exact .inl (Oper.wp_mono (fun b u' h => ⟨hre, h⟩) hF)
        · rename_i hw
          rw [if_neg hw] at hF
          exact ⟨hre, hF⟩
      · refine wpOp_mono (fun b u' hb => ih _ b u' hb ?_ (by omega)) (flow_step hok hsel hmono hobl hI (by omega) hi)
        rw [set_getD, if_neg (fun h => him h.1)]; exact hn

theorem flow_last {id : Nat} {w : World} (hm0 : P.follows .mixedOrders = true) (φ : List (Value → World → Prop)) (m : Nat) (ol : Oper) (hok : flowOk ops a0.tmps.size = true) (hsel : Region.noSelect ops = true) (hm : m + 1 = ops.size) (hol : ops.toList[m]? = some ol) (hall : (List.range m).all (aft ol) = true) (hmono : ∀ p ∈ φ, Mono p)
    (hobl : ∀ f, Obls P ops φ w.drew f 0 (ops.toList.take m) a0)
    (hfin : ∀ (g : Nat → Value) u, Ext w.drew u → (∀ j, j < m → fact φ j (g j) u) → if Region.wanted ol (yielded ops (puts g 0 (ops.toList.take m) a0).tmps) = true then ol.wp P (puts g 0 (ops.toList.take m) a0) u (fun b u' => Q .normal b u') Q else Q .normal ((puts g 0 (ops.toList.take m) a0).put ol.dst undef) u) :
    (Code.region id ops true).wp P Q a0 w := by
  refine wp_region_any hm0 ?_
  have h := flow_last_any hok hsel hm (by rw [← Array.getElem?_toList]; exact hol) hall hmono hobl hfin ops.size _ a0 w.drew inv_start ?_ left_start
  · exact h
  · simp [Array.getD]
end
end Go.Proofs.Ytlnihaeeoolkhaa

/- Facts for regions that draw their order: rows of slices of bytes; parts of a slice of bytes. -/
namespace Go.Proofs.Ytlnihaeeoolkhaa
open Go.ChangeShapes Go.WideShapes Go.ChangeAt Go.RowKit

theorem below_new (w : World) (o : Obj) : Below w.heap.size w (w.alloc o) := (Below.refl _ _).alloc (Nat.le_refl _) o
/-- A literal of slices of bytes. -/
theorem rows_lit (w : World) (vs : List Value) (ls : List (List Nat)) (hlen : vs.length = ls.length) (h : ∀ (i : Nat) (v : Value) (l : List Nat), vs[i]? = some v → ls[i]? = some l → ∃ lo hi, Bs w lo hi v l ∧ hi ≤ w.heap.size) :
    Rows2 (w.alloc (.cells vs.toArray 34)) 0 (w.heap.size + 1) (some ⟨w.heap.size, 0, none⟩) vs ls := by
  refine ⟨.inr ⟨w.heap.size, 0, rfl, Nat.zero_le _, by omega, fun i u hu => ?_⟩, hlen, fun i u r hu hr => ?_⟩
  · rw [World.cell?_alloc_at _ _ _ _ rfl, Nat.zero_add]
    simpa using hu
  · obtain ⟨lo, hi, hb, hh⟩ := h i u r hu hr
    exact (hb.alloc hh _).wide (Nat.zero_le _) (by omega)
/-- A row of n slices of bytes, wherever it was laid. -/
def Rws (n : Nat) (ls : List (List Nat)) (v : Value) (u : World) : Prop := ls.length = n ∧ ∃ g h, v = .slice (some ⟨g, 0, none⟩) n n ∧ h ≤ u.heap.size ∧ ∃ vs, Rows2 u 0 h (some ⟨g, 0, none⟩) vs ls
theorem Mono.rws (n : Nat) (ls : List (List Nat)) : Mono (Rws n ls) := fun _ _ _ ⟨hn, g, h, e, hh, x, hr⟩ hu => ⟨hn, g, h, e, Nat.le_trans hh hu.size, x, hr.below hu hh⟩
theorem rws_lit (w : World) (vs : List Value) (ls : List (List Nat)) (n : Nat) (hn : ls.length = n) (hlen : vs.length = ls.length) (h : ∀ (i : Nat) (v : Value) (l : List Nat), vs[i]? = some v → ls[i]? = some l → ∃ lo hi, Bs w lo hi v l ∧ hi ≤ w.heap.size) :
    Rws n ls (.slice (some ⟨w.heap.size, 0, none⟩) n n) (w.alloc (.cells vs.toArray 34)) := ⟨hn, w.heap.size, w.heap.size + 1, rfl, by simp, vs, rows_lit w vs ls hlen h⟩

theorem Bs.len {w : World} {lo hi : Nat} {A : Option Addr} {n c : Nat} {l : List Nat} (h : Bs w lo hi (.slice A n c) l) : l.length = n ∧ n ≤ c ∧ c ≤ maxLen := by
  obtain ⟨A', c', he, a1, a2, _, _⟩ := h
  injection he with x1 x2 x3
  subst x2 x3
  exact ⟨rfl, a1, a2⟩
/-- b[:k]. -/
theorem Bs.head {w : World} {lo hi : Nat} {A : Option Addr} {n c : Nat} {l : List Nat} (h : Bs w lo hi (.slice A n c) l) {k : Nat} (hk : k ≤ n) : Bs w lo hi (.slice A k c) (l.take k) := by
  obtain ⟨A', c', he, a1, a2, a3, a4⟩ := h
  injection he with x1 x2 x3
  subst x1 x2 x3
  refine ⟨A, c, by rw [List.length_take, Nat.min_eq_left hk], by rw [List.length_take]; omega, a2, a3, ?_⟩
  unfold By
  rw [bv_take]
  exact Sl.take a4 k
/-- b[k:j]: the same value in every world. -/
theorem cut_run (A : Option Addr) (n c k j : Nat) (hkj : k ≤ j) (hjn : j ≤ n) (hc : n ≤ c) : ∃ A2, (∀ (W : World) (lo hi : Nat) (l : List Nat), Bs W lo hi (.slice A n c) l → Bs W lo hi (.slice A2 (j - k) (c - k)) ((l.drop k).take (j - k))) ∧
    (∀ w, (Instr.slice 34 (.slice A n c) (some (.int .i64 (k : Int))) (some (.int .i64 (j : Int))) none).run Try.prog w = .ok (.slice A2 (j - k) (c - k)) w) ∧
    (j = n → ∀ w, (Instr.slice 34 (.slice A n c) (some (.int .i64 (k : Int))) none none).run Try.prog w = .ok (.slice A2 (j - k) (c - k)) w) := by
  obtain ⟨i0, hi, _, hz1, _⟩ := info_parts t5info
  have he : Try.prog.underlying 34 = some (.slice (Try.prog.elem 34)) := by kernel_rfl
  have hs : ∀ w, (sizeOf (Try.prog.elem 34)).run Try.prog w = .ok 1 w := fun w => by
    have e : Try.prog.elem 34 = 5 := by kernel_rfl
    rw [e]
    simp [Go.sizeOf, typeInfo, hi, hz1]
  refine ⟨if c = k then A else A.map (·.add k), fun W lo hi' l h => ?_, fun w => ?_, fun hj w => ?_⟩
  · obtain ⟨A', c', he, a1, a2, a3, a4⟩ := h
    injection he with x1 x2 x3
    subst x1 x2 x3
    have h2 := By.drop (k := k) (cap := c) a4 (by omega) (by omega)
    have hl : ((l.drop k).take (j - k)).length = j - k := by simp; omega
    refine ⟨(if c = k then A else A.map (·.add k)), c - k, by rw [hl], by rw [hl]; omega, by omega, fun hn => ?_, ?_⟩
    · split at hn
      · have := a3 hn; omega
      · cases A with
        | none => have := a3 rfl; omega
        | some a => simp at hn
    · unfold By
      rw [bv_take]
      exact Sl.take h2 _
  · rw [run_slice_lh w 34 A n c he .i64 .i64 (k : Int) (j : Int) (by omega) (by omega) (by omega), hs]
    simp [Result.andThen, sliced]
  · subst hj
    rw [run_slice_l w 34 A j c he .i64 (k : Int) (by omega) (by omega), hs]
    simp [Result.andThen, sliced]
end Go.Proofs.Ytlnihaeeoolkhaa
