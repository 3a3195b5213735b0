/- Ient Ibytes Wtake Rnum Rmore Rread Rnumb Rtext Rlist Rboth Iread Tail Icopy Ilit Ilist Irise Iref Flowin Ikeys Tailin Ilatest Iseq Iover Ilists Irises, joined. -/
import Derived.Test.YtlnihaeeoolkhaaMa2
import Derived.Test.YtlnihaeeoolkhaaMa1
import Derived.Lib.Bytealg
import Derived.Lib.BytesEntry
import Derived.Laws.Externs
import Derived.Lib.Walk
import Derived.RegionTactic
import Derived.Deep.DeepCutAuto
import Derived.Deep.QuietTactic
import Derived.BigQuiet
import Derived.Laws.ResultCell
import Derived.Laws.Rows
import Derived.Lib.ConvBytes
import Derived.Laws.AppendOwn
import Derived.LoopTactic
import Derived.Laws.OwnMore
import Derived.OrdersIn
import Derived.Laws.EntriesVeiled
import Derived.Deep.Slices

/- Entries in memory, and what May, Compare, Same answer of them. -/
namespace Go.Proofs.Ytlnihaeeoolkhaa
open Go.ChangeShapes Go.WideShapes Go.ChangeAt Go.RowKit

/-- Where an entry's two rows of bytes lie. -/
structure Hd where
  kA : Option Addr
  kc : Nat
  vA : Option Addr
  vc : Nat
/-- The entry as a value. -/
def Ent.at_ (e : Ent) (h : Hd) : Value := .agg #[.slice h.kA e.key.length h.kc, .int .i64 e.seq, .int .i64 e.kind, .slice h.vA e.val.length h.vc]
/-- What an entry is in memory: its bytes lie in blocks of the interval. -/
structure Em (w : World) (lo hi : Nat) (e : Ent) (h : Hd) : Prop where
  k : Bs w lo hi (.slice h.kA e.key.length h.kc) e.key
  v : Bs w lo hi (.slice h.vA e.val.length h.vc) e.val
  bk : ∀ x ∈ e.key, x < 256
  bv : ∀ x ∈ e.val, x < 256
  s1 : -9223372036854775808 ≤ e.seq
  s2 : e.seq ≤ 9223372036854775807
  d1 : -9223372036854775808 ≤ e.kind
  d2 : e.kind ≤ 9223372036854775807
theorem Em.below {w w' : World} {lo hi B : Nat} {e : Ent} {h : Hd} (m : Em w lo hi e h) (hb : Below B w w') (hB : hi ≤ B) : Em w' lo hi e h := ⟨m.k.below hb hB, m.v.below hb hB, m.bk, m.bv, m.s1, m.s2, m.d1, m.d2⟩
theorem Em.wide {w : World} {lo hi lo' hi' : Nat} {e : Ent} {h : Hd} (m : Em w lo hi e h) (h1 : lo' ≤ lo) (h2 : hi ≤ hi') : Em w lo' hi' e h := ⟨m.k.wide h1 h2, m.v.wide h1 h2, m.bk, m.bv, m.s1, m.s2, m.d1, m.d2⟩

/-- What the model's comparing of bytes answers. -/
theorem cmpL_is (a b : List Nat) (ha : ∀ x ∈ a, x < 256) (hb : ∀ x ∈ b, x < 256) : Lib.compareBytes (a.map fun n => UInt8.ofNat n) (b.map fun n => UInt8.ofNat n) = cmpK a b := by
  induction a generalizing b with
  | nil => cases b <;> simp [Lib.compareBytes, cmpK]
  | cons x l ih =>
    cases b with
    | nil => simp [Lib.compareBytes, cmpK]
    | cons y r =>
      have hx := ha x (by simp)
      have hy := hb y (by simp)
      have h1 := ih r (fun z hz => ha z (by simp [hz])) (fun z hz => hb z (by simp [hz]))
      simp only [List.map_cons, Lib.compareBytes, cmpK, h1]
      have e1 : (UInt8.ofNat x < UInt8.ofNat y) ↔ x < y := by rw [UInt8.lt_iff_toNat_lt]; simp [Nat.mod_eq_of_lt hx, Nat.mod_eq_of_lt hy]
      have e2 : (UInt8.ofNat y < UInt8.ofNat x) ↔ y < x := by rw [UInt8.lt_iff_toNat_lt]; simp [Nat.mod_eq_of_lt hx, Nat.mod_eq_of_lt hy]
      simp [e1, e2]

/-- A key that may be compared: its cells, and bytes all. -/
theorem run_bytesOf {w : World} {lo hi : Nat} {v : Value} {l : List Nat} (h : Bs w lo hi v l) : (Extern.Bytes.bytesOf v).run Try.prog w = .ok ⟨(l.map fun n => UInt8.ofNat n).toArray⟩ w := by
  obtain ⟨A, c, rfl, _, _, hnil, hby⟩ := h
  cases A with
  | none =>
    have hl : l = [] := by
      rcases hby with h | ⟨b, o, he, _⟩
      · simpa [bv] using h
      · cases he
    subst hl
    simp [Extern.Bytes.bytesOf]; rfl
  | some a =>
    have hl := Lib.run_loadBytesX (P := Try.prog) (w := w) (l.map fun n : Nat => (n : Int)) a .empty (fun j x hj => by
      rcases hby with h | ⟨b, o, he, _, _, hc⟩
      · have : l = [] := by simpa [bv] using h
        subst this; simp at hj
      · injection he with he
        subst he
        rw [addr_add]
        exact hc j _ (by unfold bv; rw [List.getElem?_map] at hj ⊢; cases hq : l[j]? with
          | none => rw [hq] at hj; simp at hj
          | some y => rw [hq] at hj; simp at hj; subst hj; rfl))
    simp only [Extern.Bytes.bytesOf]
    rw [List.length_map] at hl
    rw [hl]
    simp [Lib.bytesOf]
theorem run_keys {w : World} {lo hi lo2 hi2 : Nat} {u v : Value} {a b : List Nat} (hu : Bs w lo hi u a) (hv : Bs w lo2 hi2 v b) (ha : ∀ x ∈ a, x < 256) (hb : ∀ x ∈ b, x < 256) :
    (Extern.BytealgCompare.compare #[u, v]).run Try.prog w = .ok (.int .i64 (cmpK a b)) w := by
  change Sem.run Try.prog (do pure (goInt (Extern.BytealgCompare.cmp (← Extern.Bytes.bytesOf u) (← Extern.Bytes.bytesOf v)))) w = _
  simp only [Sem.run_bind, run_bytesOf hu, run_bytesOf hv, Sem.run_pure, Result.andThen]
  rw [Lib.cmp_eq]
  rw [cmpL_is a b ha hb]
  rfl
theorem bcmp_any {w : World} {lo hi lo2 hi2 : Nat} {u v : Value} {a b : List Nat} (hu : Bs w lo hi u a) (hv : Bs w lo2 hi2 v b) (ha : ∀ x ∈ a, x < 256) (hb : ∀ x ∈ b, x < 256) :
    Calls Try.prog 48 #[u, v] w fun e w' => e = .returned (.int .i64 (cmpK a b)) ∧ w' = w := by
  have hcf : (callFunc 51 #[u, v]).run Try.prog w = .ok (.value (.int .i64 (cmpK a b))) w := by
    rw [run_callFunc_extern Try.func51 (by kernel_rfl) (by kernel_rfl) (by kernel_rfl) (e := Extern.BytealgCompare.compare) (by kernel_rfl), run_keys hu hv ha hb]
    rfl
  clear hu hv ha hb
  go_enter Try.func48, Try.ntmps48
  go_wp2_with fail
  go_ret
  exact ⟨rfl, rfl⟩
theorem keys_any {w : World} {lo hi lo2 hi2 : Nat} {u v : Value} {a b : List Nat} (hu : Bs w lo hi u a) (hv : Bs w lo2 hi2 v b) (ha : ∀ x ∈ a, x < 256) (hb : ∀ x ∈ b, x < 256) :
    Calls Try.prog 34 #[u, v] w fun e w' => e = .returned (.int .i64 (cmpK a b)) ∧ w' = w := by
  have HR := Lib.hid (bcmp_any hu hv ha hb)
  clear hu hv ha hb
  go_enter Try.func34, Try.ntmps34
  go_wp2_with fail
  refine Calls.mono HR.out ?_
  rintro e w' ⟨rfl, rfl⟩
  go_wp2
  go_ret
  exact ⟨rfl, rfl⟩
theorem nan_any (s : Int) (w : World) : Calls Try.prog 52 #[.int .i64 s] w fun e w' => e = .returned (.bool false) ∧ w' = w := by
  have d : (s != s) = false := by simp
  go_enter Try.func52, Try.ntmps52
  go_wp2
  go_ret
  exact ⟨rfl, rfl⟩
theorem icmp_any (s t : Int) (w : World) : Calls Try.prog 49 #[.int .i64 s, .int .i64 t] w fun e w' => e = .returned (.int .i64 (cmpS t s)) ∧ w' = w := by
  obtain ⟨c, hc⟩ : ∃ c, c = cmpS t s := ⟨_, rfl⟩
  rw [← hc]
  rcases Int.lt_trichotomy s t with h | h | h
  · obtain rfl : c = -1 := by rw [hc]; unfold cmpS; rw [if_pos h]
    have d : decide (s < t) = true := by simp [h]
    clear hc h
    go_enter Try.func49, Try.ntmps49
    go_wp2_with (go_at_call 52; refine (nan_any _ _).mono ?_; rintro e w' ⟨rfl, rfl⟩)
    go_ret
    exact ⟨rfl, rfl⟩
  · subst h
    obtain rfl : c = 0 := by rw [hc]; unfold cmpS; rw [if_neg (by omega), if_neg (by omega)]
    have d : decide (s < s) = false := by simp
    clear hc
    go_enter Try.func49, Try.ntmps49
    go_wp2_with (go_at_call 52; refine (nan_any _ _).mono ?_; rintro e w' ⟨rfl, rfl⟩)
    go_ret
    exact ⟨rfl, rfl⟩
  · obtain rfl : c = 1 := by rw [hc]; unfold cmpS; rw [if_neg (by omega), if_pos h]
    have d : decide (s < t) = false := by simp; omega
    have d2 : decide (t < s) = true := by simp [h]
    clear hc h
    go_enter Try.func49, Try.ntmps49
    go_wp2_with (go_at_call 52; refine (nan_any _ _).mono ?_; rintro e w' ⟨rfl, rfl⟩)
    go_ret
    exact ⟨rfl, rfl⟩

theorem tx_same {a b : List Nat} (ha : ∀ x ∈ a, x < 256) (hb : ∀ x ∈ b, x < 256) : ((tx a).toList == (tx b).toList) = decide (a = b) := by
  by_cases h : a = b
  · subst h; simp
  · rw [decide_eq_false h]
    have hne : tx a ≠ tx b := fun he => h (tx_inj ha hb he)
    rw [Bool.eq_false_iff]
    intro he
    rw [beq_iff_eq, ByteArray.toList_eq, ByteArray.toList_eq] at he
    exact hne (by
      have h1 : (tx a).data = (tx b).data := Array.ext' he
      cases h2 : tx a; cases h3 : tx b
      rw [h2, h3] at h1
      simp at h1; rw [h1])
set_option maxHeartbeats 1000000 in
theorem compare_any {w : World} {lo hi lo2 hi2 : Nat} {a b : Ent} {g h : Hd} (hu : Em w lo hi a g) (hv : Em w lo2 hi2 b h) (h1 : hi ≤ w.heap.size) (h2 : hi2 ≤ w.heap.size) :
    Calls Try.prog 37 #[a.at_ g, b.at_ h] w fun e w' => e = .returned (.int .i64 (cmpE a b)) ∧ Ext w w' := by
  obtain ⟨z, hz⟩ : ∃ z, z = cmpE a b := ⟨_, rfl⟩
  rw [← hz]
  unfold Ent.at_
  obtain ⟨w1, hw1⟩ : ∃ w1, w1 = (w.alloc (.cells #[.slice g.kA a.key.length g.kc, .int .i64 a.seq, .int .i64 a.kind, .slice g.vA a.val.length g.vc] 46)).alloc (.cells #[.slice h.kA b.key.length h.kc, .int .i64 b.seq, .int .i64 b.kind, .slice h.vA b.val.length h.vc] 46) := ⟨_, rfl⟩
  have HX : Hid (Ext w w1) := by rw [hw1]; exact Ext.trans (ext_alloc _ _) (ext_alloc _ _)
  have HK := Lib.hid (keys_any (hu.k.below HX.out h1) (hv.k.below HX.out h2) hu.bk hv.bk)
  have HS := Lib.hid (icmp_any b.seq a.seq)
  have HR := Lib.hid (cmpK_range a.key b.key)
  clear hu hv h1 h2
  obtain ⟨k, hk⟩ : ∃ k, k = cmpK a.key b.key := ⟨_, rfl⟩
  have hz2 : z = if k = 0 then cmpS a.seq b.seq else k := by rw [hz, hk]; rfl
  clear hz
  rw [← hk] at HK
  by_cases h0 : k = 0
  · rw [if_pos h0] at hz2
    have d : (k != 0) = false := by simp [h0]
    subst hw1
    clear hk h0
    go_enter Try.func37, Try.ntmps37
    go_wp2_with fail
    refine Calls.mono HK.out ?_
    rintro e w' ⟨rfl, rfl⟩
    go_wp2_with fail
    refine (HS.out _).mono ?_
    rintro e w' ⟨rfl, rfl⟩
    go_wp2_with fail
    go_ret
    subst hz2
    exact ⟨rfl, HX.out⟩
  · rw [if_neg h0] at hz2
    have d : (k != 0) = true := by simp [h0]
    subst hw1
    clear hk h0
    go_enter Try.func37, Try.ntmps37
    go_wp2_with fail
    refine Calls.mono HK.out ?_
    rintro e w' ⟨rfl, rfl⟩
    go_wp2_with fail
    go_ret
    subst hz2
    exact ⟨rfl, HX.out⟩

theorem Ent.ext {a b : Ent} (h1 : a.key = b.key) (h2 : a.seq = b.seq) (h3 : a.kind = b.kind) (h4 : a.val = b.val) : a = b := by cases a; cases b; simp_all
end Go.Proofs.Ytlnihaeeoolkhaa

/- ikey's Bytes and Size. -/
namespace Go.Proofs.Ytlnihaeeoolkhaa
open Go.ChangeShapes Go.WideShapes Go.ChangeAt Go.RowKit

/-- Bytes in a row of the call's own, from block B on. -/
def Own (B : Nat) (l : List Nat) (v : Value) (u : World) : Prop := u.ownsRow B 5 1 v l.length (bv l)
theorem Mono.own (B : Nat) (l : List Nat) : Mono (Own B l) := fun _ _ _ h hu => own_below h hu (Nat.le_refl _)
theorem Own.below {B : Nat} {l : List Nat} {v : Value} {u u' : World} (h : Own B l v u) (hu : Ext u u') : Own B l v u' := own_below h hu (Nat.le_refl _)
theorem Own.bs {B : Nat} {l : List Nat} {v : Value} {u : World} (h : Own B l v u) : Bs u 0 u.heap.size v l := (Bs.of_own h).wide (Nat.zero_le _) (Nat.le_refl _)
theorem Own.slice {B : Nat} {l : List Nat} {v : Value} {u : World} (h : Own B l v u) : ∃ A c, v = .slice A l.length c := by
  obtain ⟨A, c, e, _⟩ := h.bs
  exact ⟨A, c, e⟩
theorem Own.base {B B' : Nat} {l : List Nat} {v : Value} {u : World} (h : Own B l v u) (hB : B' ≤ B) : Own B' l v u := ownsRow_base h hB

/-- 'append(s, x...)': bytes to bytes. -/
theorem wpList_addbytes {ops : Array Oper} {rest : List Oper} {o : Oper} {a : Act} {Q : Exit → Act → World → Prop} {wr : World} (hgd : o.guard = none) (s x : Operand)
    (ho : o.op = .call { callee := .builtin .append, args := #[s, x], argTypes := #[34, 34] }) (B : Nat) (v : Value) (l : List Nat) (hs : a.eval s = v) (hown : Own B l v wr)
    (lo hi : Nat) (u : Value) (r : List Nat) (hx : a.eval x = u) (hu : Bs wr lo hi u r) (hlen : l.length + r.length ≤ 1099511627776) (hB : B ≤ wr.heap.size)
    (h : ∀ A' c' w', Own B (l ++ r) (.slice A' (l ++ r).length c') w' → (∀ w0, Below B w0 wr → Below B w0 w') → wpList Try.prog ops Q rest (a.put o.dst (.slice A' (l ++ r).length c')) w') :
    wpList Try.prog ops Q (o :: rest) a wr := by
  obtain ⟨i0, hi0, ix0, ix1, ix2⟩ := info_parts t5info
  obtain ⟨A, c, rfl, h1, h2, hnil, hby⟩ := hu
  refine wpList_addall hgd s x 34 ho B 5 i0 (.int .u8 0) 1 Try.underlying34 hi0 ix0 ix1 ix2 rfl v l.length (bv l) hs hown lo hi A r.length c (bv r) hx hnil (by rw [bv_length]) hby (bv_one r) (by unfold maxLen; omega) (by omega) hB (fun v' w' ho' hb => ?_)
  have hown' : Own B (l ++ r) v' w' := by unfold Own; rw [List.length_append, bv_append]; exact ho'
  obtain ⟨A', c', rfl⟩ := hown'.slice
  exact h A' c' w' hown' hb

/-- What Bytes answers. -/
def BytesAns (w : World) (e : Ent) (x : Ending) (w' : World) : Prop :=
  Ext w w' ∧ ((e.may = true ∧ ∃ A c, x = .returned (.tuple #[.slice A e.form.length c, .int .i64 0]) ∧ Own w.heap.size e.form (.slice A e.form.length c) w') ∨ (e.may = false ∧ x = .returned (.tuple #[.slice none 0 0, .int .i64 2])))

end Go.Proofs.Ytlnihaeeoolkhaa

/- Lists of numbers: wire.Take and wire.Put at uint64. -/
namespace Go.Proofs.Ytlnihaeeoolkhaa
open Go.ChangeShapes Go.WideShapes Go.ChangeAt Go.RowKit

/-- Numbers that stand here one behind the other. -/
def AllNum : List Nat → List Nat → List Nat → Prop
  | l, [], rest => l = rest
  | l, x :: xs, rest => ∃ mid, Begins l x mid ∧ AllNum mid xs rest
theorem AllNum.snoc : ∀ {xs l mid : List Nat} {x : Nat} {rest : List Nat}, AllNum l xs mid → Begins mid x rest → AllNum l (xs ++ [x]) rest
  | [], l, mid, x, rest, h, hb => by
    have : l = mid := h
    subst this
    exact ⟨rest, hb, rfl⟩
  | y :: ys, l, mid, x, rest, ⟨m, h1, h2⟩, hb => ⟨m, h1, AllNum.snoc h2 hb⟩
theorem AllNum.len : ∀ {xs l rest : List Nat}, AllNum l xs rest → xs.length + rest.length ≤ l.length
  | [], l, rest, h => by
    have : l = rest := h
    subst this
    simp
  | x :: xs, l, rest, ⟨m, h1, h2⟩ => by
    have := AllNum.len h2
    have h3 := congrArg List.length h1.eq
    have h4 : 0 < (form x).length := by
      by_cases h : x < 128
      · rw [form_lo h]; simp
      · rw [form_hi h]; simp
    simp at h3
    simp only [List.length_cons]
    omega

def uv (l : List Nat) : List Value := l.map fun n : Nat => Value.int .u64 (n : Int)
def ErrList (most : Int) (l : List Nat) (n : Int) : Prop := ErrCount most l n ∨ (n = 4 ∧ ∃ m mid, Begins l m mid ∧ (m : Int) ≤ most ∧ ∃ xs rest, xs.length < m ∧ AllNum mid xs rest ∧ NoNum rest)

theorem own_grown {w w' : World} {B : Nat} {e : TypeId} {v : Value} {n : Nat} {xs : List Value} {r : Nat} (h : w.ownsRow B e 1 v n xs) (hg : w.grownBy w' (some r)) (hr : r < B) : w'.ownsRow B e 1 v n xs := by
  refine h.kept hg ?_
  cases hb : v.ownBlock with
  | none => exact .inl rfl
  | some k =>
    right
    have := (h.lt k hb).1
    intro he
    injection he with he
    omega

theorem grownBy_trans {a b c : World} {r : Nat} (h : a.grownBy b (some r)) (k : b.grownBy c (some r)) : a.grownBy c (some r) :=
  ⟨k.os.trans h.os, k.tape.trans h.tape, k.output.trans h.output, Nat.le_trans h.size k.size, fun i hi hne => (k.block i (Nat.lt_of_lt_of_le hi h.size) hne).trans (h.block i hi hne)⟩
theorem grownBy_below {a b c : World} {r : Nat} (h : a.grownBy b (some r)) (k : Below a.heap.size b c) : a.grownBy c (some r) :=
  ⟨k.os.trans h.os, k.tape.trans h.tape, k.output.trans h.output, Nat.le_trans h.size k.size, fun i hi hne => (k.block i hi).trans (h.block i hi hne)⟩

/-- The form of a list of numbers. -/
def listForm (xs : List Nat) : List Nat := form xs.length ++ (xs.map form).flatten

theorem allnum_forms : ∀ (xs rest : List Nat), (∀ x ∈ xs, U64 x) → AllNum ((xs.map form).flatten ++ rest) xs rest
  | [], rest, _ => by simp [AllNum]
  | x :: xs, rest, h => ⟨(xs.map form).flatten ++ rest, ⟨h x (by simp), by simp⟩, allnum_forms xs rest fun y hy => h y (by simp [hy])⟩
theorem AllNum.forms : ∀ {xs l rest : List Nat}, AllNum l xs rest → l = (xs.map form).flatten ++ rest ∧ ∀ x ∈ xs, U64 x
  | [], l, rest, h => ⟨by simpa using (show l = rest from h), by simp⟩
  | x :: xs, l, rest, ⟨m, h1, h2⟩ => by
    obtain ⟨h3, h4⟩ := AllNum.forms h2
    refine ⟨by rw [h1.eq, h3]; simp, fun y hy => ?_⟩
    rcases List.mem_cons.1 hy with rfl | hy
    · exact h1.n64
    · exact h4 y hy
end Go.Proofs.Ytlnihaeeoolkhaa

/- The reference's writers answer the same forms. -/
namespace Go.Proofs.Ytlnihaeeoolkhaa
open Go.ChangeShapes Go.WideShapes Go.ChangeAt Go.RowKit

theorem wq {m : Nat} (h : U64 m) : IntKind.u64.wrap ((m : Int) / 128) = (m : Int) / 128 := by have := h.lt; rw [IntKind.wrap_u64]; omega
theorem wr128 (m : Nat) : IntKind.u64.wrap ((m : Int) % 128) = (m : Int) % 128 := by rw [IntKind.wrap_u64]; omega
theorem form_pos (n : Nat) : 0 < (form n).length := by
  by_cases h : n < 128
  · rw [form_lo h]; simp
  · rw [form_hi h]; simp

theorem drop_form (n : Nat) : ∀ (k m : Nat), k < (form n).length → (form n).drop k = form m → (form n)[k]? = some (if m < 128 then m else m % 128 + 128) ∧ (¬ m < 128 → (form n).drop (k + 1) = form (m / 128)) ∧ (m < 128 ↔ k + 1 = (form n).length) := by
  intro k m hk h
  have h0 : ((form n).drop k)[0]? = (form n)[k]? := by rw [List.getElem?_drop]; simp
  have hl : ((form n).drop k).length = (form n).length - k := by simp
  have hd : (form n).drop (k + 1) = ((form n).drop k).drop 1 := by rw [List.drop_drop]
  by_cases hm : m < 128
  · rw [h, form_lo hm] at h0 hl
    refine ⟨by rw [← h0, if_pos hm]; rfl, fun h => absurd hm h, fun _ => ?_, fun _ => hm⟩
    simp at hl; omega
  · have hp := form_pos (m / 128)
    rw [h, form_hi hm] at h0 hl hd
    refine ⟨by rw [← h0, if_neg hm]; rfl, fun _ => by rw [hd]; rfl, fun h => absurd h hm, fun h => ?_⟩
    simp at hl; omega

theorem take_set {xs : List Value} {L : List Nat} {k u : Nat} (hk : k < L.length) (hx : k < xs.length) (ht : xs.take k = bv (L.take k)) (hg : L[k]? = some u) {v : Value} (hv : v = .int .u8 (u : Int) := by rfl) :
    (xs.set k v).take (k + 1) = bv (L.take (k + 1)) := by
  subst hv
  rw [List.getElem?_eq_getElem hk] at hg
  injection hg with hg
  rw [List.take_succ_eq_append_getElem (by simpa using hx), List.take_succ_eq_append_getElem hk, bv_append, ← ht, hg, List.take_set, List.set_eq_of_length_le (by simp; omega)]
  simp [bv]

end Go.Proofs.Ytlnihaeeoolkhaa

/- The reference's Signed, Flag, Bytes. -/
namespace Go.Proofs.Ytlnihaeeoolkhaa
open Go.ChangeShapes Go.WideShapes Go.ChangeAt Go.RowKit

end Go.Proofs.Ytlnihaeeoolkhaa

/- The reference's reader. -/
namespace Go.Proofs.Ytlnihaeeoolkhaa
open Go.ChangeShapes Go.WideShapes Go.ChangeAt Go.RowKit
theorem below_drewN {B : Nat} {w w' : World} (h : Below B w w') (n : Nat) : Below B w (w'.drewN n) := h.trans ⟨rfl, rfl, rfl, Nat.le_refl _, fun _ _ => rfl⟩
theorem grown_refl (w : World) (row : Option Nat) : w.grownBy w row := ⟨rfl, rfl, rfl, Nat.le_refl _, fun _ _ _ => rfl⟩
theorem grown_then {a b c : World} {r : Nat} (h : a.grownBy b (some r)) (k : Below b.heap.size b c) : a.grownBy c (some r) := grownBy_below h (k.mono h.size)

/-- How many bytes the form has that stands first. -/
def Wh (l : List Nat) (m : Nat) : Prop := (m = 0 ∧ NoNum l) ∨ ∃ (i : Nat) (hi : i < l.length), m = i + 1 ∧ i ≤ 9 ∧ l[i] < 128 ∧ Begins l (val (l.take i) + 128 ^ i * l[i]) (l.drop (i + 1))

end Go.Proofs.Ytlnihaeeoolkhaa

/- The reference's reader: its numbers. -/
namespace Go.Proofs.Ytlnihaeeoolkhaa
open Go.ChangeShapes Go.WideShapes Go.ChangeAt Go.RowKit

/-- The digits from place j on. -/
def Vd (l : List Nat) (m j : Nat) : Nat := val ((l.take m).drop j)
theorem vd_step {l : List Nat} {m j : Nat} (hm : m ≤ l.length) (hj : j < m) : Vd l m j = l[j]'(by omega) % 128 + 128 * Vd l m (j + 1) := by
  unfold Vd
  have h1 : j < (l.take m).length := by simp; omega
  rw [List.drop_eq_getElem_cons h1, val]
  simp
theorem vd_le (l : List Nat) (m : Nat) : ∀ j, Vd l m j ≤ val (l.take m) := by
  intro j
  have h := val_append ((l.take m).take j) ((l.take m).drop j)
  rw [List.take_append_drop] at h
  unfold Vd
  have h2 : 0 < 128 ^ ((l.take m).take j).length := Nat.pow_pos (by omega)
  have := Nat.le_mul_of_pos_left (val ((l.take m).drop j)) h2
  omega
theorem vd_top (l : List Nat) (m : Nat) (hm : m ≤ l.length) : Vd l m m = 0 := by
  unfold Vd; rw [List.drop_of_length_le (by simp; omega)]; rfl
theorem vd_zero (l : List Nat) (m : Nat) : Vd l m 0 = val (l.take m) := by simp [Vd]
theorem vd_sum {a x s : Nat} (h : s = x % 128 + 128 * a) (h2 : s < 18446744073709551616) : a * 128 < 18446744073709551616 ∧ a * 128 + x % 128 = s := by omega

theorem wrap_step {a x s : Nat} (h : a * 128 < 18446744073709551616) (h2 : a * 128 + x % 128 = s) (hs : s < 18446744073709551616) :
    IntKind.u64.wrap (IntKind.u64.wrap ((a : Int) * 128) + (x : Int) % 128) = (s : Int) := by
  have e1 : ∀ n : Int, 0 ≤ n → n < 18446744073709551616 → IntKind.u64.wrap n = n := fun n h0 h1 => by
    simp only [IntKind.wrap_u64]; omega
  have h3 : (a : Int) * 128 < 18446744073709551616 := by omega
  rw [e1 _ (by omega) h3, e1 _ (by omega) (by omega)]
  omega

theorem half_even {n : Nat} (h : n < 18446744073709551616) : ((n : Int) / 2) < 9223372036854775808 := by omega
theorem zz_half (n : Nat) : (n % 2 = 0 → zz ((n : Int) / 2) = n) ∧ (n % 2 = 1 → zz (-1 - (n : Int) / 2) = n) := by
  constructor
  · intro h; unfold zz; rw [if_pos (by omega)]; omega
  · intro h; unfold zz; rw [if_neg (by omega)]; omega

/-- Why the reference counts none. -/
def RErrCount (most : Int) (l : List Nat) (n : Int) : Prop := (n = 4 ∧ NoNum l) ∨ (n = 3 ∧ ∃ m rest, Begins l m rest ∧ most < (m : Int))

end Go.Proofs.Ytlnihaeeoolkhaa

/- The reference's reader: bytes. -/
namespace Go.Proofs.Ytlnihaeeoolkhaa
open Go.ChangeShapes Go.WideShapes Go.ChangeAt Go.RowKit

def RErrText (most : Int) (l : List Nat) (n : Int) : Prop := RErrCount most l n ∨ (n = 4 ∧ ∃ m rest, Begins l m rest ∧ (m : Int) ≤ most ∧ rest.length < m)

end Go.Proofs.Ytlnihaeeoolkhaa

/- The reference's reader: a list of numbers. -/
namespace Go.Proofs.Ytlnihaeeoolkhaa
open Go.ChangeShapes Go.WideShapes Go.ChangeAt Go.RowKit

def RErrList (most : Int) (l : List Nat) (n : Int) : Prop := RErrCount most l n ∨ (n = 4 ∧ ∃ m mid, Begins l m mid ∧ (m : Int) ≤ most ∧ ∃ xs rest, xs.length < m ∧ AllNum mid xs rest ∧ NoNum rest)
def lenOf : Value → Nat
  | .slice _ n _ => n
  | _ => 0

end Go.Proofs.Ytlnihaeeoolkhaa

/- What is read, by the program's reader and by the reference's, said at once; it is told. -/
namespace Go.Proofs.Ytlnihaeeoolkhaa
open Go.ChangeShapes Go.WideShapes Go.ChangeAt Go.RowKit

def OutNum (l : List Nat) (n : Nat) (k : Int) (rest : List Nat) : Prop := (k = 0 ∧ Begins l n rest) ∨ (k = 4 ∧ NoNum l ∧ rest = l ∧ n = 0)
def OutSig (l : List Nat) (s : Int) (k : Int) (rest : List Nat) : Prop := (k = 0 ∧ Begins l (zz s) rest) ∨ (k = 4 ∧ NoNum l ∧ rest = l ∧ s = 0)
def OutFlag (l : List Nat) (b : Bool) (k : Int) (rest : List Nat) : Prop := (k = 0 ∧ l = flagForm b ++ rest) ∨ (k = 4 ∧ (∀ b rest, l ≠ flagForm b ++ rest) ∧ rest = l ∧ b = false)
def OutText (most : Int) (l bs : List Nat) (k : Int) (rest : List Nat) : Prop := (k = 0 ∧ (bs.length : Int) ≤ most ∧ U64 bs.length ∧ l = bytesForm bs ++ rest) ∨ (k ≠ 0 ∧ ErrText most l k ∧ rest = l ∧ bs = [])
theorem OutNum.same {l r r' : List Nat} {n n' : Nat} {k k' : Int} (h : OutNum l n k r) (h' : OutNum l n' k' r') : n = n' ∧ k = k' ∧ r = r' := by
  rcases h with ⟨rfl, hb⟩ | ⟨rfl, hno, rfl, rfl⟩ <;> rcases h' with ⟨rfl, hb'⟩ | ⟨rfl, hno', rfl, rfl⟩
  · obtain ⟨h1, h2⟩ := hb.unique hb'; exact ⟨h1, rfl, h2⟩
  · exact absurd hb (hno' _ _)
  · exact absurd hb' (hno _ _)
  · exact ⟨rfl, rfl, rfl⟩
theorem OutSig.same {l r r' : List Nat} {n n' : Int} {k k' : Int} (h : OutSig l n k r) (h' : OutSig l n' k' r') : n = n' ∧ k = k' ∧ r = r' := by
  rcases h with ⟨rfl, hb⟩ | ⟨rfl, hno, rfl, rfl⟩ <;> rcases h' with ⟨rfl, hb'⟩ | ⟨rfl, hno', rfl, rfl⟩
  · obtain ⟨h1, h2⟩ := hb.unique hb'; exact ⟨zz_inj h1, rfl, h2⟩
  · exact absurd hb (hno' _ _)
  · exact absurd hb' (hno _ _)
  · exact ⟨rfl, rfl, rfl⟩
theorem OutFlag.same {l r r' : List Nat} {n n' : Bool} {k k' : Int} (h : OutFlag l n k r) (h' : OutFlag l n' k' r') : n = n' ∧ k = k' ∧ r = r' := by
  rcases h with ⟨rfl, hb⟩ | ⟨rfl, hno, rfl, rfl⟩ <;> rcases h' with ⟨rfl, hb'⟩ | ⟨rfl, hno', rfl, rfl⟩
  · rw [hb] at hb'
    cases n <;> cases n' <;> simp [flagForm] at hb' <;> simp [hb']
  · exact absurd hb (hno' _ _)
  · exact absurd hb' (hno _ _)
  · exact ⟨rfl, rfl, rfl⟩
theorem begins_text {l bs rest : List Nat} (h : U64 bs.length) (he : l = bytesForm bs ++ rest) : Begins l bs.length (bs ++ rest) := ⟨h, by rw [he]; simp [bytesForm]⟩
theorem ErrCount.not {most : Int} {l : List Nat} {n : Int} {m : Nat} {rest : List Nat} (h : ErrCount most l n) (hb : Begins l m rest) (hle : (m : Int) ≤ most) : False := by
  rcases h with ⟨_, h0⟩ | ⟨_, _, hno⟩ | ⟨_, _, m', r', hb', hlt⟩
  · omega
  · exact hno _ _ hb
  · obtain ⟨e1, _⟩ := hb.unique hb'; omega
theorem ErrCount.same {most : Int} {l : List Nat} {n n' : Int} (h : ErrCount most l n) (h' : ErrCount most l n') : n = n' := by
  rcases h with ⟨rfl, h0⟩ | ⟨_, rfl, hno⟩ | ⟨_, rfl, m, r, hb, hlt⟩ <;> rcases h' with ⟨rfl, h0'⟩ | ⟨_, rfl, hno'⟩ | ⟨_, rfl, m', r', hb', hlt'⟩ <;> first | rfl | omega | exact absurd hb' (hno _ _) | exact absurd hb (hno' _ _)
theorem ErrText.same {most : Int} {l : List Nat} {n n' : Int} (h : ErrText most l n) (h' : ErrText most l n') : n = n' := by
  rcases h with h | ⟨rfl, m, r, hb, hle, hlt⟩ <;> rcases h' with h' | ⟨rfl, m', r', hb', hle', hlt'⟩
  · exact h.same h'
  · exact (h.not hb' hle').elim
  · exact (h'.not hb hle).elim
  · rfl
theorem ErrText.not {most : Int} {l : List Nat} {n : Int} (h : ErrText most l n) {bs rest : List Nat} (h1 : (bs.length : Int) ≤ most) (h2 : U64 bs.length) (h3 : l = bytesForm bs ++ rest) : False := by
  have hb := begins_text h2 h3
  rcases h with h | ⟨rfl, m, r, hb', hle, hlt⟩
  · exact h.not hb h1
  · obtain ⟨rfl, rfl⟩ := hb.unique hb'; simp at hlt; omega
theorem OutText.same {most : Int} {l r r' n n' : List Nat} {k k' : Int} (h : OutText most l n k r) (h' : OutText most l n' k' r') : n = n' ∧ k = k' ∧ r = r' := by
  rcases h with ⟨rfl, h1, h2, h3⟩ | ⟨_, he, rfl, rfl⟩ <;> rcases h' with ⟨rfl, h1', h2', h3'⟩ | ⟨_, he', rfl, rfl⟩
  · obtain ⟨e1, e2⟩ := (begins_text h2 h3).unique (begins_text h2' h3')
    obtain ⟨a1, a2⟩ := List.append_inj e2 e1
    exact ⟨a1, rfl, a2⟩
  · exact (he'.not h1 h2 h3).elim
  · exact (he.not h1' h2' h3').elim
  · exact ⟨rfl, he.same he', rfl⟩
theorem rcount {most : Int} (h0 : 0 ≤ most) {l : List Nat} {n : Int} (h : RErrCount most l n) : ErrCount most l n := by
  rcases h with ⟨rfl, h⟩ | ⟨rfl, m, r, h1, h2⟩
  · exact .inr (.inl ⟨h0, rfl, h⟩)
  · exact .inr (.inr ⟨h0, rfl, m, r, h1, h2⟩)
theorem OutText.neg {most : Int} {l bs rest : List Nat} {k : Int} (hm : most < 0) (h : OutText most l bs k rest) : k = 2 ∧ rest = l ∧ bs = [] := by
  rcases h with ⟨rfl, h1, _⟩ | ⟨_, he, rfl, rfl⟩
  · omega
  · exact ⟨he.same (.inl (.inl ⟨rfl, hm⟩)), rfl, rfl⟩
/-- Nothing that stood is other than it was, but the two readers. -/
structure G2 (r q : Nat) (w w' : World) : Prop where
  os : w'.os = w.os
  tape : w'.tape = w.tape
  output : w'.output = w.output
  size : w.heap.size ≤ w'.heap.size
  block : ∀ i, i < w.heap.size → i ≠ r → i ≠ q → w'.heap[i]? = w.heap[i]?
theorem G2.refl (r q : Nat) (w : World) : G2 r q w w := ⟨rfl, rfl, rfl, Nat.le_refl _, fun _ _ _ _ => rfl⟩
theorem G2.trans {r q : Nat} {a b c : World} (h : G2 r q a b) (k : G2 r q b c) : G2 r q a c :=
  ⟨k.os.trans h.os, k.tape.trans h.tape, k.output.trans h.output, Nat.le_trans h.size k.size, fun i hi h1 h2 => (k.block i (Nat.lt_of_lt_of_le hi h.size) h1 h2).trans (h.block i hi h1 h2)⟩
theorem g2_r {r q : Nat} {a b : World} (h : a.grownBy b (some r)) : G2 r q a b := ⟨h.os, h.tape, h.output, h.size, fun i hi h1 _ => h.block i hi (by intro e; injection e with e; exact h1 e)⟩
theorem g2_q {r q : Nat} {a b : World} (h : a.grownBy b (some q)) : G2 r q a b := ⟨h.os, h.tape, h.output, h.size, fun i hi _ h2 => h.block i hi (by intro e; injection e with e; exact h2 e)⟩
theorem g2_b {r q : Nat} {a b : World} (h : Below a.heap.size a b) : G2 r q a b := ⟨h.os, h.tape, h.output, h.size, fun i hi _ _ => h.block i hi⟩
end Go.Proofs.Ytlnihaeeoolkhaa

/- ikey's Read. -/
namespace Go.Proofs.Ytlnihaeeoolkhaa
open Go.ChangeShapes Go.WideShapes Go.ChangeAt Go.RowKit

theorem Own.nil (B : Nat) (w : World) : Own B [] (.slice none 0 0) w := World.ownsRow_nil _ _ _ _
theorem Own.grown {B r : Nat} {l : List Nat} {v : Value} {w w' : World} (h : Own B l v w) (hg : w.grownBy w' (some r)) (hr : r < B) : Own B l v w' := own_grown h hg hr
theorem OutText.len {most : Int} {l bs rest : List Nat} {k : Int} (h : OutText most l bs k rest) : bs.length ≤ l.length ∧ rest.length ≤ l.length ∧ (∀ x ∈ bs, x ∈ l) := by
  rcases h with ⟨_, _, _, rfl⟩ | ⟨_, _, rfl, rfl⟩
  · refine ⟨?_, ?_, fun x hx => ?_⟩
    · unfold bytesForm; simp only [List.length_append]; omega
    · simp only [List.length_append]; omega
    · unfold bytesForm; simp [hx]
  · simp
theorem OutNum.len {l rest : List Nat} {n : Nat} {k : Int} (h : OutNum l n k rest) : rest.length ≤ l.length ∧ U64 n := by
  rcases h with ⟨_, hb⟩ | ⟨_, _, rfl, rfl⟩
  · refine ⟨?_, hb.n64⟩
    rw [hb.eq, List.length_append]; omega
  · exact ⟨Nat.le_refl _, ⟨by omega⟩⟩

/-- What is read in a row, where an entry stands. -/
theorem read_is {b kb vb r1 r2 r3 r4 : List Nat} {n d : Nat} {k1 k2 k3 k4 : Int} (h1 : OutText 32 b kb k1 r1) (h2 : OutNum r1 n k2 r2) (h3 : OutNum r2 d k3 r3) (h4 : OutText 65536 r3 vb k4 r4) {e : Ent} (he : IsE b e) :
    e = ⟨kb, n, d, vb⟩ ∧ k1 = 0 ∧ k2 = 0 ∧ k3 = 0 ∧ (e.kind = 1 → k4 = 0) ∧ (e.kind = 2 → r3 = []) ∧ r4 = [] := by
  obtain ⟨hm, rfl⟩ := he
  obtain ⟨u1, u2, u3, u4⟩ := Ent.may_u64 hm
  obtain ⟨a1, a2, a3, a4, a5⟩ := mayN_iff.1 hm
  unfold Ent.form at h1
  obtain ⟨rfl, rfl, rfl⟩ := h1.same (.inl ⟨rfl, by omega, u1, rfl⟩)
  obtain ⟨rfl, rfl, rfl⟩ := h2.same (.inl ⟨rfl, u2, rfl⟩)
  obtain ⟨rfl, rfl, rfl⟩ := h3.same (.inl ⟨rfl, u3, rfl⟩)
  have e1 : ((e.seq.toNat : Nat) : Int) = e.seq := by omega
  have e2 : ((e.kind.toNat : Nat) : Int) = e.kind := by omega
  rcases a5 with ⟨a5, a6⟩ | ⟨a5, a6⟩
  · rw [if_pos a5] at h4
    obtain ⟨rfl, rfl, rfl⟩ := h4.same (.inl ⟨rfl, by omega, u4, (List.append_nil _).symm⟩)
    refine ⟨Ent.ext rfl e1.symm e2.symm rfl, rfl, rfl, rfl, fun _ => rfl, fun h => by omega, rfl⟩
  · rw [if_neg (by omega)] at h4
    have hv : vb = [] ∧ r4 = [] := by
      rcases h4 with ⟨_, _, _, h⟩ | ⟨_, _, rfl, rfl⟩
      · have h5 := congrArg List.length h
        have h6 := (bytesForm_len (l := vb) ⟨by omega⟩)
        simp only [List.length_append, List.length_nil] at h5
        omega
      · exact ⟨rfl, rfl⟩
    obtain ⟨rfl, rfl⟩ := hv
    refine ⟨Ent.ext rfl e1.symm e2.symm (List.eq_nil_of_length_eq_zero a6), rfl, rfl, rfl, fun h => by omega, fun _ => by rw [if_neg (by omega)], rfl⟩

/-- An entry of nothing. -/
def noE : Value := .agg #[.slice none 0 0, .int .i64 0, .int .i64 0, .slice none 0 0]
/-- What Read answers. -/
def ReadAns (w : World) (b : List Nat) (x : Ending) (w' : World) : Prop :=
  Ext w w' ∧ ((∃ (e : Ent) (g : Hd), IsE b e ∧ x = .returned (.tuple #[e.at_ g, .int .i64 0]) ∧ Own w.heap.size e.key (.slice g.kA e.key.length g.kc) w' ∧ Own w.heap.size e.val (.slice g.vA e.val.length g.vc) w') ∨
    ((∀ e, ¬ IsE b e) ∧ x = .returned (.tuple #[noE, .int .i64 4])))

theorem entry_ret {fn : Func} {tmps : Array Value} {w : World} {g : Nat} {p q : Tmp} {c : Array Value} {k : Value} {R : Ending → World → Prop} (hr : fn.results = #[.cell p 46, .tmp q]) (h2 : tmps.getD p undef = .pointer (some ⟨g, 0, none⟩)) (h3 : tmps.getD q undef = k)
    (hc : c.size = 4) (hg : w.heap[g]? = some (.cells c 46 (0, 0))) (h : R (.returned (.tuple #[.agg c, k])) w) : bodyPost Try.prog fn R .ret { tmps := tmps, defers := [] } w := by
  refine ⟨rfl, .tuple #[.agg c, k], ?_, h⟩
  have hi : (Try.prog.info? 46).map (·.size) = some 4 := by kernel_rfl
  have hl := run_loadVar_row (P := Try.prog) w g 46 46 c (0, 0) _ hg Try.underlying46 rfl (by rw [hc]; exact hi)
  have ha : (asAddr (.pointer (some ⟨g, 0, none⟩))).run Try.prog w = .ok ⟨g, 0, none⟩ w := rfl
  rw [results_cell_tmp hr, h2, h3, ha, Result.andThen_ok, hl, Result.andThen_ok]
/-- Four cells of a block, set. -/
theorem set_four {u : World} {g : Nat} {a b c d x y z t : Value} {ty : TypeId} (h : u.heap[g]? = some (.cells #[a, b, c, d] ty (0, 0))) :
    ((((u.setCell ⟨g, 0, none⟩ x).setCell ⟨g, 1, none⟩ y).setCell ⟨g, 2, none⟩ z).setCell ⟨g, 3, none⟩ t).heap[g]? = some (.cells #[x, y, z, t] ty (0, 0)) := by
  have h1 := heap_setCell_same u g 0 _ _ x h
  have h2 := heap_setCell_same (u.setCell ⟨g, 0, none⟩ x) g 1 _ _ y h1
  have h3 := heap_setCell_same ((u.setCell ⟨g, 0, none⟩ x).setCell ⟨g, 1, none⟩ y) g 2 _ _ z h2
  have h4 := heap_setCell_same (((u.setCell ⟨g, 0, none⟩ x).setCell ⟨g, 1, none⟩ y).setCell ⟨g, 2, none⟩ z) g 3 _ _ t h3
  rw [h4]; rfl
theorem frozen_four {u : World} {g j : Nat} {c : Array Value} {ty : TypeId} (h : u.heap[g]? = some (.cells c ty (0, 0))) : u.frozen? ⟨g, j, none⟩ = false := by simp [World.frozen?, h]

end Go.Proofs.Ytlnihaeeoolkhaa

/- A region that draws its order, by facts, up to an operation from which on each one waits for all ahead of it: from there on it is walked in the order of the text (no function of the program). -/
namespace Go.Proofs.Ytlnihaeeoolkhaa
open Go.RowKit

/-- Operation i waits for the j-th, by way of others. -/
def reachB (ops : Array Oper) : Nat → Nat → Nat → Bool
  | 0, _, _ => false
  | f + 1, i, j => match ops[i]? with | some o => aft o j || (List.range i).any (fun k => aft o k && reachB ops f k j) | none => false
/-- From the m-th operation on, each waits for the one ahead of it, and for all of the first m. -/
def tailOk (ops : Array Oper) (m : Nat) : Bool := (List.range ops.size).all fun i => decide (i < m) || ((decide (i = m) || match ops[i]? with | some o => aft o (i - 1) | none => false) && (List.range m).all (reachB ops ops.size i))

section
variable {P : Program} {ops : Array Oper} {Q : Exit → Act → World → Prop} {φ : List (Value → World → Prop)} {a0 : Act} {w0 : World} {m : Nat}

theorem tail_prev (h : tailOk ops m = true) {i : Nat} {o : Oper} (hi : ops[i]? = some o) (hm : m < i) : aft o (i - 1) = true := by
  have hlt := (Array.getElem?_eq_some_iff.1 hi).1
  have h1 := (List.all_eq_true.1 h) i (List.mem_range.2 hlt)
  simp only [hi, Bool.or_eq_true, Bool.and_eq_true, decide_eq_true_eq] at h1
  rcases h1 with h1 | ⟨h1 | h1, _⟩
  · omega
  · omega
  · exact h1
theorem tail_reach (h : tailOk ops m = true) {i : Nat} {o : Oper} (hi : ops[i]? = some o) (hm : m ≤ i) : ∀ j, j < m → reachB ops ops.size i j = true := by
  intro j hj
  have hlt := (Array.getElem?_eq_some_iff.1 hi).1
  have h1 := (List.all_eq_true.1 h) i (List.mem_range.2 hlt)
  simp only [hi, Bool.or_eq_true, Bool.and_eq_true, decide_eq_true_eq] at h1
  rcases h1 with h1 | ⟨_, h1⟩
  · omega
  · exact (List.all_eq_true.1 h1) j (List.mem_range.2 hj)
theorem reach_seen {seen : Array Bool} {a : Act} {u : World} (hI : Inv ops φ a0 w0 seen a u) : ∀ (f k j : Nat), seen.getD k false = true → reachB ops f k j = true → seen.getD j false = true := by
  intro f
  induction f with
  | zero => intro k j _ h; cases h
  | succ f ih =>
    intro k j hk h
    simp only [reachB] at h
    split at h
    · rename_i o ho
      rcases Bool.or_eq_true_iff.1 h with h | h
      · exact hI.closed k o ho hk j h
      · obtain ⟨k', _, h2⟩ := List.any_eq_true.1 h
        simp only [Bool.and_eq_true] at h2
        exact ih k' j (hI.closed k o ho hk k' h2.1) h2.2
    · cases h
theorem aft_seen {seen : Array Bool} {o : Oper} (hed : ∀ e ∈ o.after, Region.binds .any e = true → seen.getD e.on false = true) {j : Nat} (h : aft o j = true) : seen.getD j false = true := by
  unfold aft at h
  obtain ⟨e, he, hb⟩ := Array.any_eq_true'.1 h
  simp only [Bool.and_eq_true, beq_iff_eq] at hb
  rw [← hb.2]
  exact hed e he hb.1
theorem ready_seen {seen : Array Bool} {a : Act} {u : World} (hI : Inv ops φ a0 w0 seen a u) {i : Nat} {o : Oper} (hi : ops[i]? = some o) (hed : ∀ e ∈ o.after, Region.binds .any e = true → seen.getD e.on false = true) {f j : Nat} (h : reachB ops f i j = true) : seen.getD j false = true := by
  cases f with
  | zero => cases h
  | succ f =>
    simp only [reachB, hi] at h
    rcases Bool.or_eq_true_iff.1 h with h | h
    · exact aft_seen hed h
    · obtain ⟨k', _, h2⟩ := List.any_eq_true.1 h
      simp only [Bool.and_eq_true] at h2
      exact reach_seen hI f k' j (aft_seen hed h2.1) h2.2

theorem done_getD {n k j : Nat} (b : Bool) (hj : j < n) : (Done n k).getD j b = decide (j < k) := by simp [Done, Array.getD, hj]
theorem done_size (n k : Nat) : (Done n k).size = n := by simp [Done]

theorem seq_tail {size : Nat} (hok : flowOk ops size = true) (ht : tailOk ops m = true) : ∀ (r k : Nat) (a : Act) (u : World), k + r = ops.size → m ≤ k → wpList P ops Q (ops.toList.drop k) a u → wpAny P .any ops Q r (Done ops.size k) a u := by
  intro r
  induction r with
  | zero =>
    intro k a u hk hm h
    have hk' : k = ops.size := by omega
    subst hk'
    rw [List.drop_of_length_le (by simp)] at h
    refine ⟨List.eq_nil_iff_forall_not_mem.2 fun i hi => ?_, h⟩
    obtain ⟨hun, oi, hio, _⟩ := mem_ready.1 hi
    have hlt := (Array.getElem?_eq_some_iff.1 hio).1
    rw [done_getD true hlt] at hun
    simp at hun; omega
  | succ r ih =>
    intro k a u hk hm h
    have hlt : k < ops.size := by omega
    have ho : ops[k]? = some ops[k] := Array.getElem?_eq_getElem hlt
    rw [List.drop_eq_getElem_cons (by simpa using hlt)] at h
    have hready : k ∈ Region.ready .any ops (Done ops.size k) := mem_ready.2 ⟨by rw [done_getD true hlt]; simp, ops[k], ho, fun e he hb => by
      have h1 := (flowOk_at hok ho).1 e he hb
      rw [done_getD false (by omega)]; simpa using h1⟩
    refine ⟨fun h0 => absurd hready (by rw [h0]; simp), fun i hi => ?_⟩
    have hik : i = k := by
      obtain ⟨hun, oi, hio, hed⟩ := mem_ready.1 hi
      have hil := (Array.getElem?_eq_some_iff.1 hio).1
      rw [done_getD true hil] at hun
      have hge : k ≤ i := by simpa using hun
      rcases Nat.lt_or_ge k i with hki | hki
      · have h2 := aft_seen hed (tail_prev ht hio (by omega))
        rw [done_getD false (by omega)] at h2
        simp at h2; omega
      · omega
    subst hik
    have hnext : ∀ a u, wpList P ops Q (ops.toList.drop (i + 1)) a u → wpAny P .any ops Q r ((Done ops.size i).setIfInBounds i true) a u := fun a u h => by
      rw [Done.succ hlt]
      exact ih (i + 1) a u (by omega) (by omega) h
    unfold wpOp
    simp only [ho]
    unfold wpList at h
    rw [Array.getElem_toList] at h
    split
    · rename_i hw
      rw [if_pos hw] at h
      rcases h with h | h
      · exact .inl (Oper.wp_mono (fun a u h => hnext a u h) h)
      · exact .inr h
    · rename_i hw
      rw [if_neg hw] at h
      exact hnext _ _ h

theorem act_tail {seen : Array Bool} {a : Act} {u : World} (hok : flowOk ops a0.tmps.size = true) (hI : Inv ops φ a0 w0 seen a u) (hn : ∀ j, m ≤ j → seen.getD j false = false) : a = puts (held ops a) 0 (ops.toList.take m) a0 := by
  have hd : a.defers = (puts (held ops a) 0 (ops.toList.take m) a0).defers := by rw [puts_defers]; exact hI.defs
  have conv : ∀ (j : Nat) (o : Oper), (ops.toList.take m)[j]? = some o → j < m ∧ ops[j]? = some o := fun j o h => by
    rw [List.getElem?_take] at h
    split at h
    · rename_i hj; exact ⟨hj, by rw [← Array.getElem?_toList]; exact h⟩
    · cases h
  have ht : a.tmps = (puts (held ops a) 0 (ops.toList.take m) a0).tmps := by
    apply Array.ext_getElem?
    intro t
    by_cases hsz : t < a0.tmps.size
    · have huniq : ∀ (x y : Nat) (ox oy : Oper), (ops.toList.take m)[x]? = some ox → (ops.toList.take m)[y]? = some oy → ox.dst = some t → oy.dst = some t → x = y := fun x y ox oy hx hy h1 h2 => by
        rcases Nat.decEq x y with hne | he
        · exact absurd h1 (((flowOk_at hok (conv x ox hx).2).2.2.2 y oy t (conv y oy hy).2 h2).1 (fun e => hne e.symm))
        · exact he
      obtain ⟨h1, h2⟩ := puts_get (held ops a) (ops.toList.take m) 0 a0 t hsz huniq
      by_cases hex : ∃ (j : Nat) (oj : Oper), (ops.toList.take m)[j]? = some oj ∧ oj.dst = some t
      · obtain ⟨j, oj, hj, hd⟩ := hex
        rw [h2 j oj hj hd, Nat.zero_add]
        simp only [held, (conv j oj hj).2, slot, hd]
        have hts : t < a.tmps.size := by rw [hI.tsz]; exact hsz
        simp [Array.getD, hts]
      · have hex' : ∀ (j : Nat) (o : Oper), (ops.toList.take m)[j]? = some o → o.dst ≠ some t := fun j o hj hd => hex ⟨j, o, hj, hd⟩
        rw [h1 hex']
        refine hI.old t fun j oj hj hs => ?_
        have hjm : j < m := by
          rcases Nat.lt_or_ge j m with h | h
          · exact h
          · rw [hn j h] at hs; cases hs
        exact hex' j oj (by rw [List.getElem?_take, if_pos hjm, Array.getElem?_toList]; exact hj)
    · rw [Array.getElem?_eq_none (by rw [hI.tsz]; omega), Array.getElem?_eq_none (by rw [puts_size]; omega)]
  have ext : ∀ x y : Act, x.tmps = y.tmps → x.defers = y.defers → x = y := by rintro ⟨_, _⟩ ⟨_, _⟩ rfl rfl; rfl
  exact ext _ _ ht hd

theorem flow_tail_any (hok : flowOk ops a0.tmps.size = true) (hsel : Region.noSelect ops = true) (hmn : m ≤ ops.size) (htl : tailOk ops m = true) (hmono : ∀ p ∈ φ, Mono p)
    (hobl : ∀ f, Obls P ops φ w0 f 0 (ops.toList.take m) a0)
    (hfin : ∀ (g : Nat → Value) u, Ext w0 u → (∀ j, j < m → fact φ j (g j) u) → wpList P ops Q (ops.toList.drop m) (puts g 0 (ops.toList.take m) a0) u) :
    ∀ (n : Nat) (seen : Array Bool) (a : Act) (u : World), Inv ops φ a0 w0 seen a u → (∀ j, m ≤ j → seen.getD j false = false) → left ops seen = n → wpAny P .any ops Q n seen a u := by
  have whole : ∀ (n : Nat) (seen : Array Bool) (a : Act) (u : World), Inv ops φ a0 w0 seen a u → (∀ j, m ≤ j → seen.getD j false = false) → left ops seen = n → (∀ j, j < m → seen.getD j false = true) → wpAny P .any ops Q n seen a u := fun n seen a u hI hn hl hall => by
    have hseen : seen = Done ops.size m := by
      apply Array.ext
      · rw [hI.size, done_size]
      · intro i h1 h2
        have e1 : seen[i] = seen.getD i false := by simp [Array.getD, h1]
        have e2 : (Done ops.size m)[i] = (Done ops.size m).getD i false := by simp [Array.getD, h2]
        rw [e1, e2, done_getD false (by rw [← hI.size]; exact h1)]
        rcases Nat.lt_or_ge i m with h | h
        · rw [hall i h]; simp [h]
        · rw [hn i h]; simp; omega
    have hleft : left ops seen = ops.size - m := by
      unfold left
      have : (List.range ops.size).countP (fun i => !seen.getD i false) = (List.range ops.size).countP (fun i => decide (m ≤ i)) := by
        apply List.countP_congr
        intro j hj
        rcases Nat.lt_or_ge j m with h | h
        · rw [hall j h]; simp; omega
        · rw [hn j h]; simp; omega
      rw [this]
      have cnt : ∀ N, (List.range N).countP (fun i => decide (m ≤ i)) = N - m := by
        intro N
        induction N with
        | zero => simp
        | succ N ih =>
          rw [List.range_succ, List.countP_append, ih, List.countP_singleton]
          by_cases h : m ≤ N
          · simp [h]; omega
          · simp [h]; omega
      exact cnt _
    have hA := act_tail hok hI hn
    have hF := hfin (held ops a) u hI.ext fun j hj => by
      have hoj : ops[j]? = some ops[j] := Array.getElem?_eq_getElem (by omega)
      simp only [held, hoj]
      exact hI.facts j _ hoj (hall j hj)
    rw [← hA] at hF
    rw [← hl, hleft, hseen]
    exact seq_tail hok htl _ _ _ _ (by omega) (Nat.le_refl _) hF
  intro n
  induction n with
  | zero =>
    intro seen a u hI hn hl
    refine whole 0 seen a u hI hn hl fun j hj => ?_
    have := List.countP_eq_zero.1 hl j (List.mem_range.2 (by omega))
    simpa using this
  | succ n ih =>
    intro seen a u hI hn hl
    by_cases hall : ∀ j, j < m → seen.getD j false = true
    · exact whole _ seen a u hI hn hl hall
    · have hread : Region.ready .any ops seen = [] → False := fun hr => hall fun j hj => by
        exact all_seen hok hI hr j (by omega)
      refine ⟨fun hr => (hread hr).elim, fun i hi => ?_⟩
      obtain ⟨hun, oi, hio, hed⟩ := mem_ready.1 hi
      have hlt := (Array.getElem?_eq_some_iff.1 hio).1
      rw [getD_both seen (by rw [hI.size]; exact hlt)] at hun
      have hleft := left_next hI.size hlt hun
      have him : i < m := by
        rcases Nat.lt_or_ge i m with h | h
        · exact h
        · exfalso
          refine hall fun j hj => ?_
          exact ready_seen hI hio hed (tail_reach htl hio h j hj)
      refine wpOp_mono (fun b u' hb => ih _ b u' hb ?_ (by omega)) (flow_step hok hsel hmono hobl hI him hi)
      intro j hj
      rw [set_getD, if_neg (fun h => by have := h.1; omega)]; exact hn j hj

/-- A region that draws its order, whose last operations are done one behind the other. -/
theorem flow_tail {id : Nat} {w : World} (hm0 : P.follows .mixedOrders = true) (φ : List (Value → World → Prop)) (m : Nat) (hok : flowOk ops a0.tmps.size = true) (hsel : Region.noSelect ops = true) (hmn : decide (m ≤ ops.size) = true) (htl : tailOk ops m = true) (hmono : ∀ p ∈ φ, Mono p)
    (hobl : ∀ f, Obls P ops φ w.drew f 0 (ops.toList.take m) a0)
    (hfin : ∀ (g : Nat → Value) u, Ext w.drew u → (∀ j, j < m → fact φ j (g j) u) → wpList P ops Q (ops.toList.drop m) (puts g 0 (ops.toList.take m) a0) u) :
    (Code.region id ops true).wp P Q a0 w := by
  refine wp_region_any hm0 (flow_tail_any hok hsel (of_decide_eq_true hmn) htl hmono hobl hfin ops.size _ a0 w.drew inv_start (fun j _ => ?_) left_start)
  rw [Array.getD_eq_getD_getElem?]
  by_cases hj : j < ops.size
  · simp [hj]
  · simp [hj]
end
end Go.Proofs.Ytlnihaeeoolkhaa

/- ikey's Copy; the law's put and del. -/
namespace Go.Proofs.Ytlnihaeeoolkhaa
open Go.ChangeShapes Go.WideShapes Go.ChangeAt Go.RowKit

theorem entry_ret1 {fn : Func} {tmps : Array Value} {w : World} {g : Nat} {p : Tmp} {c : Array Value} {R : Ending → World → Prop} (hr : fn.results = #[.cell p 46]) (h2 : tmps.getD p undef = .pointer (some ⟨g, 0, none⟩))
    (hc : c.size = 4) (hg : w.heap[g]? = some (.cells c 46 (0, 0))) (h : R (.returned (.agg c)) w) : bodyPost Try.prog fn R .ret { tmps := tmps, defers := [] } w := by
  have hi : (Try.prog.info? 46).map (·.size) = some 4 := by kernel_rfl
  exact ⟨rfl, .agg c, results_cell_row hr _ _ _ _ _ _ _ h2 hg Try.underlying46 rfl (by rw [hc]; exact hi), h⟩

theorem Own.far {B : Nat} {l : List Nat} {v x : Value} {u : World} {p : Addr} (h : Own B l v u) (hp : p.block < B) : Own B l v (u.setCell p x) :=
  row_kept h (fun g hg => Below.heap_setCell _ _ _ _ (by have := (row_lt h g hg).1; omega))
/-- What Copy answers. -/
def CopyAns (w : World) (e : Ent) (x : Ending) (w' : World) : Prop :=
  Ext w w' ∧ ∃ g : Hd, x = .returned (e.at_ g) ∧ Own w.heap.size e.key (.slice g.kA e.key.length g.kc) w' ∧ Own w.heap.size e.val (.slice g.vA e.val.length g.vc) w'

set_option maxRecDepth 100000 in
set_option maxHeartbeats 4000000 in
theorem copy_any {w : World} {lo hi : Nat} {e : Ent} {g : Hd} (hm : Em w lo hi e g) (hhi : hi ≤ w.heap.size) (hk : e.key.length ≤ 1099511627776) (hv : e.val.length ≤ 1099511627776) : Calls Try.prog 47 #[e.at_ g] w (CopyAns w e) := by
  obtain ⟨w1, hw1⟩ : ∃ w1, w1 = (w.alloc (.cells #[.slice g.kA e.key.length g.kc, .int .i64 e.seq, .int .i64 e.kind, .slice g.vA e.val.length g.vc] 46)).alloc (.cells #[.slice none 0 0, .int .i64 0, .int .i64 0, .slice none 0 0] 46) := ⟨_, rfl⟩
  have HX : Hid (Ext w w1) := by rw [hw1]; exact Ext.trans (ext_alloc _ _) (ext_alloc _ _)
  have HZ1 : Hid (w1.heap.size = w.heap.size + 2) := by rw [hw1]; simp [Hid]
  have HBX : Hid (w1.heap[w.heap.size]? = some (.cells #[.slice g.kA e.key.length g.kc, .int .i64 e.seq, .int .i64 e.kind, .slice g.vA e.val.length g.vc] 46 (0, 0))) := by rw [hw1]; exact ext_heap (ext_alloc _ _) (heap_at _ _ rfl)
  have HRX : Hid (w1.heap[w.heap.size + 1]? = some (.cells #[.slice none 0 0, .int .i64 0, .int .i64 0, .slice none 0 0] 46 (0, 0))) := by rw [hw1]; exact heap_at _ _ (by simp)
  have HM := Lib.hid hm
  have HHI := Lib.hid hhi
  have HK := Lib.hid hk
  have HV := Lib.hid hv
  clear hm hhi hk hv
  have c0 := cell_of HBX.out (k := 0) rfl
  have c3 := cell_of HBX.out (k := 3) rfl
  unfold Ent.at_
  go_enter Try.func47, Try.ntmps47
  go_upto_region 1 with (fail)
  rw [← hw1]
  clear hw1
  refine flow_tail (by kernel_rfl) [Is (.pointer (some ⟨w.heap.size, 0, none⟩)), Is (.slice g.kA e.key.length g.kc), Own w1.heap.size e.key, Is (.pointer (some ⟨w.heap.size, 3, none⟩)), Is (.slice g.vA e.val.length g.vc), Own w1.heap.size e.val, Is (.pointer (some ⟨w.heap.size, 0, none⟩))] 7 (by kernel_rfl) (by kernel_rfl) (by kernel_rfl) (by kernel_rfl) ?mono (fun f => ?obl) ?fin
  case mono =>
    simp only [List.forall_mem_cons, List.not_mem_nil, false_imp_iff, implies_true, and_true]
    exact ⟨.is _, .is _, .own _ _, .is _, .is _, .own _ _, .is _⟩
  case fin =>
    intro g1 u hu hg
    simp only [List.take_succ_cons, List.take_zero, List.drop_succ_cons, List.drop_zero, puts, Act.put, List.setIfInBounds_toArray, List.set_cons_zero, List.set_cons_succ]
    have h2 : Own w1.heap.size e.key (g1 2) u := hg 2 (by decide)
    have h5 : Own w1.heap.size e.val (g1 5) u := hg 5 (by decide)
    have h6 : g1 6 = .pointer (some ⟨w.heap.size, 0, none⟩) := hg 6 (by decide)
    obtain ⟨v2, e2⟩ : ∃ v, v = g1 2 := ⟨_, rfl⟩
    obtain ⟨v5, e5⟩ : ∃ v, v = g1 5 := ⟨_, rfl⟩
    rw [h6]
    rw [← e2] at h2 ⊢
    rw [← e5] at h5 ⊢
    have H2 := Lib.hid h2
    have H5 := Lib.hid h5
    obtain ⟨A2, c2, rfl⟩ := h2.slice
    obtain ⟨A5, c5, rfl⟩ := h5.slice
    have HU : Hid (Ext w1 u) := Ext.trans (Ext.drew w1) hu
    have hb1 := ext_heap HU.out HBX.out
    have hb2 := ext_heap HU.out HRX.out
    have q0 := cell_of hb1 (k := 0) rfl
    have q1 := cell_of hb1 (k := 1) rfl
    have q2 := cell_of hb1 (k := 2) rfl
    have q3 := cell_of hb1 (k := 3) rfl
    have z0 := frozen_four hb1 (j := 0)
    have z3 := frozen_four hb1 (j := 3)
    have r0 := cell_of hb2 (k := 0) rfl
    have r1 := cell_of hb2 (k := 1) rfl
    have r2 := cell_of hb2 (k := 2) rfl
    have r3 := cell_of hb2 (k := 3) rfl
    have y0 := frozen_four hb2 (j := 0)
    have y1 := frozen_four hb2 (j := 1)
    have y2 := frozen_four hb2 (j := 2)
    have y3 := frozen_four hb2 (j := 3)
    have HB2 := Lib.hid hb2
    clear h2 h5 h6 e2 e5 hb1 hb2 hg hu c0 c3
    go_wp2_with fail
    have n1 : w.heap.size < w1.heap.size := by have := HZ1.out; omega
    have n2 : w.heap.size + 1 < w1.heap.size := by have := HZ1.out; omega
    have n3 : w.heap.size ≤ w1.heap.size := Nat.le_of_lt n1
    have HUW := Ext.trans HX.out HU.out
    refine entry_ret1 (p := 2) (by kernel_rfl) rfl rfl (set_four (a := .slice none 0 0) (b := .int .i64 0) (c := .int .i64 0) (d := .slice none 0 0) ?_) ?_
    · rw [Below.heap_setCell _ _ _ _ (by simp), Below.heap_setCell _ _ _ _ (by simp)]; exact HB2.out
    · refine ⟨Below.setCell (Below.setCell (Below.setCell (Below.setCell (Below.setCell (Below.setCell HUW (Nat.le_refl _) _) (Nat.le_refl _) _) (Nat.le_succ _) _) (Nat.le_succ _) _) (Nat.le_succ _) _) (Nat.le_succ _) _, ⟨A2, c2, A5, c5⟩, rfl, ?_, ?_⟩
      · exact ((((((H2.out.far n1).far n1).far n2).far n2).far n2).far n2).base n3
      · exact ((((((H5.out.far n1).far n1).far n2).far n2).far n2).far n2).base n3
  case obl =>
    refine ⟨fun u hu hd => ?_, ?_⟩
    · go_simp
      exact ⟨Ext.refl _, rfl⟩
    refine ⟨fun u hu hd => ?_, ?_⟩
    · simp only [Act.put, List.setIfInBounds_toArray, List.set_cons_zero, List.set_cons_succ]
      have e0 : f 0 = (.pointer (some ⟨w.heap.size, 0, none⟩)) := hd 0 (by kernel_rfl)
      have q := ext_cell hu c0
      go_simp
      exact ⟨Ext.refl _, rfl⟩
    refine ⟨fun u hu hd => ?_, ?_⟩
    · simp only [Act.put, List.setIfInBounds_toArray, List.set_cons_zero, List.set_cons_succ]
      have e1 : f 1 = (.slice g.kA e.key.length g.kc) := hd 1 (by kernel_rfl)
      go_simp
      refine (clone_any _ lo hi e.key u (HM.out.k.below (Ext.trans HX.out (Ext.trans (Ext.drew w1) hu)) HHI.out) (Nat.le_trans HHI.out (Ext.trans HX.out (Ext.trans (Ext.drew w1) hu)).size) HK.out).mono ?_
      rintro x w9 ⟨v, rfl, hown, hb9⟩
      exact ⟨v, rfl, hb9, ownsRow_base hown (Ext.trans (Ext.drew w1) hu).size⟩
    refine ⟨fun u hu hd => ?_, ?_⟩
    · simp only [Act.put, List.setIfInBounds_toArray, List.set_cons_zero, List.set_cons_succ]
      go_simp
      exact ⟨Ext.refl _, rfl⟩
    refine ⟨fun u hu hd => ?_, ?_⟩
    · simp only [Act.put, List.setIfInBounds_toArray, List.set_cons_zero, List.set_cons_succ]
      have e3 : f 3 = (.pointer (some ⟨w.heap.size, 3, none⟩)) := hd 3 (by kernel_rfl)
      have q := ext_cell hu c3
      go_simp
      exact ⟨Ext.refl _, rfl⟩
    refine ⟨fun u hu hd => ?_, ?_⟩
    · simp only [Act.put, List.setIfInBounds_toArray, List.set_cons_zero, List.set_cons_succ]
      have e4 : f 4 = (.slice g.vA e.val.length g.vc) := hd 4 (by kernel_rfl)
      go_simp
      refine (clone_any _ lo hi e.val u (HM.out.v.below (Ext.trans HX.out (Ext.trans (Ext.drew w1) hu)) HHI.out) (Nat.le_trans HHI.out (Ext.trans HX.out (Ext.trans (Ext.drew w1) hu)).size) HV.out).mono ?_
      rintro x w9 ⟨v, rfl, hown, hb9⟩
      exact ⟨v, rfl, hb9, ownsRow_base hown (Ext.trans (Ext.drew w1) hu).size⟩
    refine ⟨fun u hu hd => ?_, ?_⟩
    · simp only [Act.put, List.setIfInBounds_toArray, List.set_cons_zero, List.set_cons_succ]
      go_simp
      exact ⟨Ext.refl _, rfl⟩
    trivial
end Go.Proofs.Ytlnihaeeoolkhaa

/- The law's entries: put and del, of texts. -/
namespace Go.Proofs.Ytlnihaeeoolkhaa
open Go.ChangeShapes Go.WideShapes Go.ChangeAt Go.RowKit

/-- '[]byte(s)'. -/
theorem conv_new (w : World) (l : List Nat) (hl : ∀ x ∈ l, x < 256) (hlen : l.length ≤ 1000) : ∃ A c w', (convert 9 34 (.string (tx l))).run Try.prog w = .ok (.slice A l.length c) w' ∧ Ext w w' ∧ Bs w' w.heap.size w'.heap.size (.slice A l.length c) l := by
  have hs : (tx l).size = l.length := by unfold tx; rw [strOfNums_size, List.length_map]
  have hb : ∀ (b : Nat), b < w.heap.size → (Lib.bytesWorld w 5 (tx l)).heap[b]? = w.heap[b]? := fun b hb => Lib.bytesWorld_at_old _ _ _ _ hb
  refine ⟨_, _, _, by rw [← hs]; exact Lib.run_convert_string_bytes w _ _ _ (tx l) Try.underlying9 Try.underlying34 Try.underlying5, ⟨?_, ?_, ?_, ?_, fun b h => hb b h⟩, ?_⟩
  · simp [Lib.bytesWorld, World.freeze, World.alloc, World.drew, -World.alloc_eq, -World.drew_eq]
  · simp [Lib.bytesWorld, World.freeze, World.alloc, World.drew, -World.alloc_eq, -World.drew_eq]
  · simp [Lib.bytesWorld, World.freeze, World.alloc, World.drew, -World.alloc_eq, -World.drew_eq]
  · rw [Lib.bytesWorld_size]; omega
  · refine ⟨_, _, rfl, by rw [← hs]; exact grownCap_ge _ _ _ _, by exact grownCap_le_maxLen _ _ _ _ (by rw [hs]; unfold maxLen; omega), (fun h => by cases h), .inr ⟨w.heap.size, 0, rfl, Nat.le_refl _, by rw [Lib.bytesWorld_size]; omega, fun i u hu => ?_⟩⟩
    have hi : i < l.length := by
      rcases Nat.lt_or_ge i l.length with h | h
      · exact h
      · rw [List.getElem?_eq_none (by rw [bv_length]; exact h)] at hu; cases hu
    rw [Nat.zero_add, Lib.bytesWorld_cell _ _ _ _ (by rw [hs]; exact hi), ← hu]
    have hx := hl l[i] (List.getElem_mem hi)
    unfold tx bv
    rw [strOfNums_data]
    simp [List.getD, List.getElem?_eq_getElem hi, Nat.mod_eq_of_lt hx]

/-- What put and del answer. -/
def LitAns (w : World) (e : Ent) (x : Ending) (w' : World) : Prop := Ext w w' ∧ ∃ g : Hd, x = .returned (e.at_ g) ∧ Em w' w.heap.size w'.heap.size e g

end Go.Proofs.Ytlnihaeeoolkhaa

/- Rows of entries in memory. -/
namespace Go.Proofs.Ytlnihaeeoolkhaa
open Go.ChangeShapes Go.WideShapes Go.ChangeAt Go.RowKit

/-- An entry's cells. -/
def ecells (p : Ent × Hd) : List Value := [.slice p.2.kA p.1.key.length p.2.kc, .int .i64 p.1.seq, .int .i64 p.1.kind, .slice p.2.vA p.1.val.length p.2.vc]
theorem ecells_length (p : Ent × Hd) : (ecells p).length = 4 := rfl
def erow (L : List (Ent × Hd)) : List Value := L.flatMap ecells
theorem erow_length (L : List (Ent × Hd)) : (erow L).length = L.length * 4 := by
  unfold erow
  induction L with
  | nil => rfl
  | cons a l ih => rw [List.flatMap_cons, List.length_append, ih, ecells_length, List.length_cons]; omega
theorem erow_append (L R : List (Ent × Hd)) : erow (L ++ R) = erow L ++ erow R := by simp [erow]
theorem erow_at (L : List (Ent × Hd)) {k j : Nat} (hk : k < L.length) (hj : j < 4) : (erow L)[k * 4 + j]? = (ecells L[k])[j]? := by
  unfold erow
  induction L generalizing k with
  | nil => simp at hk
  | cons a l ih =>
    rw [List.flatMap_cons]
    cases k with
    | zero => rw [List.getElem?_append_left (by rw [ecells_length]; omega)]; simp
    | succ k =>
      rw [List.getElem?_append_right (by rw [ecells_length]; omega), ecells_length, show (k + 1) * 4 + j - 4 = k * 4 + j by omega]
      simpa using ih (k := k) (by simpa using hk)
theorem erow_one (L : List (Ent × Hd)) : ∀ u ∈ erow L, u.oneCell' = true := by
  intro u hu
  unfold erow at hu
  obtain ⟨p, _, h⟩ := List.mem_flatMap.1 hu
  simp only [ecells, List.mem_cons, List.not_mem_nil, or_false] at h
  rcases h with rfl | rfl | rfl | rfl <;> rfl
/-- Entries in a row. -/
structure Es (w : World) (lo hi : Nat) (A : Option Addr) (L : List (Ent × Hd)) : Prop where
  outer : Sl w lo hi A (erow L)
  each : ∀ p ∈ L, Em w lo hi p.1 p.2
theorem Es.below {w w' : World} {lo hi B : Nat} {A : Option Addr} {L : List (Ent × Hd)} (h : Es w lo hi A L) (hb : Below B w w') (hB : hi ≤ B) : Es w' lo hi A L := ⟨h.outer.below hb hB, fun p hp => (h.each p hp).below hb hB⟩
theorem Es.wide {w : World} {lo hi lo' hi' : Nat} {A : Option Addr} {L : List (Ent × Hd)} (h : Es w lo hi A L) (h1 : lo' ≤ lo) (h2 : hi ≤ hi') : Es w lo' hi' A L := ⟨h.outer.wide h1 h2, fun p hp => (h.each p hp).wide h1 h2⟩
/-- Where the row begins, and the k-th entry's cells. -/
theorem Es.at_ {w : World} {lo hi : Nat} {A : Option Addr} {L : List (Ent × Hd)} (h : Es w lo hi A L) {k : Nat} (hk : k < L.length) :
    ∃ b o, A = some ⟨b, o, none⟩ ∧ b < hi ∧ w.cell? ⟨b, o + k * 4, none⟩ = some (.slice L[k].2.kA L[k].1.key.length L[k].2.kc) ∧ w.cell? ⟨b, o + k * 4 + 1, none⟩ = some (.int .i64 L[k].1.seq) ∧
      w.cell? ⟨b, o + k * 4 + 2, none⟩ = some (.int .i64 L[k].1.kind) ∧ w.cell? ⟨b, o + k * 4 + 3, none⟩ = some (.slice L[k].2.vA L[k].1.val.length L[k].2.vc) := by
  obtain ⟨b, o, rfl, _, hb, _⟩ := Sl.at_ h.outer (i := k * 4) (by rw [erow_length]; omega)
  have hc : ∀ j u, (erow L)[j]? = some u → w.cell? ⟨b, o + j, none⟩ = some u := by
    rcases h.outer with h0 | ⟨b', o', he, _, _, hc⟩
    · have := congrArg List.length h0
      rw [erow_length] at this
      simp at this; omega
    · injection he with he
      injection he with e1 e2
      subst e1 e2
      exact hc
  have hj := fun (j : Nat) (hj : j < 4) (u : Value) (hu : (ecells L[k])[j]? = some u) => hc (k * 4 + j) u ((erow_at L hk hj).trans hu)
  refine ⟨b, o, rfl, hb, hj 0 (by decide) _ rfl, ?_, ?_, ?_⟩
  · rw [Nat.add_assoc]; exact hj 1 (by decide) _ rfl
  · rw [Nat.add_assoc]; exact hj 2 (by decide) _ rfl
  · rw [Nat.add_assoc]; exact hj 3 (by decide) _ rfl

theorem Es.base {w : World} {lo hi : Nat} {A : Option Addr} {L : List (Ent × Hd)} (h : Es w lo hi A L) (h0 : 0 < L.length) : ∃ b o, A = some ⟨b, o, none⟩ := by
  obtain ⟨b, o, e, _⟩ := h.at_ h0
  exact ⟨b, o, e⟩
theorem Es.get {w : World} {lo hi b o : Nat} {L : List (Ent × Hd)} (h : Es w lo hi (some ⟨b, o, none⟩) L) {k : Nat} {p : Ent × Hd} (hk : L[k]? = some p) :
    w.cell? ⟨b, o + k * 4, none⟩ = some (.slice p.2.kA p.1.key.length p.2.kc) ∧ w.cell? ⟨b, o + k * 4 + 1, none⟩ = some (.int .i64 p.1.seq) ∧
      w.cell? ⟨b, o + k * 4 + 2, none⟩ = some (.int .i64 p.1.kind) ∧ w.cell? ⟨b, o + k * 4 + 3, none⟩ = some (.slice p.2.vA p.1.val.length p.2.vc) := by
  obtain ⟨hlt, rfl⟩ := List.getElem?_eq_some_iff.1 hk
  obtain ⟨_, _, he, _, c0, c1, c2, c3⟩ := h.at_ hlt
  injection he with he; injection he with e1 e2; subst e1 e2
  exact ⟨c0, c1, c2, c3⟩

/-- So many entries rise. -/
structure RiseAt (L : List Ent) (n : Nat) : Prop where
  le : n ≤ L.length
  rise : ∀ j a b, j + 1 < n → L[j]? = some a → L[j + 1]? = some b → cmpE a b < 0
  stop : n < L.length → ∃ j a b, n = j + 1 ∧ L[j]? = some a ∧ L[j + 1]? = some b ∧ ¬ cmpE a b < 0
end Go.Proofs.Ytlnihaeeoolkhaa

/- How far entries rise. -/
namespace Go.Proofs.Ytlnihaeeoolkhaa
open Go.ChangeShapes Go.WideShapes Go.ChangeAt Go.RowKit

end Go.Proofs.Ytlnihaeeoolkhaa

/- The reference: May, CompareKeys, Compare, Bytes; the law's long. -/
namespace Go.Proofs.Ytlnihaeeoolkhaa
open Go.ChangeShapes Go.WideShapes Go.ChangeAt Go.RowKit

theorem cmpK_nil (b : List Nat) : cmpK [] b = if b.length = 0 then 0 else -1 := by cases b <;> simp [cmpK]
theorem cmpK_nil2 (a : List Nat) : cmpK a [] = if a.length = 0 then 0 else 1 := by cases a <;> simp [cmpK]
theorem cmpK_take {a b : List Nat} : ∀ {k : Nat}, k ≤ a.length → k ≤ b.length → a.take k = b.take k → cmpK a b = cmpK (a.drop k) (b.drop k)
  | 0, _, _, _ => by simp
  | k + 1, ha, hb, h => by
    cases a with
    | nil => simp at ha
    | cons x l =>
      cases b with
      | nil => simp at hb
      | cons y r =>
        simp only [List.take_succ_cons, List.cons.injEq] at h
        obtain ⟨rfl, h⟩ := h
        simp only [List.drop_succ_cons, cmpK]
        rw [if_neg (by omega), if_neg (by omega)]
        exact cmpK_take (by simpa using ha) (by simpa using hb) h

end Go.Proofs.Ytlnihaeeoolkhaa

/- A region that draws its order, by facts, within a round of a loop over a function. -/
namespace Go.Proofs.Ytlnihaeeoolkhaa
open Go.RowKit

section
variable {P : Program} {ops : Array Oper} {Q : Exit → Act → World → Prop} {l m : Nat}

theorem op_in {o : Oper} {a : Act} {w : World} {K : Act → World → Prop} (hnd : ∀ c, o.op ≠ .defer c) (h : o.wp P a w K Q) : o.wpIn (Fence.wide.inRound l) m P a w K Q := by
  refine ⟨fun _ _ => trivial, ?_⟩
  rw [show (Fence.wide.inRound l).round = some l from rfl, Oper.semAt_some l a.eval o hnd]
  unfold Oper.wp at h
  generalize (execOp a.eval o).run P w = r at h ⊢
  cases r with
  | ok x w' =>
    cases x with
    | value v => exact h
    | skip => exact h
    | defer d => exact h
    | enter f args => exact ⟨(fun e => (by cases e)), CallsIn.inRound l (callsIn_wide.2 h)⟩
    | row row args =>
      refine ⟨(fun e => (by cases e)), fun c cs _ => ?_⟩
      obtain ⟨v, w2, hr, hs⟩ := h c cs
      exact ⟨v, w2, hr, stepsIn_wide.2 hs⟩
    | _ => exact h.elim
  | halt x w' => cases x <;> first | exact h | exact h.elim

theorem any_in (hnd : ∀ (i : Nat) (o : Oper), ops[i]? = some o → ∀ c, o.op ≠ .defer c) (hQ : ¬ LetsOut Q) : ∀ (n : Nat) (seen : Array Bool) (a : Act) (w : World), wpAny P .any ops Q n seen a w → wpAnyIn (Fence.wide.inRound l) m P .any ops Q n seen a w := by
  intro n
  induction n with
  | zero => intro seen a w h; exact h
  | succ n ih =>
    intro seen a w h
    refine ⟨h.1, fun i hi => ?_⟩
    have h2 := h.2 i hi
    unfold wpOp at h2
    unfold wpOpIn
    cases ho : ops[i]? with
    | none => simp only [ho] at h2 ⊢; exact ih _ _ _ h2
    | some o =>
      simp only [ho] at h2 ⊢
      split
      · rename_i hw
        rw [if_pos hw] at h2
        rcases h2 with h2 | ⟨_, h2⟩
        · exact Oper.wpIn_mono (fun a w h => ih _ a w h) (op_in (hnd i o ho) h2)
        · exact absurd h2 hQ
      · rename_i hw
        rw [if_neg hw] at h2
        exact ⟨fun _ _ => trivial, ih _ _ _ h2⟩

/-- No operation of these is a defer statement. -/
def noDefer (ops : Array Oper) : Bool := ops.all fun o => match o.op with | .defer _ => false | _ => true
theorem noDefer_at (h : noDefer ops = true) (i : Nat) (o : Oper) (ho : ops[i]? = some o) (c : Call) : o.op ≠ .defer c := by
  intro e
  obtain ⟨hi, he⟩ := Array.getElem?_eq_some_iff.1 ho
  have := (Array.all_eq_true.1 h) i hi
  rw [he, e] at this
  cases this

theorem flow_in {a0 : Act} {id : Nat} {w : World} (hm : P.follows .mixedOrders = true) (hnd : noDefer ops = true) (hQ : ∀ a w, ¬ Q .outgrown a w) (φ : List (Value → World → Prop)) (hok : flowOk ops a0.tmps.size = true) (hsel : Region.noSelect ops = true) (hmono : ∀ p ∈ φ, Mono p)
    (hobl : ∀ f, Obls P ops φ w.drew f 0 ops.toList a0)
    (hfin : ∀ (g : Nat → Value) u, Ext w.drew u → (∀ j, j < ops.size → fact φ j (g j) u) → Q .normal (puts g 0 ops.toList a0) u) : (Code.region id ops true).wpIn (Fence.wide.inRound l) m P Q a0 w := by
  refine wpIn_region_any hm (any_in (noDefer_at hnd) (fun ⟨a, w, h⟩ => hQ a w h) _ _ _ _ (flow_any hok hsel hmono hobl hfin _ _ _ _ ⟨Ext.refl _, by simp, rfl, rfl, fun _ _ => rfl, fun j oj hj hs => ?_, fun j oj hj hs => ?_⟩ ?_))
  · have hlt := (Array.getElem?_eq_some_iff.1 hj).1
    simp [Array.getD, hlt] at hs
  · have hlt := (Array.getElem?_eq_some_iff.1 hj).1
    simp [Array.getD, hlt] at hs
  · unfold left
    rw [List.countP_eq_length.2]
    · simp
    · intro i hi
      have hlt := List.mem_range.1 hi
      simp [Array.getD, hlt]
end
end Go.Proofs.Ytlnihaeeoolkhaa

/- Going over the pieces of a row of entries that have one key each. -/
namespace Go.Proofs.Ytlnihaeeoolkhaa
open Go.RowKit Go.Shelf
attribute [local go_sem] Oper.semAt_some

theorem Em.keep {w w' : World} {lo hi : Nat} {e : Ent} {g : Hd} (m : Em w lo hi e g) (hk : ∀ p : Addr, lo ≤ p.block → p.block < hi → w'.cell? p = w.cell? p) : Em w' lo hi e g := ⟨m.k.of fun _ h => h.keep hk, m.v.of fun _ h => h.keep hk, m.bk, m.bv, m.s1, m.s2, m.d1, m.d2⟩
theorem Es.keep {w w' : World} {lo hi : Nat} {A : Option Addr} {L : List (Ent × Hd)} (h : Es w lo hi A L) (hk : ∀ p : Addr, lo ≤ p.block → p.block < hi → w'.cell? p = w.cell? p) : Es w' lo hi A L := ⟨h.outer.keep hk, fun p hp => (h.each p hp).keep hk⟩
theorem einfo : (Try.prog.info? 46).map (fun i => (i.zero, i.size, i.bytes)) = some (some (.agg #[.slice none 0 0, .int .i64 0, .int .i64 0, .slice none 0 0]), 4, 64) := by kernel_rfl
theorem esize (w : World) : (sizeOf (Try.prog.elem 22)).run Try.prog w = .ok 4 w := by
  obtain ⟨i0, hi, _, hz1, _⟩ := info_parts einfo
  have e : Try.prog.elem 22 = 46 := by kernel_rfl
  rw [e]
  simp [Go.sizeOf, typeInfo, hi, hz1]
/-- A piece of a row of entries. -/
theorem eslice_run (A : Option Addr) (n c k j : Nat) (hkj : k ≤ j) (hjn : j ≤ n) (hc : n ≤ c) (w : World) :
    (Instr.slice 22 (.slice A n c) (some (.int .i64 (k : Int))) (some (.int .i64 (j : Int))) none).run Try.prog w = .ok (.slice (if c = k then A else A.map (·.add (k * 4))) (j - k) (c - k)) w := by
  have he : Try.prog.underlying 22 = some (.slice (Try.prog.elem 22)) := by kernel_rfl
  rw [run_slice_lh w 22 A n c he .i64 .i64 (k : Int) (j : Int) (by omega) (by omega) (by omega), esize w]
  simp [Result.andThen, sliced]
theorem eslice_run0 (A : Option Addr) (n c j : Nat) (hjn : j ≤ n) (hc : n ≤ c) (w : World) :
    (Instr.slice 22 (.slice A n c) none (some (.int .i64 (j : Int))) none).run Try.prog w = .ok (.slice A j c) w := by
  have he : Try.prog.underlying 22 = some (.slice (Try.prog.elem 22)) := by kernel_rfl
  rw [run_slice_h w 22 A n c he .i64 (j : Int) (by omega) (by omega), esize w]
  by_cases h : c = 0
  · subst h; simp [Result.andThen, sliced]
  · have : ¬ c = 0 := h
    cases A <;> simp [Result.andThen, sliced, Addr.add]
theorem erow_drop (L : List (Ent × Hd)) (k : Nat) (hk : k ≤ L.length) : erow (L.drop k) = (erow L).drop (k * 4) := by
  have h := erow_append (L.take k) (L.drop k)
  rw [List.take_append_drop] at h
  have hl : (erow (L.take k)).length = k * 4 := by rw [erow_length, List.length_take, Nat.min_eq_left hk]
  rw [h, ← hl, List.drop_left]
theorem erow_take (L : List (Ent × Hd)) (k : Nat) (hk : k ≤ L.length) : erow (L.take k) = (erow L).take (k * 4) := by
  have h := erow_append (L.take k) (L.drop k)
  rw [List.take_append_drop] at h
  have hl : (erow (L.take k)).length = k * 4 := by rw [erow_length, List.length_take, Nat.min_eq_left hk]
  rw [h, ← hl, List.take_left]
theorem Es.drop {w : World} {lo hi c : Nat} {A : Option Addr} {L : List (Ent × Hd)} (h : Es w lo hi A L) {k : Nat} (hk : k ≤ L.length) (hc : L.length ≤ c) : Es w lo hi (if c = k then A else A.map (·.add (k * 4))) (L.drop k) := by
  refine ⟨?_, fun p hp => h.each p (List.mem_of_mem_drop hp)⟩
  rw [erow_drop L k hk]
  have h2 := Sl.drop (k := k * 4) (cap := c * 4) h.outer (by rw [erow_length]; omega) (by rw [erow_length]; omega)
  by_cases e : c = k
  · rw [if_pos e]; rw [if_pos (by omega)] at h2; exact h2
  · rw [if_neg e]; rw [if_neg (by omega)] at h2; exact h2
theorem Es.take {w : World} {lo hi : Nat} {A : Option Addr} {L : List (Ent × Hd)} (h : Es w lo hi A L) {k : Nat} (hk : k ≤ L.length) : Es w lo hi A (L.take k) := by
  refine ⟨?_, fun p hp => h.each p (List.mem_of_mem_take hp)⟩
  rw [erow_take L k hk]
  exact Sl.take h.outer _

/-- Where the pieces begin and end, from i on, the piece that i is in having begun at f. -/
def cuts (L : List Ent) : Nat → Nat → Nat → List (Nat × Nat)
  | 0, _, _ => []
  | r + 1, f, i => match L[i]?, L[i + 1]? with
    | some a, some b => if a.key = b.key then cuts L r f (i + 1) else (f, i + 1) :: cuts L r (i + 1) (i + 1)
    | _, _ => (f, i + 1) :: cuts L r (i + 1) (i + 1)

theorem cuts_same {L : List Ent} {i f : Nat} {a b : Ent} (hi : i < L.length) (ha : L[i]? = some a) (hb : L[i + 1]? = some b) (h : a.key = b.key) : cuts L (L.length - i) f i = cuts L (L.length - (i + 1)) f (i + 1) := by
  have e : L.length - i = L.length - (i + 1) + 1 := by omega
  rw [e, cuts]
  simp only [ha, hb, h, if_true]
theorem cuts_other {L : List Ent} {i f : Nat} {a : Ent} (hi : i < L.length) (ha : L[i]? = some a) (h : ∀ b, L[i + 1]? = some b → a.key ≠ b.key) : cuts L (L.length - i) f i = (f, i + 1) :: cuts L (L.length - (i + 1)) (i + 1) (i + 1) := by
  have e : L.length - i = L.length - (i + 1) + 1 := by omega
  rw [e, cuts]
  cases hb : L[i + 1]? with
  | none => simp only [ha]
  | some b => simp only [ha, if_neg (h b hb)]
theorem drop_cons {α : Type} {l r : List α} {k : Nat} {x : α} (h : l.drop k = x :: r) : k < l.length ∧ l[k]? = some x ∧ l.drop (k + 1) = r := by
  have hk : k < l.length := by
    rcases Nat.lt_or_ge k l.length with h1 | h1
    · exact h1
    · rw [List.drop_of_length_le h1] at h; cases h
  rw [List.drop_eq_getElem_cons hk] at h
  injection h with h1 h2
  exact ⟨hk, by rw [List.getElem?_eq_getElem hk, h1], h2⟩

/-- The blocks that must stay. -/
def Kept (lo hi bd : Nat) (w A : World) : Prop := ∀ k, (lo ≤ k ∧ k < hi ∨ k = bd) → k < w.heap.size → A.heap[k]? = w.heap[k]?
theorem Kept.es {lo hi bd : Nat} {w A : World} {X : Option Addr} {L : List (Ent × Hd)} (h : Kept lo hi bd w A) (hhi : hi ≤ w.heap.size) (hE : Es w lo hi X L) : Es A lo hi X L := hE.keep fun p h1 h2 => World.cell?_of_block (h p.block (.inl ⟨h1, h2⟩) (Nat.lt_of_lt_of_le h2 hhi))
theorem Kept.box {lo hi bd : Nat} {w A : World} {v : Value} (h : Kept lo hi bd w A) (hb : w.cell? ⟨bd, 0, none⟩ = some v) : A.cell? ⟨bd, 0, none⟩ = some v := by
  rw [World.cell?_of_block (w := w) (a := ⟨bd, 0, none⟩) (h bd (.inr rfl) (World.block_lt_of_cell? w _ hb))]; exact hb

/-- The k-th piece, as a value. -/
def PieceOk (L : List (Ent × Hd)) (A : Option Addr) (c : Nat) (_n₁ k : Nat) (x : Option Addr × Nat × Nat) (_w : World) : Prop :=
  ∃ f t, (cuts (L.map Prod.fst) L.length 0 0)[k]? = some (f, t) ∧ f < t ∧ t ≤ L.length ∧ x = ((if c = f then A else A.map (·.add (f * 4))), t - f, c - f)
def pieceV (x : Option Addr × Nat × Nat) : Array Value := #[.slice x.1 x.2.1 x.2.2]

end Go.Proofs.Ytlnihaeeoolkhaa

/- A region that draws its order, by facts, whose last operations are done one behind the other, within a round of a loop over a function (no function of the program). -/
namespace Go.Proofs.Ytlnihaeeoolkhaa
open Go.RowKit
theorem flow_tail_in {P : Program} {ops : Array Oper} {Q : Exit → Act → World → Prop} {l n : Nat} {a0 : Act} {id : Nat} {w : World} (hm0 : P.follows .mixedOrders = true) (hnd : noDefer ops = true) (hQ : ∀ a w, ¬ Q .outgrown a w) (φ : List (Value → World → Prop)) (m : Nat) (hok : flowOk ops a0.tmps.size = true) (hsel : Region.noSelect ops = true) (hmn : decide (m ≤ ops.size) = true) (htl : tailOk ops m = true) (hmono : ∀ p ∈ φ, Mono p)
    (hobl : ∀ f, Obls P ops φ w.drew f 0 (ops.toList.take m) a0)
    (hfin : ∀ (g : Nat → Value) u, Ext w.drew u → (∀ j, j < m → fact φ j (g j) u) → wpList P ops Q (ops.toList.drop m) (puts g 0 (ops.toList.take m) a0) u) :
    (Code.region id ops true).wpIn (Fence.wide.inRound l) n P Q a0 w := by
  refine wpIn_region_any hm0 (any_in (noDefer_at hnd) (fun ⟨a, w, h⟩ => hQ a w h) _ _ _ _ (flow_tail_any hok hsel (of_decide_eq_true hmn) htl hmono hobl hfin ops.size _ a0 w.drew inv_start (fun j _ => ?_) left_start))
  rw [Array.getD_eq_getD_getElem?]
  by_cases hj : j < ops.size
  · simp [hj]
  · simp [hj]
end Go.Proofs.Ytlnihaeeoolkhaa

/- ikey's Latest: what is seen at a number. -/
namespace Go.Proofs.Ytlnihaeeoolkhaa
open Go.RowKit Go.Shelf
attribute [local go_sem] Oper.semAt_some

/-- Of each piece the first one whose number is at most s. -/
def firsts (L : List Ent) (s : Int) (cs : List (Nat × Nat)) : List Ent := cs.filterMap fun x => ((L.drop x.1).take (x.2 - x.1)).find? fun e => decide (e.seq ≤ s)
theorem firsts_next {L : List Ent} {s : Int} {cs : List (Nat × Nat)} {k f t : Nat} (h : cs[k]? = some (f, t)) : firsts L s (cs.take (k + 1)) = firsts L s (cs.take k) ++ ((((L.drop f).take (t - f)).find? fun e => decide (e.seq ≤ s)).toList) := by
  obtain ⟨hk, he⟩ := List.getElem?_eq_some_iff.1 h
  unfold firsts
  rw [List.take_succ_eq_append_getElem hk, List.filterMap_append, he]
  simp only [List.filterMap_cons, List.filterMap_nil]
  cases ((L.drop f).take (t - f)).find? fun e => decide (e.seq ≤ s) <;> rfl
theorem find_at {α : Type} {q : α → Bool} {x : α} : ∀ {L : List α} {i : Nat}, L[i]? = some x → q x = true → (∀ j y, j < i → L[j]? = some y → q y = false) → L.find? q = some x
  | [], i, h, _, _ => by simp at h
  | a :: l, 0, h, hq, _ => by simp at h; subst h; simp [hq]
  | a :: l, i + 1, h, hq, hno => by
    have h0 := hno 0 a (Nat.succ_pos _) rfl
    rw [List.find?_cons, h0]
    exact find_at (i := i) (by simpa using h) hq (fun j y hj hy => hno (j + 1) y (by omega) (by simpa using hy))
theorem firsts_len (L : List Ent) (s : Int) (cs : List (Nat × Nat)) : (firsts L s cs).length ≤ cs.length := List.length_filterMap_le _ _
theorem cuts_len (L : List Ent) : ∀ (r f i : Nat), (cuts L r f i).length ≤ r := by
  intro r
  induction r with
  | zero => intro f i; simp [cuts]
  | succ r ih =>
    intro f i
    rw [cuts]
    split
    · split
      · exact Nat.le_succ_of_le (ih _ _)
      · simpa using ih _ _
    · simpa using ih _ _
/-- What an entry's parts are bounded by. -/
structure Good (e : Ent) : Prop where
  bk : ∀ x ∈ e.key, x < 256
  bv : ∀ x ∈ e.val, x < 256
  s1 : -9223372036854775808 ≤ e.seq
  s2 : e.seq ≤ 9223372036854775807
  d1 : -9223372036854775808 ≤ e.kind
  d2 : e.kind ≤ 9223372036854775807
theorem Em.good {w : World} {lo hi : Nat} {e : Ent} {g : Hd} (h : Em w lo hi e g) : Good e := ⟨h.bk, h.bv, h.s1, h.s2, h.d1, h.d2⟩
/-- An entry of the call's own. -/
structure Mine (B : Nat) (p : Ent × Hd) (A : World) : Prop where
  k : Own B p.1.key (.slice p.2.kA p.1.key.length p.2.kc) A
  v : Own B p.1.val (.slice p.2.vA p.1.val.length p.2.vc) A
  good : Good p.1
theorem Mine.em {B : Nat} {p : Ent × Hd} {A : World} (h : Mine B p A) : Em A 0 A.heap.size p.1 p.2 := ⟨h.k.bs, h.v.bs, h.good.bk, h.good.bv, h.good.s1, h.good.s2, h.good.d1, h.good.d2⟩
theorem Mine.below {B : Nat} {p : Ent × Hd} {A A' : World} (h : Mine B p A) (hx : Ext A A') : Mine B p A' := ⟨h.k.below hx, h.v.below hx, h.good⟩
theorem Mine.base {B B' : Nat} {p : Ent × Hd} {A : World} (h : Mine B p A) (hB : B' ≤ B) : Mine B' p A := ⟨h.k.base hB, h.v.base hB, h.good⟩
theorem Mine.chg {B : Nat} {p : Ent × Hd} {A A' : World} {S : Nat → Prop} (h : Mine B p A) (hc : Chg S A A') (hS : ∀ k, B ≤ k → ¬ S k) : Mine B p A' := ⟨row_chg h.k hc hS, row_chg h.v hc hS, h.good⟩

/-- A row of entries in a box, each of them of the call's own. -/
structure Seen (B sb : Nat) (R : List (Ent × Hd)) (A : World) : Prop where
  ex : ∃ v, Boxed A sb 22 v ∧ A.ownsRow B 46 4 v R.length (erow R)
  each : ∀ p ∈ R, Mine B p A

theorem rowN_kept {w w' : World} {base s n : Nat} {e : TypeId} {v : Value} {xs : List Value} (h : w.ownsRow base e s v n xs) (hk : ∀ g, v.ownBlock = some g → w'.heap[g]? = w.heap[g]?) : w'.ownsRow base e s v n xs := by
  obtain ⟨h1, h2⟩ := h
  refine ⟨h1, ?_⟩
  rcases h2 with h2 | ⟨g, cap, cur, hv, hg, hh, r⟩
  · exact Or.inl h2
  · exact Or.inr ⟨g, cap, cur, hv, hg, (hk g (by rw [hv]; rfl)).trans hh, r⟩
theorem rowN_lt {w : World} {base s n : Nat} {e : TypeId} {v : Value} {xs : List Value} (h : w.ownsRow base e s v n xs) : ∀ g, v.ownBlock = some g → base ≤ g ∧ g < w.heap.size ∧ ∃ cur, w.heap[g]? = some (.cells cur e (0, 0)) := by
  intro g hg
  rcases h.2 with ⟨rfl, _⟩ | ⟨g', cap, cur, hv, hb, hh, r⟩
  · cases hg
  · rw [hv] at hg
    injection hg with hg
    subst hg
    exact ⟨hb, (Array.getElem?_eq_some_iff.1 hh).1, cur, hh⟩
theorem rowN_base {w : World} {b b' s n : Nat} {e : TypeId} {v : Value} {xs : List Value} (h : w.ownsRow b e s v n xs) (hb : b' ≤ b) : w.ownsRow b' e s v n xs := by
  obtain ⟨h1, h2⟩ := h
  refine ⟨h1, ?_⟩
  rcases h2 with h2 | ⟨g, cap, cur, hv, hg, hh, r⟩
  · exact Or.inl h2
  · exact Or.inr ⟨g, cap, cur, hv, Nat.le_trans hb hg, hh, r⟩
theorem rowN_slice {w : World} {base s n : Nat} {e : TypeId} {v : Value} {xs : List Value} (h : w.ownsRow base e s v n xs) : ∃ A c, v = .slice A n c := by
  rcases h.2 with ⟨rfl, rfl⟩ | ⟨g', cap, cur, hv, _⟩
  · exact ⟨none, 0, rfl⟩
  · exact ⟨_, _, hv⟩
/-- Rows of unlike things lie apart. -/
theorem rows_apart {w : World} {B B' s s' n n' : Nat} {e e' : TypeId} {v v' : Value} {xs xs' : List Value} (h : w.ownsRow B e s v n xs) (h' : w.ownsRow B' e' s' v' n' xs') (hne : e ≠ e') {g : Nat} (hg : v.ownBlock = some g) : v'.ownBlock ≠ some g := by
  intro hg'
  obtain ⟨_, _, c, hc⟩ := rowN_lt h g hg
  obtain ⟨_, _, c', hc'⟩ := rowN_lt h' g hg'
  rw [hc] at hc'
  injection hc' with hc'
  injection hc' with _ h2 _
  exact hne h2
theorem Seen.chg {B sb : Nat} {R : List (Ent × Hd)} {A A' : World} {S : Nat → Prop} (h : Seen B sb R A) (hc : Chg S A A') (hS : ∀ k, B ≤ k → ¬ S k) (hb : ¬ S sb) : Seen B sb R A' := by
  obtain ⟨v, h1, h2⟩ := h.ex
  exact ⟨⟨v, boxed_chg h1 hc hb, rowN_kept h2 fun g hg => hc.block g (rowN_lt h2 g hg).2.1 (hS g (rowN_lt h2 g hg).1)⟩, fun p hp => (h.each p hp).chg hc hS⟩
theorem Seen.base {B B' sb : Nat} {R : List (Ent × Hd)} {A : World} (h : Seen B sb R A) (hB : B' ≤ B) : Seen B' sb R A := by
  obtain ⟨v, h1, h2⟩ := h.ex
  exact ⟨⟨v, h1, rowN_base h2 hB⟩, fun p hp => (h.each p hp).base hB⟩

/-- A copy, as a value. -/
def CpOk (B : Nat) (e : Ent) (v : Value) (u : World) : Prop := ∃ g : Hd, v = e.at_ g ∧ Mine B (e, g) u
theorem Mono.cp (B : Nat) (e : Ent) : Mono (CpOk B e) := fun _ _ _ ⟨g, h, m⟩ hu => ⟨g, h, m.below hu⟩
/-- A literal of one entry. -/
def LtOk (B : Nat) (e : Ent) (v : Value) (u : World) : Prop := ∃ (g : Hd) (b : Nat), v = .slice (some ⟨b, 0, none⟩) 1 1 ∧ Mine B (e, g) u ∧ u.heap[b]? = some (.cells (ecells (e, g)).toArray 46 (0, 0))
theorem Mono.lt (B : Nat) (e : Ent) : Mono (LtOk B e) := fun _ _ _ ⟨g, b, h, m, hb⟩ hu => ⟨g, b, h, m.below hu, ext_heap hu hb⟩

/-- Between two rounds: what is seen of the first k pieces. -/
def LatI (T : List (Ent × Hd)) (s : Int) (lo hi bd : Nat) (w w3 : World) (n₁ k : Nat) (A : World) : Prop :=
  ∃ R, R.map Prod.fst = firsts (T.map Prod.fst) s ((cuts (T.map Prod.fst) T.length 0 0).take k) ∧ Seen n₁ (w.heap.size + 1) R A ∧ Kept lo hi bd w3 A ∧ w3.heap.size ≤ A.heap.size ∧ n₁ ≤ A.heap.size ∧ A.cell? ⟨w.heap.size, 0, none⟩ = some (.int .i64 s) ∧ Below w.heap.size w A
theorem LatI.chg {T : List (Ent × Hd)} {s : Int} {lo hi bd n₁ k : Nat} {w w3 A A' : World} (h : LatI T s lo hi bd w w3 n₁ k A) (hz : w.heap.size + 2 ≤ w3.heap.size) (hc : Chg (Btw w3.heap.size n₁) A A') : LatI T s lo hi bd w w3 n₁ k A' := by
  obtain ⟨R, hR, hS, hK, hz0, hz1, hs, hb⟩ := h
  refine ⟨R, hR, hS.chg hc (fun i hi hb => by have := hb.2; omega) (fun hb => by have := hb.1; omega), fun i hi hlt => ?_, Nat.le_trans hz0 hc.size, Nat.le_trans hz1 hc.size, ?_, hb.trans (hc.below (fun i hb => by have := hb.1; omega) hb.size)⟩
  · exact (hc.block i (Nat.lt_of_lt_of_le hlt hz0) (fun hb => by have := hb.1; omega)).trans (hK i hi hlt)
  · rw [World.cell?_of_block (w := A) (a := ⟨w.heap.size, 0, none⟩) (hc.block w.heap.size (by omega) (fun hb => by have := hb.1; omega))]; exact hs

end Go.Proofs.Ytlnihaeeoolkhaa

/- Going over what Latest saw. -/
namespace Go.Proofs.Ytlnihaeeoolkhaa
open Go.RowKit Go.Shelf
attribute [local go_sem] Oper.semAt_some

/-- The row in the box, its value named. -/
structure SeenV (B sb : Nat) (v : Value) (R : List (Ent × Hd)) (A : World) : Prop where
  box : Boxed A sb 22 v
  row : A.ownsRow B 46 4 v R.length (erow R)
  each : ∀ p ∈ R, Mine B p A
theorem SeenV.chg {B sb : Nat} {v : Value} {R : List (Ent × Hd)} {A A' : World} {S : Nat → Prop} (h : SeenV B sb v R A) (hc : Chg S A A') (hS : ∀ k, B ≤ k → ¬ S k) (hb : ¬ S sb) : SeenV B sb v R A' :=
  ⟨boxed_chg h.box hc hb, rowN_kept h.row fun g hg => hc.block g (rowN_lt h.row g hg).2.1 (hS g (rowN_lt h.row g hg).1), fun p hp => (h.each p hp).chg hc hS⟩
theorem SeenV.ext {B sb : Nat} {v : Value} {R : List (Ent × Hd)} {A A' : World} (h : SeenV B sb v R A) (hx : Ext A A') : SeenV B sb v R A' := h.chg (S := fun _ => False) (Chg.of_ext hx) (fun _ _ h => h) (fun h => h)
theorem rowE_sl {A : World} {B n c : Nat} {X : Option Addr} {R : List (Ent × Hd)} (h : A.ownsRow B 46 4 (.slice X n c) n (erow R)) : Sl A 0 A.heap.size X (erow R) := by
  rcases h.2 with ⟨he, rfl⟩ | ⟨g, cap, cur, he, hb, hh, hn, hm, hcs, hx⟩
  · left
    exact List.eq_nil_of_length_eq_zero (by simpa using h.1)
  · injection he with he _ _
    subst he
    refine .inr ⟨g, 0, rfl, Nat.zero_le _, (Array.getElem?_eq_some_iff.1 hh).1, fun i u hu => ?_⟩
    rw [Nat.zero_add, cell_of_row A g i cur _ (0, 0) hh]
    rw [← hx, List.getElem?_take] at hu
    split at hu
    · rw [← Array.getElem?_toList]; exact hu
    · cases hu
theorem SeenV.es {B sb n c : Nat} {X : Option Addr} {R : List (Ent × Hd)} {A : World} (h : SeenV B sb (.slice X n c) R A) : Es A 0 A.heap.size X R := by
  have hn : n = R.length := by
    obtain ⟨A', c', e⟩ := rowN_slice h.row
    injection e
  subst hn
  exact ⟨rowE_sl h.row, fun p hp => (h.each p hp).em⟩

/-- Of the k-th: it, in memory of its own. -/
def SeqOk (R : List (Ent × Hd)) (n₁ k : Nat) (x : Ent × Hd) (A : World) : Prop := ∃ p, R[k]? = some p ∧ x.1 = p.1 ∧ Mine n₁ x A
def seqV (x : Ent × Hd) : Array Value := #[x.1.at_ x.2]
end Go.Proofs.Ytlnihaeeoolkhaa

/- The reference's Same; the law's going over what Latest tells. -/
namespace Go.Proofs.Ytlnihaeeoolkhaa
open Go.RowKit Go.Shelf Go.ChangeShapes Go.WideShapes Go.ChangeAt

set_option maxRecDepth 100000 in
theorem cv_any {w : World} {lo hi : Nat} {A : Option Addr} {c : Nat} {l : List Nat} (h : Bs w lo hi (.slice A l.length c) l) : (convert 34 9 (.slice A l.length c)).run Try.prog w = .ok (.string (tx l)) w := by
  obtain ⟨A', c', he, _, _, _, hy⟩ := h
  injection he with e1 _ e3
  subst e1 e3
  exact run_text (P := Try.prog) w 34 5 Try.underlying34 Try.underlying5 hy l.length c rfl 9 Try.underlying9
attribute [local go_sem] Oper.semAt_some

theorem results_cell_bool {fn : Func} {p : Tmp} (h : fn.results = #[.cell p 4]) (tmps : Array Value) (w : World) (g : Nat) (z : Bool) (hp : tmps.getD p undef = .pointer (some ⟨g, 0, none⟩)) (hc : w.cell? ⟨g, 0, none⟩ = some (.bool z)) :
    (results fn tmps).run Try.prog w = .ok (.bool z) w := by
  simp only [results, h]
  have hp' : tmps[p]?.getD undef = .pointer (some ⟨g, 0, none⟩) := by simpa using hp
  simp [Sem.run_bind, hp', go_sem, hc]
theorem SeenV.stay {B sb : Nat} {v : Value} {R : List (Ent × Hd)} {A A' : World} (h : SeenV B sb v R A) (hs : Stay B A.heap.size A A') (hb : B ≤ sb) : SeenV B sb v R A' :=
  ⟨(hs sb hb h.box.lt).trans h.box, rowN_kept h.row fun g hg => hs g (rowN_lt h.row g hg).1 (rowN_lt h.row g hg).2.1,
    fun p hp => ⟨row_kept (h.each p hp).k fun g hg => hs g (row_lt (h.each p hp).k g hg).1 (row_lt (h.each p hp).k g hg).2, row_kept (h.each p hp).v fun g hg => hs g (row_lt (h.each p hp).v g hg).1 (row_lt (h.each p hp).v g hg).2, (h.each p hp).good⟩⟩

/-- Between two rounds. -/
structure OverI (w w3 : World) (X : Option Addr) (N c : Nat) (n₁ k : Nat) (A : World) : Prop where
  stay : Stay (w.heap.size + 4) w3.heap.size w3 A
  below : Below w.heap.size w A
  num : Boxed A (w.heap.size + 3) 3 (.int .i64 (k : Int))
  res : Boxed A (w.heap.size + 2) 4 (.bool false)
  most : Boxed A (w.heap.size + 1) 3 (.int .i64 0)
  want : Boxed A w.heap.size 22 (.slice X N c)
  z3 : w3.heap.size ≤ A.heap.size
  z1 : n₁ ≤ A.heap.size

end Go.Proofs.Ytlnihaeeoolkhaa

/- Lists of entries: may all, do they rise, are they much, are they the same. -/
namespace Go.Proofs.Ytlnihaeeoolkhaa
open Go.ChangeShapes Go.WideShapes Go.ChangeAt Go.RowKit

theorem all_next {α : Type} {f : α → Bool} {L : List α} {i : Nat} {p : α} (h : (L.take i).all f = true) (hp : L[i]? = some p) (hf : f p = true) : (L.take (i + 1)).all f = true := by
  rw [List.take_succ_eq_append_getElem (List.getElem?_eq_some_iff.1 hp).1, List.all_append, h]
  simp [(List.getElem?_eq_some_iff.1 hp).2, hf]
theorem all_not {α : Type} {f : α → Bool} {L : List α} {i : Nat} {p : α} (hp : L[i]? = some p) (hf : f p = false) : L.all f = false := by
  rw [Bool.eq_false_iff]
  intro h
  rw [List.all_eq_true] at h
  rw [h p (List.mem_of_getElem? hp)] at hf
  cases hf

/-- Do they rise? -/
def Rise (l : List Ent) : Prop := ∀ j a b, l[j]? = some a → l[j + 1]? = some b → cmpE a b < 0
theorem RiseAt.all {l : List Ent} {n : Nat} (h : RiseAt l n) : n = l.length ↔ Rise l := by
  obtain ⟨h1, h2, h3⟩ := h
  refine ⟨fun e j a b ha hb => h2 j a b (by have := (List.getElem?_eq_some_iff.1 hb).1; omega) ha hb, fun hr => ?_⟩
  rcases Nat.lt_or_ge n l.length with h | h
  · obtain ⟨m, a, b, e, ha, hb, hc⟩ := h3 h
    have := hr m a b ha hb
    omega
  · omega

/-- Are they much, as the laws ask it? -/
def MuchAns (L : List (Ent × Hd)) (z : Bool) : Prop := z = false → L.length ≤ 100000 ∧ ∀ p ∈ L, p.1.key.length + p.1.val.length < 100000

end Go.Proofs.Ytlnihaeeoolkhaa

/- The reference's Rising. -/
namespace Go.Proofs.Ytlnihaeeoolkhaa
open Go.ChangeShapes Go.WideShapes Go.ChangeAt Go.RowKit

/-- They rise up to the k-th. -/
def RiseTo (l : List Ent) (k : Nat) : Prop := ∀ j a b, j + 1 < k → l[j]? = some a → l[j + 1]? = some b → cmpE a b < 0

end Go.Proofs.Ytlnihaeeoolkhaa
