/- Entries in memory, and what May, Compare, Same answer of them. -/
import Derived.Test.YtcofnbeemfhcpaaIplain
import Derived.Test.YtcofnbeemfhcpaaIter
import Derived.Test.YtcofnbeemfhcpaaCflow
import Derived.Test.YtcofnbeemfhcpaaWyes
import Derived.Lib.Bytealg
import Derived.Lib.BytesEntry
import Derived.Laws.Externs
import Derived.Lib.Walk
namespace Go.Proofs.Ytcofnbeemfhcpaa
open Go.ChangeShapes Go.WideShapes Go.ChangeAt Go.RowKit

/-- Where an entry's two rows of bytes lie. -/
structure Hd where
  kA : Option Addr
  kc : Nat
  vA : Option Addr
  vc : Nat
/-- The entry as a value. -/
def Ent.at_ (e : Ent) (h : Hd) : Value := .agg #[.slice h.kA e.key.length h.kc, .int .i64 e.seq, .int .i64 e.kind, .slice h.vA e.val.length h.vc]
/-- What an entry is in memory: its bytes lie in blocks of the interval. -/
structure Em (w : World) (lo hi : Nat) (e : Ent) (h : Hd) : Prop where
  k : Bs w lo hi (.slice h.kA e.key.length h.kc) e.key
  v : Bs w lo hi (.slice h.vA e.val.length h.vc) e.val
  bk : ∀ x ∈ e.key, x < 256
  bv : ∀ x ∈ e.val, x < 256
  s1 : -9223372036854775808 ≤ e.seq
  s2 : e.seq ≤ 9223372036854775807
  d1 : -9223372036854775808 ≤ e.kind
  d2 : e.kind ≤ 9223372036854775807
theorem Em.below {w w' : World} {lo hi B : Nat} {e : Ent} {h : Hd} (m : Em w lo hi e h) (hb : Below B w w') (hB : hi ≤ B) : Em w' lo hi e h := ⟨m.k.below hb hB, m.v.below hb hB, m.bk, m.bv, m.s1, m.s2, m.d1, m.d2⟩
theorem Em.wide {w : World} {lo hi lo' hi' : Nat} {e : Ent} {h : Hd} (m : Em w lo hi e h) (h1 : lo' ≤ lo) (h2 : hi ≤ hi') : Em w lo' hi' e h := ⟨m.k.wide h1 h2, m.v.wide h1 h2, m.bk, m.bv, m.s1, m.s2, m.d1, m.d2⟩

set_option maxHeartbeats 1000000 in
theorem may_any (kA vA : Option Addr) (kn kc vn vc : Nat) (s d : Int) (w : World) : Calls Try.prog 4 #[.agg #[.slice kA kn kc, .int .i64 s, .int .i64 d, .slice vA vn vc]] w fun e w' => e = .returned (.bool (mayN kn s d vn)) ∧ Below w.heap.size w w' := by
  obtain ⟨m, hm⟩ : ∃ m, m = mayN kn s d vn := ⟨_, rfl⟩
  rw [← hm]
  have HX : Hid (Ext w (w.alloc (.cells #[.slice kA kn kc, .int .i64 s, .int .i64 d, .slice vA vn vc] 25))) := ext_alloc _ _
  by_cases h1 : kn < 1
  · obtain rfl : m = false := by rw [hm]; simp [mayN]; omega
    have d1 : decide ((kn : Int) < 1) = true := by simp; omega
    clear hm
    go_enter Try.func4, Try.ntmps4
    go_wp2_with fail
    go_ret
    exact ⟨rfl, HX.out⟩
  have d1 : decide ((kn : Int) < 1) = false := by simp; omega
  by_cases h2 : 32 < kn
  · obtain rfl : m = false := by rw [hm]; simp [mayN]; omega
    have d2 : decide ((32 : Int) < (kn : Int)) = true := by simp; omega
    clear hm
    go_enter Try.func4, Try.ntmps4
    go_wp2_with fail
    go_ret
    exact ⟨rfl, HX.out⟩
  have d2 : decide ((32 : Int) < (kn : Int)) = false := by simp; omega
  by_cases h3 : s < 1
  · obtain rfl : m = false := by rw [hm]; simp [mayN]; omega
    have d3 : decide (s < 1) = true := by simp; omega
    clear hm
    go_enter Try.func4, Try.ntmps4
    go_wp2_with fail
    go_ret
    exact ⟨rfl, HX.out⟩
  have d3 : decide (s < 1) = false := by simp; omega
  by_cases h4 : 2147483647 < s
  · obtain rfl : m = false := by rw [hm]; simp [mayN]; omega
    have d4 : decide ((2147483647 : Int) < s) = true := by simp; omega
    clear hm
    go_enter Try.func4, Try.ntmps4
    go_wp2_with fail
    go_ret
    exact ⟨rfl, HX.out⟩
  have d4 : decide ((2147483647 : Int) < s) = false := by simp; omega
  by_cases h5 : d = 1
  · subst h5
    obtain rfl : m = decide ((vn : Int) ≤ 65536) := by
      rw [hm, Bool.eq_iff_iff, mayN_iff, decide_eq_true_eq]; omega
    clear hm h1 h2 h3 h4
    go_enter Try.func4, Try.ntmps4
    go_wp2_with fail
    go_ret
    exact ⟨rfl, HX.out⟩
  have d5 : (d == 1) = false := by simpa using h5
  by_cases h6 : d = 2
  · subst h6
    obtain rfl : m = ((vn : Int) == 0) := by
      rw [hm, Bool.eq_iff_iff, mayN_iff, beq_iff_eq]; omega
    clear hm h1 h2 h3 h4
    go_enter Try.func4, Try.ntmps4
    go_wp2_with fail
    go_ret
    exact ⟨rfl, HX.out⟩
  have d6 : (d == 2) = false := by simpa using h6
  obtain rfl : m = false := by
    rw [hm, Bool.eq_false_iff, ne_eq, mayN_iff]; omega
  clear hm h1 h2 h3 h4
  go_enter Try.func4, Try.ntmps4
  go_wp2_with fail
  go_ret
  exact ⟨rfl, HX.out⟩

/-- What the model's comparing of bytes answers. -/
theorem cmpL_is (a b : List Nat) (ha : ∀ x ∈ a, x < 256) (hb : ∀ x ∈ b, x < 256) : Lib.compareBytes (a.map fun n => UInt8.ofNat n) (b.map fun n => UInt8.ofNat n) = cmpK a b := by
  induction a generalizing b with
  | nil => cases b <;> simp [Lib.compareBytes, cmpK]
  | cons x l ih =>
    cases b with
    | nil => simp [Lib.compareBytes, cmpK]
    | cons y r =>
      have hx := ha x (by simp)
      have hy := hb y (by simp)
      have h1 := ih r (fun z hz => ha z (by simp [hz])) (fun z hz => hb z (by simp [hz]))
      simp only [List.map_cons, Lib.compareBytes, cmpK, h1]
      have e1 : (UInt8.ofNat x < UInt8.ofNat y) ↔ x < y := by rw [UInt8.lt_iff_toNat_lt]; simp [Nat.mod_eq_of_lt hx, Nat.mod_eq_of_lt hy]
      have e2 : (UInt8.ofNat y < UInt8.ofNat x) ↔ y < x := by rw [UInt8.lt_iff_toNat_lt]; simp [Nat.mod_eq_of_lt hx, Nat.mod_eq_of_lt hy]
      simp [e1, e2]

/-- A key that may be compared: its cells, and bytes all. -/
theorem run_bytesOf {w : World} {lo hi : Nat} {v : Value} {l : List Nat} (h : Bs w lo hi v l) : (Extern.Bytes.bytesOf v).run Try.prog w = .ok ⟨(l.map fun n => UInt8.ofNat n).toArray⟩ w := by
  obtain ⟨A, c, rfl, _, _, hnil, hby⟩ := h
  cases A with
  | none =>
    have hl : l = [] := by
      rcases hby with h | ⟨b, o, he, _⟩
      · simpa [bv] using h
      · cases he
    subst hl
    simp [Extern.Bytes.bytesOf]; rfl
  | some a =>
    have hl := Lib.run_loadBytesX (P := Try.prog) (w := w) (l.map fun n : Nat => (n : Int)) a .empty (fun j x hj => by
      rcases hby with h | ⟨b, o, he, _, _, hc⟩
      · have : l = [] := by simpa [bv] using h
        subst this; simp at hj
      · injection he with he
        subst he
        rw [addr_add]
        exact hc j _ (by unfold bv; rw [List.getElem?_map] at hj ⊢; cases hq : l[j]? with
          | none => rw [hq] at hj; simp at hj
          | some y => rw [hq] at hj; simp at hj; subst hj; rfl))
    simp only [Extern.Bytes.bytesOf]
    rw [List.length_map] at hl
    rw [hl]
    simp [Lib.bytesOf]
theorem run_keys {w : World} {lo hi lo2 hi2 : Nat} {u v : Value} {a b : List Nat} (hu : Bs w lo hi u a) (hv : Bs w lo2 hi2 v b) (ha : ∀ x ∈ a, x < 256) (hb : ∀ x ∈ b, x < 256) :
    (Extern.BytealgCompare.compare #[u, v]).run Try.prog w = .ok (.int .i64 (cmpK a b)) w := by
  change Sem.run Try.prog (do pure (goInt (Extern.BytealgCompare.cmp (← Extern.Bytes.bytesOf u) (← Extern.Bytes.bytesOf v)))) w = _
  simp only [Sem.run_bind, run_bytesOf hu, run_bytesOf hv, Sem.run_pure, Result.andThen]
  rw [Lib.cmp_eq]
  rw [cmpL_is a b ha hb]
  rfl
theorem bcmp_any {w : World} {lo hi lo2 hi2 : Nat} {u v : Value} {a b : List Nat} (hu : Bs w lo hi u a) (hv : Bs w lo2 hi2 v b) (ha : ∀ x ∈ a, x < 256) (hb : ∀ x ∈ b, x < 256) :
    Calls Try.prog 37 #[u, v] w fun e w' => e = .returned (.int .i64 (cmpK a b)) ∧ w' = w := by
  have hcf : (callFunc 42 #[u, v]).run Try.prog w = .ok (.value (.int .i64 (cmpK a b))) w := by
    rw [run_callFunc_extern Try.func42 (by kernel_rfl) (by kernel_rfl) (by kernel_rfl) (e := Extern.BytealgCompare.compare) (by kernel_rfl), run_keys hu hv ha hb]
    rfl
  clear hu hv ha hb
  go_enter Try.func37, Try.ntmps37
  go_wp2_with fail
  go_ret
  exact ⟨rfl, rfl⟩
theorem keys_any {w : World} {lo hi lo2 hi2 : Nat} {u v : Value} {a b : List Nat} (hu : Bs w lo hi u a) (hv : Bs w lo2 hi2 v b) (ha : ∀ x ∈ a, x < 256) (hb : ∀ x ∈ b, x < 256) :
    Calls Try.prog 31 #[u, v] w fun e w' => e = .returned (.int .i64 (cmpK a b)) ∧ w' = w := by
  have HR := Lib.hid (bcmp_any hu hv ha hb)
  clear hu hv ha hb
  go_enter Try.func31, Try.ntmps31
  go_wp2_with fail
  refine Calls.mono HR.out ?_
  rintro e w' ⟨rfl, rfl⟩
  go_wp2
  go_ret
  exact ⟨rfl, rfl⟩
theorem nan_any (s : Int) (w : World) : Calls Try.prog 38 #[.int .i64 s] w fun e w' => e = .returned (.bool false) ∧ w' = w := by
  have d : (s != s) = false := by simp
  go_enter Try.func38, Try.ntmps38
  go_wp2
  go_ret
  exact ⟨rfl, rfl⟩
theorem icmp_any (s t : Int) (w : World) : Calls Try.prog 32 #[.int .i64 s, .int .i64 t] w fun e w' => e = .returned (.int .i64 (cmpS t s)) ∧ w' = w := by
  obtain ⟨c, hc⟩ : ∃ c, c = cmpS t s := ⟨_, rfl⟩
  rw [← hc]
  rcases Int.lt_trichotomy s t with h | h | h
  · obtain rfl : c = -1 := by rw [hc]; unfold cmpS; rw [if_pos h]
    have d : decide (s < t) = true := by simp [h]
    clear hc h
    go_enter Try.func32, Try.ntmps32
    go_wp2_with (go_at_call 38; refine (nan_any _ _).mono ?_; rintro e w' ⟨rfl, rfl⟩)
    go_ret
    exact ⟨rfl, rfl⟩
  · subst h
    obtain rfl : c = 0 := by rw [hc]; unfold cmpS; rw [if_neg (by omega), if_neg (by omega)]
    have d : decide (s < s) = false := by simp
    clear hc
    go_enter Try.func32, Try.ntmps32
    go_wp2_with (go_at_call 38; refine (nan_any _ _).mono ?_; rintro e w' ⟨rfl, rfl⟩)
    go_ret
    exact ⟨rfl, rfl⟩
  · obtain rfl : c = 1 := by rw [hc]; unfold cmpS; rw [if_neg (by omega), if_pos h]
    have d : decide (s < t) = false := by simp; omega
    have d2 : decide (t < s) = true := by simp [h]
    clear hc h
    go_enter Try.func32, Try.ntmps32
    go_wp2_with (go_at_call 38; refine (nan_any _ _).mono ?_; rintro e w' ⟨rfl, rfl⟩)
    go_ret
    exact ⟨rfl, rfl⟩

theorem tx_same {a b : List Nat} (ha : ∀ x ∈ a, x < 256) (hb : ∀ x ∈ b, x < 256) : ((tx a).toList == (tx b).toList) = decide (a = b) := by
  by_cases h : a = b
  · subst h; simp
  · rw [decide_eq_false h]
    have hne : tx a ≠ tx b := fun he => h (tx_inj ha hb he)
    rw [Bool.eq_false_iff]
    intro he
    rw [beq_iff_eq, ByteArray.toList_eq, ByteArray.toList_eq] at he
    exact hne (by
      have h1 : (tx a).data = (tx b).data := Array.ext' he
      cases h2 : tx a; cases h3 : tx b
      rw [h2, h3] at h1
      simp at h1; rw [h1])
theorem equal_any {w : World} {lo hi lo2 hi2 : Nat} {u v : Value} {a b : List Nat} (hu : Bs w lo hi u a) (hv : Bs w lo2 hi2 v b) (ha : ∀ x ∈ a, x < 256) (hb : ∀ x ∈ b, x < 256) :
    Calls Try.prog 21 #[u, v] w fun e w' => e = .returned (.bool (decide (a = b))) ∧ w' = w := by
  have ht := tx_same ha hb
  obtain ⟨z, hz⟩ : ∃ z, z = decide (a = b) := ⟨_, rfl⟩
  rw [← hz] at ht ⊢
  obtain ⟨A, c, rfl, _, _, _, hy⟩ := hu
  obtain ⟨A2, c2, rfl, _, _, _, hy2⟩ := hv
  have c1 := run_text (P := Try.prog) w 22 5 Try.underlying22 Try.underlying5 hy a.length c rfl 9 Try.underlying9
  have c2 := run_text (P := Try.prog) w 22 5 Try.underlying22 Try.underlying5 hy2 b.length c2 rfl 9 Try.underlying9
  clear hz hy hy2 ha hb
  go_enter Try.func21, Try.ntmps21
  go_wp2_with fail
  go_ret
  exact ⟨rfl, rfl⟩
set_option maxHeartbeats 1000000 in
theorem compare_any {w : World} {lo hi lo2 hi2 : Nat} {a b : Ent} {g h : Hd} (hu : Em w lo hi a g) (hv : Em w lo2 hi2 b h) (h1 : hi ≤ w.heap.size) (h2 : hi2 ≤ w.heap.size) :
    Calls Try.prog 22 #[a.at_ g, b.at_ h] w fun e w' => e = .returned (.int .i64 (cmpE a b)) ∧ Ext w w' := by
  obtain ⟨z, hz⟩ : ∃ z, z = cmpE a b := ⟨_, rfl⟩
  rw [← hz]
  unfold Ent.at_
  obtain ⟨w1, hw1⟩ : ∃ w1, w1 = (w.alloc (.cells #[.slice g.kA a.key.length g.kc, .int .i64 a.seq, .int .i64 a.kind, .slice g.vA a.val.length g.vc] 25)).alloc (.cells #[.slice h.kA b.key.length h.kc, .int .i64 b.seq, .int .i64 b.kind, .slice h.vA b.val.length h.vc] 25) := ⟨_, rfl⟩
  have HX : Hid (Ext w w1) := by rw [hw1]; exact Ext.trans (ext_alloc _ _) (ext_alloc _ _)
  have HK := Lib.hid (keys_any (hu.k.below HX.out h1) (hv.k.below HX.out h2) hu.bk hv.bk)
  have HS := Lib.hid (icmp_any b.seq a.seq)
  have HR := Lib.hid (cmpK_range a.key b.key)
  clear hu hv h1 h2
  obtain ⟨k, hk⟩ : ∃ k, k = cmpK a.key b.key := ⟨_, rfl⟩
  have hz2 : z = if k = 0 then cmpS a.seq b.seq else k := by rw [hz, hk]; rfl
  clear hz
  rw [← hk] at HK
  by_cases h0 : k = 0
  · rw [if_pos h0] at hz2
    have d : (k != 0) = false := by simp [h0]
    subst hw1
    clear hk h0
    go_enter Try.func22, Try.ntmps22
    go_wp2_with fail
    refine Calls.mono HK.out ?_
    rintro e w' ⟨rfl, rfl⟩
    go_wp2_with fail
    refine (HS.out _).mono ?_
    rintro e w' ⟨rfl, rfl⟩
    go_wp2_with fail
    go_ret
    subst hz2
    exact ⟨rfl, HX.out⟩
  · rw [if_neg h0] at hz2
    have d : (k != 0) = true := by simp [h0]
    subst hw1
    clear hk h0
    go_enter Try.func22, Try.ntmps22
    go_wp2_with fail
    refine Calls.mono HK.out ?_
    rintro e w' ⟨rfl, rfl⟩
    go_wp2_with fail
    go_ret
    subst hz2
    exact ⟨rfl, HX.out⟩

theorem Ent.ext {a b : Ent} (h1 : a.key = b.key) (h2 : a.seq = b.seq) (h3 : a.kind = b.kind) (h4 : a.val = b.val) : a = b := by cases a; cases b; simp_all
end Go.Proofs.Ytcofnbeemfhcpaa
