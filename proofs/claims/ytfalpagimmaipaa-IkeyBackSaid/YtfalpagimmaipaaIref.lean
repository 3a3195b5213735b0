/- The reference: May, CompareKeys, Compare, Bytes; the law's long. -/
import Derived.Test.YtfalpagimmaipaaIread
import Derived.Test.YtfalpagimmaipaaTail
import Derived.Test.YtfalpagimmaipaaRmore
import Derived.LoopTactic
import Derived.BigQuiet
namespace Go.Proofs.Ytfalpagimmaipaa
open Go.ChangeShapes Go.WideShapes Go.ChangeAt Go.RowKit

set_option maxHeartbeats 1000000 in
theorem rmay_any (kA vA : Option Addr) (kn kc vn vc : Nat) (s d : Int) (w : World) : Calls Try.prog 15 #[.agg #[.slice kA kn kc, .int .i64 s, .int .i64 d, .slice vA vn vc]] w fun e w' => e = .returned (.bool (mayN kn s d vn)) ∧ Below w.heap.size w w' := by
  obtain ⟨m, hm⟩ : ∃ m, m = mayN kn s d vn := ⟨_, rfl⟩
  rw [← hm]
  have HX : Hid (Ext w (w.alloc (.cells #[.slice kA kn kc, .int .i64 s, .int .i64 d, .slice vA vn vc] 25))) := ext_alloc _ _
  by_cases h1 : kn < 1
  · obtain rfl : m = false := by rw [hm]; simp [mayN]; omega
    have d1 : decide ((kn : Int) < 1) = true := by simp; omega
    clear hm
    go_enter Try.func15, Try.ntmps15
    go_wp2_with fail
    go_ret
    exact ⟨rfl, HX.out⟩
  have d1 : decide ((kn : Int) < 1) = false := by simp; omega
  by_cases h2 : 32 < kn
  · obtain rfl : m = false := by rw [hm]; simp [mayN]; omega
    have d2 : decide ((32 : Int) < (kn : Int)) = true := by simp; omega
    clear hm
    go_enter Try.func15, Try.ntmps15
    go_wp2_with fail
    go_ret
    exact ⟨rfl, HX.out⟩
  have d2 : decide ((32 : Int) < (kn : Int)) = false := by simp; omega
  by_cases h3 : s < 1
  · obtain rfl : m = false := by rw [hm]; simp [mayN]; omega
    have d3 : decide (s < 1) = true := by simp; omega
    clear hm
    go_enter Try.func15, Try.ntmps15
    go_wp2_with fail
    go_ret
    exact ⟨rfl, HX.out⟩
  have d3 : decide (s < 1) = false := by simp; omega
  by_cases h4 : 2147483647 < s
  · obtain rfl : m = false := by rw [hm]; simp [mayN]; omega
    have d4 : decide ((2147483647 : Int) < s) = true := by simp; omega
    clear hm
    go_enter Try.func15, Try.ntmps15
    go_wp2_with fail
    go_ret
    exact ⟨rfl, HX.out⟩
  have d4 : decide ((2147483647 : Int) < s) = false := by simp; omega
  by_cases h5 : d = 1
  · subst h5
    by_cases hv : vn ≤ 65536
    · obtain rfl : m = true := by rw [hm, mayN_iff]; omega
      have dv : decide ((vn : Int) ≤ 65536) = true := by simp; omega
      have dvn : decide (vn ≤ 65536) = true := by simp; omega
      clear hm h1 h2 h3 h4 hv
      go_enter Try.func15, Try.ntmps15
      go_wp2_with fail
      go_ret
      exact ⟨rfl, HX.out⟩
    · obtain rfl : m = false := by rw [hm, Bool.eq_false_iff, ne_eq, mayN_iff]; omega
      have dv : decide ((vn : Int) ≤ 65536) = false := by simp; omega
      have dvn : decide (vn ≤ 65536) = false := by simp; omega
      clear hm h1 h2 h3 h4 hv
      go_enter Try.func15, Try.ntmps15
      go_wp2_with fail
      go_ret
      exact ⟨rfl, HX.out⟩
  have d5 : (d == 1) = false := by simpa using h5
  by_cases h6 : d = 2
  · subst h6
    obtain rfl : m = ((vn : Int) == 0) := by
      rw [hm, Bool.eq_iff_iff, mayN_iff, beq_iff_eq]; omega
    clear hm h1 h2 h3 h4
    go_enter Try.func15, Try.ntmps15
    go_wp2_with fail
    go_ret
    exact ⟨rfl, HX.out⟩
  have d6 : (d == 2) = false := by simpa using h6
  obtain rfl : m = false := by
    rw [hm, Bool.eq_false_iff, ne_eq, mayN_iff]; omega
  clear hm h1 h2 h3 h4
  go_enter Try.func15, Try.ntmps15
  go_wp2_with fail
  go_ret
  exact ⟨rfl, HX.out⟩

theorem long_any {w : World} {e : Ent} {g : Hd} (h1 : e.key.length ≤ 140737488351232) (h2 : e.val.length ≤ 140737488351232) : Calls Try.prog 13 #[e.at_ g] w fun x w' => x = .returned (.bool (decide (100000 < e.key.length + e.val.length))) ∧ Ext w w' := by
  have HX : Hid (Ext w (w.alloc (.cells #[.slice g.kA e.key.length g.kc, .int .i64 e.seq, .int .i64 e.kind, .slice g.vA e.val.length g.vc] 25))) := ext_alloc _ _
  have hw : wrap64 ((e.key.length : Int) + (e.val.length : Int)) = ((e.key.length + e.val.length : Nat) : Int) := by unfold wrap64; omega
  obtain ⟨n, hn⟩ : ∃ n, n = e.key.length + e.val.length := ⟨_, rfl⟩
  rw [← hn] at hw ⊢
  have hz : decide ((100000 : Int) < (n : Int)) = decide (100000 < n) := by rw [decide_eq_decide]; omega
  obtain ⟨z, hzz⟩ : ∃ z, z = decide (100000 < n) := ⟨_, rfl⟩
  rw [← hzz] at hz ⊢
  clear hzz hn h1 h2
  unfold Ent.at_
  go_enter Try.func13, Try.ntmps13
  go_wp2_with fail
  go_ret
  exact ⟨rfl, HX.out⟩

theorem cmpK_nil (b : List Nat) : cmpK [] b = if b.length = 0 then 0 else -1 := by cases b <;> simp [cmpK]
theorem cmpK_nil2 (a : List Nat) : cmpK a [] = if a.length = 0 then 0 else 1 := by cases a <;> simp [cmpK]
theorem cmpK_take {a b : List Nat} : ∀ {k : Nat}, k ≤ a.length → k ≤ b.length → a.take k = b.take k → cmpK a b = cmpK (a.drop k) (b.drop k)
  | 0, _, _, _ => by simp
  | k + 1, ha, hb, h => by
    cases a with
    | nil => simp at ha
    | cons x l =>
      cases b with
      | nil => simp at hb
      | cons y r =>
        simp only [List.take_succ_cons, List.cons.injEq] at h
        obtain ⟨rfl, h⟩ := h
        simp only [List.drop_succ_cons, cmpK]
        rw [if_neg (by omega), if_neg (by omega)]
        exact cmpK_take (by simpa using ha) (by simpa using hb) h

set_option maxRecDepth 100000 in
set_option maxHeartbeats 4000000 in
theorem rkeys_any {w : World} {lo hi lo2 hi2 : Nat} {u v : Value} {a b : List Nat} (hu : Bs w lo hi u a) (hv : Bs w lo2 hi2 v b) (ha : ∀ x ∈ a, x < 256) (hb : ∀ x ∈ b, x < 256) (h1 : hi ≤ w.heap.size) (h2 : hi2 ≤ w.heap.size) (hl1 : a.length ≤ 140737488351232) (hl2 : b.length ≤ 140737488351232) :
    Calls Try.prog 22 #[u, v] w fun e w' => e = .returned (.int .i64 (cmpK a b)) ∧ Ext w w' := by
  obtain ⟨X, c, rfl, _, _, _, hy1⟩ := hu
  obtain ⟨Y, d, rfl, _, _, _, hy2⟩ := hv
  have H1 := Lib.hid hy1
  have H2 := Lib.hid hy2
  have HHI := Lib.hid (And.intro h1 h2)
  have HBY := Lib.hid (And.intro ha hb)
  have HL := Lib.hid (And.intro hl1 hl2)
  obtain ⟨N, hN⟩ : ∃ N, N = a.length := ⟨_, rfl⟩
  obtain ⟨M, hM⟩ : ∃ M, M = b.length := ⟨_, rfl⟩
  rw [← hN, ← hM]
  have HN := Lib.hid (And.intro hN hM)
  obtain ⟨z, hz⟩ : ∃ z, z = cmpK a b := ⟨_, rfl⟩
  rw [← hz]
  have HZ := Lib.hid hz
  have hlI : (N : Int) ≤ 140737488351232 := by omega
  clear hy1 hy2 h1 h2 ha hb hl1 hl2 hN hM hz
  go_enter Try.func22, Try.ntmps22
  go_wp2_with fail
  go_loopw [5] (fun x wr => ∃ k : Nat, x = .int .i64 (k : Int) ∧ Hid (k ≤ a.length ∧ k ≤ b.length ∧ a.take k = b.take k) ∧ Hid (Ext w wr)) (fun x _ => N - (intOf x).toNat)
  case atStart => exact ⟨0, rfl, ⟨Nat.zero_le _, Nat.zero_le _, by simp⟩, Ext.refl _⟩
  case round =>
    obtain ⟨k, rfl, HK, HX⟩ := hrel
    by_cases hk1 : k < N
    · have d1 : decide ((k : Int) < (N : Int)) = true := by simp; omega
      have d1n : decide (k < N) = true := by simp; omega
      by_cases hk2 : k < M
      · have d2 : decide ((k : Int) < (M : Int)) = true := by simp; omega
        have d2n : decide (k < M) = true := by simp; omega
        have ha' : k < a.length := by have := HN.out.1; omega
        have hb' : k < b.length := by have := HN.out.2; omega
        obtain ⟨b1, o1, rfl, _, hlt1, q1⟩ := By.at_ H1.out ha'
        obtain ⟨b2, o2, rfl, _, hlt2, q2⟩ := By.at_ H2.out hb'
        replace q1 := ext_cell HX.out q1
        replace q2 := ext_cell HX.out q2
        obtain ⟨x, hx⟩ : ∃ x, x = a[k] := ⟨_, rfl⟩
        obtain ⟨y, hy⟩ : ∃ y, y = b[k] := ⟨_, rfl⟩
        rw [← hx] at q1
        rw [← hy] at q2
        have HXY : Hid (cmpK a b = if x < y then -1 else if y < x then 1 else cmpK (a.drop (k + 1)) (b.drop (k + 1))) := by
          unfold Hid
          rw [cmpK_take HK.out.1 HK.out.2.1 HK.out.2.2, List.drop_eq_getElem_cons ha', List.drop_eq_getElem_cons hb', ← hx, ← hy]
          rfl
        have HE : Hid (x = y → a.take (k + 1) = b.take (k + 1)) := fun e => by
          rw [List.take_succ_eq_append_getElem ha', List.take_succ_eq_append_getElem hb', ← hx, ← hy, HK.out.2.2, e]
        have HKK := Lib.hid (And.intro ha' hb')
        have HK1 := Lib.hid hk1
        have n1 : (0 : Int) ≤ (k : Int) := by omega
        have n2 : (k : Int) < (N : Int) := by omega
        have n3 : (k : Int) < (M : Int) := by omega
        clear hlt1 hlt2 hk1 hk2
        by_cases hlt : x < y
        · have e1 : decide ((x : Int) < (y : Int)) = true := by simp; omega
          have e1n : decide (x < y) = true := by simp; omega
          have HC : Hid (z = -1) := by rw [HZ.out, HXY.out, if_pos hlt]; rfl
          clear hx hy hlt ha' hb'
          go_wp2_with fail
          go_quiet (fail)
          go_wp2_with fail
          go_ret
          have := HC.out
          subst this
          exact ⟨rfl, below_drewN HX.out _⟩
        · have e1 : decide ((x : Int) < (y : Int)) = false := by simp; omega
          have e1n : decide (x < y) = false := by simp; omega
          by_cases hgt : y < x
          · have e2 : decide ((y : Int) < (x : Int)) = true := by simp; omega
            have e2n : decide (y < x) = true := by simp; omega
            have HC : Hid (z = 1) := by rw [HZ.out, HXY.out, if_neg hlt, if_pos hgt]; rfl
            clear hx hy hlt hgt ha' hb'
            go_wp2_with fail
            go_quiet (fail)
            go_wp2_with fail
            go_quiet (fail)
            go_wp2_with fail
            go_ret
            have := HC.out
            subst this
            exact ⟨rfl, below_drewN (below_drewN HX.out _) _⟩
          · have e2 : decide ((y : Int) < (x : Int)) = false := by simp; omega
            have e2n : decide (y < x) = false := by simp; omega
            have HEQ := Lib.hid (HE.out (by omega))
            clear hx hy hlt hgt ha' hb'
            go_wp2_with fail
            go_quiet (fail)
            go_wp2_with fail
            go_quiet (fail)
            go_wp2_with fail
            refine ⟨⟨k + 1, rfl, ⟨HKK.out.1, HKK.out.2, HEQ.out⟩, ?_⟩, ?_⟩
            · exact below_drewN HX.out _
            · have := HK1.out; simp [intOf]; omega
      · have d2 : decide ((k : Int) < (M : Int)) = false := by simp; omega
        have d2n : decide (k < M) = false := by simp; omega
        have HC : Hid (z = 1) := by
          have hkm : k = b.length := by have := HN.out.2; have := HK.out.2.1; omega
          unfold Hid
          rw [HZ.out, cmpK_take HK.out.1 HK.out.2.1 HK.out.2.2, hkm, List.drop_length, cmpK_nil2, List.length_drop, if_neg (by have := HN.out; omega)]
        have e1 : decide ((N : Int) < (M : Int)) = false := by simp; have := HN.out; have := HK.out; omega
        have e1n : decide (N < M) = false := by simp; have := HN.out; have := HK.out; omega
        have e2 : decide ((M : Int) < (N : Int)) = true := by simp; have := HN.out; have := HK.out; omega
        have e2n : decide (M < N) = true := by simp; have := HN.out; have := HK.out; omega
        clear hk1 hk2
        go_wp2_with fail
        go_ret
        have := HC.out
        subst this
        exact ⟨rfl, HX.out⟩
    · have d1 : decide ((k : Int) < (N : Int)) = false := by simp; omega
      have d1n : decide (k < N) = false := by simp; omega
      have hkm : k = a.length := by have := HN.out.1; have := HK.out.1; omega
      have HC : Hid (z = if M = N then 0 else -1) := by
        unfold Hid
        rw [HZ.out, cmpK_take HK.out.1 HK.out.2.1 HK.out.2.2, hkm, List.drop_length, cmpK_nil, List.length_drop, HN.out.1, HN.out.2]
        have h1 := HK.out.2.1
        by_cases h : b.length = a.length
        · rw [if_pos h, if_pos (by omega)]
        · rw [if_neg h, if_neg (by omega)]
      by_cases he : M = N
      · have e1 : decide ((N : Int) < (M : Int)) = false := by simp; omega
        have e1n : decide (N < M) = false := by simp; omega
        have e2 : decide ((M : Int) < (N : Int)) = false := by simp; omega
        have e2n : decide (M < N) = false := by simp; omega
        have HC2 : Hid (z = 0) := by rw [HC.out, if_pos he]; rfl
        clear hk1 he hkm
        go_wp2_with fail
        go_ret
        have := HC2.out
        subst this
        exact ⟨rfl, HX.out⟩
      · have e1 : decide ((N : Int) < (M : Int)) = true := by simp; have := HN.out; have := HK.out; omega
        have e1n : decide (N < M) = true := by simp; have := HN.out; have := HK.out; omega
        have HC2 : Hid (z = -1) := by rw [HC.out, if_neg he]; rfl
        clear hk1 he hkm
        go_wp2_with fail
        go_ret
        have := HC2.out
        subst this
        exact ⟨rfl, HX.out⟩

set_option maxHeartbeats 1000000 in
theorem rcompare_any {w : World} {lo hi lo2 hi2 : Nat} {a b : Ent} {g h : Hd} (hu : Em w lo hi a g) (hv : Em w lo2 hi2 b h) (h1 : hi ≤ w.heap.size) (h2 : hi2 ≤ w.heap.size) (hl1 : a.key.length ≤ 140737488351232) (hl2 : b.key.length ≤ 140737488351232) :
    Calls Try.prog 20 #[a.at_ g, b.at_ h] w fun e w' => e = .returned (.int .i64 (cmpE a b)) ∧ Ext w w' := by
  obtain ⟨z, hz⟩ : ∃ z, z = cmpE a b := ⟨_, rfl⟩
  rw [← hz]
  obtain ⟨w1, hw1⟩ : ∃ w1, w1 = (w.alloc (.cells #[.slice g.kA a.key.length g.kc, .int .i64 a.seq, .int .i64 a.kind, .slice g.vA a.val.length g.vc] 25)).alloc (.cells #[.slice h.kA b.key.length h.kc, .int .i64 b.seq, .int .i64 b.kind, .slice h.vA b.val.length h.vc] 25) := ⟨_, rfl⟩
  have HX : Hid (Ext w w1) := by rw [hw1]; exact Ext.trans (ext_alloc _ _) (ext_alloc _ _)
  have HK := Lib.hid (rkeys_any (hu.k.below HX.out h1) (hv.k.below HX.out h2) hu.bk hv.bk (Nat.le_trans h1 HX.out.size) (Nat.le_trans h2 HX.out.size) hl1 hl2)
  have b1 := ext_heap (ext_alloc (w.alloc (.cells #[.slice g.kA a.key.length g.kc, .int .i64 a.seq, .int .i64 a.kind, .slice g.vA a.val.length g.vc] 25)) (.cells #[.slice h.kA b.key.length h.kc, .int .i64 b.seq, .int .i64 b.kind, .slice h.vA b.val.length h.vc] 25)) (heap_at w (.cells #[.slice g.kA a.key.length g.kc, .int .i64 a.seq, .int .i64 a.kind, .slice g.vA a.val.length g.vc] 25) rfl)
  have b2 := heap_at (w.alloc (.cells #[.slice g.kA a.key.length g.kc, .int .i64 a.seq, .int .i64 a.kind, .slice g.vA a.val.length g.vc] 25)) (.cells #[.slice h.kA b.key.length h.kc, .int .i64 b.seq, .int .i64 b.kind, .slice h.vA b.val.length h.vc] 25) (k := w.heap.size + 1) (by simp)
  rw [← hw1] at b1 b2
  have q1 := cell_of b1 (k := 1) rfl
  have q2 := cell_of b2 (k := 1) rfl
  clear hu hv h1 h2 hl1 hl2 b1 b2
  obtain ⟨k, hk⟩ : ∃ k, k = cmpK a.key b.key := ⟨_, rfl⟩
  have hz2 : z = if k = 0 then cmpS a.seq b.seq else k := by rw [hz, hk]; rfl
  clear hz
  rw [← hk] at HK
  unfold Ent.at_
  by_cases h0 : k = 0
  · rw [if_pos h0] at hz2
    have d : (k != 0) = false := by simp [h0]
    unfold cmpS at hz2
    subst hw1
    clear hk h0
    by_cases hlt : b.seq < a.seq
    · rw [if_pos hlt] at hz2
      have e1 : decide (b.seq < a.seq) = true := by simp [hlt]
      clear hlt
      go_enter Try.func20, Try.ntmps20
      go_wp2_with fail
      refine Calls.mono HK.out ?_
      rintro e w' ⟨rfl, hx⟩
      have HX2 := Lib.hid hx
      have p1 := ext_cell hx q1
      have p2 := ext_cell hx q2
      clear hx q1 q2
      go_wp2_with fail
      go_ret
      subst hz2
      exact ⟨rfl, Ext.trans HX.out HX2.out⟩
    · rw [if_neg hlt] at hz2
      have e1 : decide (b.seq < a.seq) = false := by simp; omega
      by_cases hgt : a.seq < b.seq
      · rw [if_pos hgt] at hz2
        have e2 : decide (a.seq < b.seq) = true := by simp [hgt]
        clear hlt hgt
        go_enter Try.func20, Try.ntmps20
        go_wp2_with fail
        refine Calls.mono HK.out ?_
        rintro e w' ⟨rfl, hx⟩
        have HX2 := Lib.hid hx
        have p1 := ext_cell hx q1
        have p2 := ext_cell hx q2
        clear hx q1 q2
        go_wp2_with fail
        go_ret
        subst hz2
        exact ⟨rfl, Ext.trans HX.out HX2.out⟩
      · rw [if_neg hgt] at hz2
        have e2 : decide (a.seq < b.seq) = false := by simp; omega
        clear hlt hgt
        go_enter Try.func20, Try.ntmps20
        go_wp2_with fail
        refine Calls.mono HK.out ?_
        rintro e w' ⟨rfl, hx⟩
        have HX2 := Lib.hid hx
        have p1 := ext_cell hx q1
        have p2 := ext_cell hx q2
        clear hx q1 q2
        go_wp2_with fail
        go_ret
        subst hz2
        exact ⟨rfl, Ext.trans HX.out HX2.out⟩
  · rw [if_neg h0] at hz2
    have d : (k != 0) = true := by simp [h0]
    subst hw1
    clear hk h0
    go_enter Try.func20, Try.ntmps20
    go_wp2_with fail
    refine Calls.mono HK.out ?_
    rintro e w' ⟨rfl, hx⟩
    have HX2 := Lib.hid hx
    clear hx q1 q2
    go_wp2_with fail
    go_ret
    subst hz2
    exact ⟨rfl, Ext.trans HX.out HX2.out⟩
end Go.Proofs.Ytfalpagimmaipaa
