import Derived.Test.YtkdidghfcfcpfaaGreatMc3
import Derived.Test.YtkdidghfcfcpfaaGreatMc2
import Derived.LoopTactic
import Derived.BigQuiet
import Derived.OrdersIn
import Derived.Laws.EntriesVeiled
import Derived.Deep.Slices
import Derived.Deep.DeepCutAuto
import Derived.Test.YtkdidghfcfcpfaaGreatMc0
namespace Go.Proofs.YtkdidghfcfcpfaaGreat
open Go.ChangeShapes Go.WideShapes Go.ChangeAt Go.RowKit
set_option maxHeartbeats 1000000 in
theorem rmay_any (kA vA : Option Addr) (kn kc vn vc : Nat) (s d : Int) (w : World) : Calls Tryz.prog 87 #[.agg #[.slice kA kn kc, .int .i64 s, .int .i64 d, .slice vA vn vc]] w fun e w' => e = .returned (.bool (mayN kn s d vn)) ∧ Below w.heap.size w w' := by
 obtain ⟨m, hm⟩ : ∃ m, m = mayN kn s d vn := ⟨_, rfl⟩
 rw [← hm]
 have HX : Hid (Ext w (w.alloc (.cells #[.slice kA kn kc, .int .i64 s, .int .i64 d, .slice vA vn vc] 50))) := ext_alloc _ _
 by_cases h1 : kn < 1
 · obtain rfl : m = false := by rw [hm]; simp [mayN]; omega
   have d1 : decide ((kn : Int) < 1) = true := by simp; omega
   clear hm
   go_enter Tryz.func87, Tryz.ntmps87
   go_wp2_with fail
   go_ret
   exact ⟨rfl, HX.out⟩
 have d1 : decide ((kn : Int) < 1) = false := by simp; omega
 by_cases h2 : 32 < kn
 · obtain rfl : m = false := by rw [hm]; simp [mayN]; omega
   have d2 : decide ((32 : Int) < (kn : Int)) = true := by simp; omega
   clear hm
   go_enter Tryz.func87, Tryz.ntmps87
   go_wp2_with fail
   go_ret
   exact ⟨rfl, HX.out⟩
 have d2 : decide ((32 : Int) < (kn : Int)) = false := by simp; omega
 by_cases h3 : s < 1
 · obtain rfl : m = false := by rw [hm]; simp [mayN]; omega
   have d3 : decide (s < 1) = true := by simp; omega
   clear hm
   go_enter Tryz.func87, Tryz.ntmps87
   go_wp2_with fail
   go_ret
   exact ⟨rfl, HX.out⟩
 have d3 : decide (s < 1) = false := by simp; omega
 by_cases h4 : 2147483647 < s
 · obtain rfl : m = false := by rw [hm]; simp [mayN]; omega
   have d4 : decide ((2147483647 : Int) < s) = true := by simp; omega
   clear hm
   go_enter Tryz.func87, Tryz.ntmps87
   go_wp2_with fail
   go_ret
   exact ⟨rfl, HX.out⟩
 have d4 : decide ((2147483647 : Int) < s) = false := by simp; omega
 by_cases h5 : d = 1
 · subst h5
   by_cases hv : vn ≤ 65536
   · obtain rfl : m = true := by rw [hm, mayN_iff]; omega
     have dv : decide ((vn : Int) ≤ 65536) = true := by simp; omega
     have dvn : decide (vn ≤ 65536) = true := by simp; omega
     clear hm h1 h2 h3 h4 hv
     go_enter Tryz.func87, Tryz.ntmps87
     go_wp2_with fail
     go_ret
     exact ⟨rfl, HX.out⟩
   · obtain rfl : m = false := by rw [hm, Bool.eq_false_iff, ne_eq, mayN_iff]; omega
     have dv : decide ((vn : Int) ≤ 65536) = false := by simp; omega
     have dvn : decide (vn ≤ 65536) = false := by simp; omega
     clear hm h1 h2 h3 h4 hv
     go_enter Tryz.func87, Tryz.ntmps87
     go_wp2_with fail
     go_ret
     exact ⟨rfl, HX.out⟩
 have d5 : (d == 1) = false := by simpa using h5
 by_cases h6 : d = 2
 · subst h6
   obtain rfl : m = ((vn : Int) == 0) := by
    rw [hm, Bool.eq_iff_iff, mayN_iff, beq_iff_eq]; omega
   clear hm h1 h2 h3 h4
   go_enter Tryz.func87, Tryz.ntmps87
   go_wp2_with fail
   go_ret
   exact ⟨rfl, HX.out⟩
 have d6 : (d == 2) = false := by simpa using h6
 obtain rfl : m = false := by
  rw [hm, Bool.eq_false_iff, ne_eq, mayN_iff]; omega
 clear hm h1 h2 h3 h4
 go_enter Tryz.func87, Tryz.ntmps87
 go_wp2_with fail
 go_ret
 exact ⟨rfl, HX.out⟩
theorem cmpK_nil (b : List Nat) : cmpK [] b = if b.length = 0 then 0 else -1 := by cases b <;> simp [cmpK]
theorem cmpK_nil2 (a : List Nat) : cmpK a [] = if a.length = 0 then 0 else 1 := by cases a <;> simp [cmpK]
theorem cmpK_take {a b : List Nat} : ∀ {k : Nat}, k ≤ a.length → k ≤ b.length → a.take k = b.take k → cmpK a b = cmpK (a.drop k) (b.drop k)
 | 0, _, _, _ => by simp
 | k + 1, ha, hb, h => by
  cases a with
  | nil => simp at ha
  | cons x l =>
   cases b with
   | nil => simp at hb
   | cons y r =>
    simp only [List.take_succ_cons, List.cons.injEq] at h
    obtain ⟨rfl, h⟩ := h
    simp only [List.drop_succ_cons, cmpK]
    rw [if_neg (by omega), if_neg (by omega)]
    exact cmpK_take (by simpa using ha) (by simpa using hb) h
set_option maxRecDepth 100000 in
set_option maxHeartbeats 4000000 in
theorem rkeys_any {w : World} {lo hi lo2 hi2 : Nat} {u v : Value} {a b : List Nat} (hu : Bs w lo hi u a) (hv : Bs w lo2 hi2 v b) (ha : ∀ x ∈ a, x < 256) (hb : ∀ x ∈ b, x < 256) (h1 : hi ≤ w.heap.size) (h2 : hi2 ≤ w.heap.size) (hl1 : a.length ≤ 140737488351232) (hl2 : b.length ≤ 140737488351232) :
    Calls Tryz.prog 60 #[u, v] w fun e w' => e = .returned (.int .i64 (cmpK a b)) ∧ Ext w w' := by
 obtain ⟨X, c, rfl, _, _, _, hy1⟩ := hu
 obtain ⟨Y, d, rfl, _, _, _, hy2⟩ := hv
 have H1 := zHd hy1
 have H2 := zHd hy2
 have HHI := zHd (And.intro h1 h2)
 have HBY := zHd (And.intro ha hb)
 have HL := zHd (And.intro hl1 hl2)
 obtain ⟨N, hN⟩ : ∃ N, N = a.length := ⟨_, rfl⟩
 obtain ⟨M, hM⟩ : ∃ M, M = b.length := ⟨_, rfl⟩
 rw [← hN, ← hM]
 have HN := zHd (And.intro hN hM)
 obtain ⟨z, hz⟩ : ∃ z, z = cmpK a b := ⟨_, rfl⟩
 rw [← hz]
 have HZ := zHd hz
 have hlI : (N : Int) ≤ 140737488351232 := by omega
 clear hy1 hy2 h1 h2 ha hb hl1 hl2 hN hM hz
 go_enter Tryz.func60, Tryz.ntmps60
 go_wp2_with fail
 go_loopw [5] (fun x wr => ∃ k : Nat, x = .int .i64 (k : Int) ∧ Hid (k ≤ a.length ∧ k ≤ b.length ∧ a.take k = b.take k) ∧ Hid (Ext w wr)) (fun x _ => N - (intOf x).toNat)
 case atStart => exact ⟨0, rfl, ⟨Nat.zero_le _, Nat.zero_le _, by simp⟩, Ext.refl _⟩
 case round =>
  obtain ⟨k, rfl, HK, HX⟩ := hrel
  by_cases hk1 : k < N
  · have d1 : decide ((k : Int) < (N : Int)) = true := by simp; omega
    have d1n : decide (k < N) = true := by simp; omega
    by_cases hk2 : k < M
    · have d2 : decide ((k : Int) < (M : Int)) = true := by simp; omega
      have d2n : decide (k < M) = true := by simp; omega
      have ha' : k < a.length := by have := HN.out.1; omega
      have hb' : k < b.length := by have := HN.out.2; omega
      obtain ⟨b1, o1, rfl, _, hlt1, q1⟩ := By.at_ H1.out ha'
      obtain ⟨b2, o2, rfl, _, hlt2, q2⟩ := By.at_ H2.out hb'
      replace q1 := ext_cell HX.out q1
      replace q2 := ext_cell HX.out q2
      obtain ⟨x, hx⟩ : ∃ x, x = a[k] := ⟨_, rfl⟩
      obtain ⟨y, hy⟩ : ∃ y, y = b[k] := ⟨_, rfl⟩
      rw [← hx] at q1
      rw [← hy] at q2
      have HXY : Hid (cmpK a b = if x < y then -1 else if y < x then 1 else cmpK (a.drop (k + 1)) (b.drop (k + 1))) := by
       unfold Hid
       rw [cmpK_take HK.out.1 HK.out.2.1 HK.out.2.2, List.drop_eq_getElem_cons ha', List.drop_eq_getElem_cons hb', ← hx, ← hy]
       rfl
      have HE : Hid (x = y → a.take (k + 1) = b.take (k + 1)) := fun e => by
       rw [List.take_succ_eq_append_getElem ha', List.take_succ_eq_append_getElem hb', ← hx, ← hy, HK.out.2.2, e]
      have HKK := zHd (And.intro ha' hb')
      have HK1 := zHd hk1
      have n1 : (0 : Int) ≤ (k : Int) := by omega
      have n2 : (k : Int) < (N : Int) := by omega
      have n3 : (k : Int) < (M : Int) := by omega
      clear hlt1 hlt2 hk1 hk2
      by_cases hlt : x < y
      · have e1 : decide ((x : Int) < (y : Int)) = true := by simp; omega
        have e1n : decide (x < y) = true := by simp; omega
        have HC : Hid (z = -1) := by rw [HZ.out, HXY.out, if_pos hlt]; rfl
        clear hx hy hlt ha' hb'
        go_wp2_with fail
        go_quiet (fail)
        go_wp2_with fail
        go_ret
        have := HC.out
        subst this
        exact ⟨rfl, below_drewN HX.out _⟩
      · have e1 : decide ((x : Int) < (y : Int)) = false := by simp; omega
        have e1n : decide (x < y) = false := by simp; omega
        by_cases hgt : y < x
        · have e2 : decide ((y : Int) < (x : Int)) = true := by simp; omega
          have e2n : decide (y < x) = true := by simp; omega
          have HC : Hid (z = 1) := by rw [HZ.out, HXY.out, if_neg hlt, if_pos hgt]; rfl
          clear hx hy hlt hgt ha' hb'
          go_wp2_with fail
          go_quiet (fail)
          go_wp2_with fail
          go_quiet (fail)
          go_wp2_with fail
          go_ret
          have := HC.out
          subst this
          exact ⟨rfl, below_drewN (below_drewN HX.out _) _⟩
        · have e2 : decide ((y : Int) < (x : Int)) = false := by simp; omega
          have e2n : decide (y < x) = false := by simp; omega
          have HEQ := zHd (HE.out (by omega))
          clear hx hy hlt hgt ha' hb'
          go_wp2_with fail
          go_quiet (fail)
          go_wp2_with fail
          go_quiet (fail)
          go_wp2_with fail
          refine ⟨⟨k + 1, rfl, ⟨HKK.out.1, HKK.out.2, HEQ.out⟩, ?_⟩, ?_⟩
          · exact below_drewN HX.out _
          · have := HK1.out; simp [intOf]; omega
    · have d2 : decide ((k : Int) < (M : Int)) = false := by simp; omega
      have d2n : decide (k < M) = false := by simp; omega
      have HC : Hid (z = 1) := by
       have hkm : k = b.length := by have := HN.out.2; have := HK.out.2.1; omega
       unfold Hid
       rw [HZ.out, cmpK_take HK.out.1 HK.out.2.1 HK.out.2.2, hkm, List.drop_length, cmpK_nil2, List.length_drop, if_neg (by have := HN.out; omega)]
      have e1 : decide ((N : Int) < (M : Int)) = false := by simp; have := HN.out; have := HK.out; omega
      have e1n : decide (N < M) = false := by simp; have := HN.out; have := HK.out; omega
      have e2 : decide ((M : Int) < (N : Int)) = true := by simp; have := HN.out; have := HK.out; omega
      have e2n : decide (M < N) = true := by simp; have := HN.out; have := HK.out; omega
      clear hk1 hk2
      go_wp2_with fail
      go_ret
      have := HC.out
      subst this
      exact ⟨rfl, HX.out⟩
  · have d1 : decide ((k : Int) < (N : Int)) = false := by simp; omega
    have d1n : decide (k < N) = false := by simp; omega
    have hkm : k = a.length := by have := HN.out.1; have := HK.out.1; omega
    have HC : Hid (z = if M = N then 0 else -1) := by
     unfold Hid
     rw [HZ.out, cmpK_take HK.out.1 HK.out.2.1 HK.out.2.2, hkm, List.drop_length, cmpK_nil, List.length_drop, HN.out.1, HN.out.2]
     have h1 := HK.out.2.1
     by_cases h : b.length = a.length
     · rw [if_pos h, if_pos (by omega)]
     · rw [if_neg h, if_neg (by omega)]
    by_cases he : M = N
    · have e1 : decide ((N : Int) < (M : Int)) = false := by simp; omega
      have e1n : decide (N < M) = false := by simp; omega
      have e2 : decide ((M : Int) < (N : Int)) = false := by simp; omega
      have e2n : decide (M < N) = false := by simp; omega
      have HC2 : Hid (z = 0) := by rw [HC.out, if_pos he]; rfl
      clear hk1 he hkm
      go_wp2_with fail
      go_ret
      have := HC2.out
      subst this
      exact ⟨rfl, HX.out⟩
    · have e1 : decide ((N : Int) < (M : Int)) = true := by simp; have := HN.out; have := HK.out; omega
      have e1n : decide (N < M) = true := by simp; have := HN.out; have := HK.out; omega
      have HC2 : Hid (z = -1) := by rw [HC.out, if_neg he]; rfl
      clear hk1 he hkm
      go_wp2_with fail
      go_ret
      have := HC2.out
      subst this
      exact ⟨rfl, HX.out⟩
set_option maxHeartbeats 1000000 in
theorem rcompare_any {w : World} {lo hi lo2 hi2 : Nat} {a b : Ent} {g h : Hd} (hu : Em w lo hi a g) (hv : Em w lo2 hi2 b h) (h1 : hi ≤ w.heap.size) (h2 : hi2 ≤ w.heap.size) (hl1 : a.key.length ≤ 140737488351232) (hl2 : b.key.length ≤ 140737488351232) :
    Calls Tryz.prog 88 #[a.at_ g, b.at_ h] w fun e w' => e = .returned (.int .i64 (cmpE a b)) ∧ Ext w w' := by
 obtain ⟨z, hz⟩ : ∃ z, z = cmpE a b := ⟨_, rfl⟩
 rw [← hz]
 obtain ⟨w1, hw1⟩ : ∃ w1, w1 = (w.alloc (.cells #[.slice g.kA a.key.length g.kc, .int .i64 a.seq, .int .i64 a.kind, .slice g.vA a.val.length g.vc] 50)).alloc (.cells #[.slice h.kA b.key.length h.kc, .int .i64 b.seq, .int .i64 b.kind, .slice h.vA b.val.length h.vc] 50) := ⟨_, rfl⟩
 have HX : Hid (Ext w w1) := by rw [hw1]; exact zEt (ext_alloc _ _) (ext_alloc _ _)
 have HK := zHd (rkeys_any (hu.k.below HX.out h1) (hv.k.below HX.out h2) hu.bk hv.bk (zNt h1 HX.out.size) (zNt h2 HX.out.size) hl1 hl2)
 have b1 := ext_heap (ext_alloc (w.alloc (.cells #[.slice g.kA a.key.length g.kc, .int .i64 a.seq, .int .i64 a.kind, .slice g.vA a.val.length g.vc] 50)) (.cells #[.slice h.kA b.key.length h.kc, .int .i64 b.seq, .int .i64 b.kind, .slice h.vA b.val.length h.vc] 50)) (heap_at w (.cells #[.slice g.kA a.key.length g.kc, .int .i64 a.seq, .int .i64 a.kind, .slice g.vA a.val.length g.vc] 50) rfl)
 have b2 := heap_at (w.alloc (.cells #[.slice g.kA a.key.length g.kc, .int .i64 a.seq, .int .i64 a.kind, .slice g.vA a.val.length g.vc] 50)) (.cells #[.slice h.kA b.key.length h.kc, .int .i64 b.seq, .int .i64 b.kind, .slice h.vA b.val.length h.vc] 50) (k := w.heap.size + 1) (by simp)
 rw [← hw1] at b1 b2
 have q1 := cell_of b1 (k := 1) rfl
 have q2 := cell_of b2 (k := 1) rfl
 clear hu hv h1 h2 hl1 hl2 b1 b2
 obtain ⟨k, hk⟩ : ∃ k, k = cmpK a.key b.key := ⟨_, rfl⟩
 have hz2 : z = if k = 0 then cmpS a.seq b.seq else k := by rw [hz, hk]; rfl
 clear hz
 rw [← hk] at HK
 unfold Ent.at_
 by_cases h0 : k = 0
 · rw [if_pos h0] at hz2
   have d : (k != 0) = false := by simp [h0]
   unfold cmpS at hz2
   subst hw1
   clear hk h0
   by_cases hlt : b.seq < a.seq
   · rw [if_pos hlt] at hz2
     have e1 : decide (b.seq < a.seq) = true := by simp [hlt]
     clear hlt
     go_enter Tryz.func88, Tryz.ntmps88
     go_wp2_with fail
     refine Calls.mono HK.out ?_
     rintro e w' ⟨rfl, hx⟩
     have HX2 := zHd hx
     have p1 := ext_cell hx q1
     have p2 := ext_cell hx q2
     clear hx q1 q2
     go_wp2_with fail
     go_ret
     subst hz2
     exact ⟨rfl, zEt HX.out HX2.out⟩
   · rw [if_neg hlt] at hz2
     have e1 : decide (b.seq < a.seq) = false := by simp; omega
     by_cases hgt : a.seq < b.seq
     · rw [if_pos hgt] at hz2
       have e2 : decide (a.seq < b.seq) = true := by simp [hgt]
       clear hlt hgt
       go_enter Tryz.func88, Tryz.ntmps88
       go_wp2_with fail
       refine Calls.mono HK.out ?_
       rintro e w' ⟨rfl, hx⟩
       have HX2 := zHd hx
       have p1 := ext_cell hx q1
       have p2 := ext_cell hx q2
       clear hx q1 q2
       go_wp2_with fail
       go_ret
       subst hz2
       exact ⟨rfl, zEt HX.out HX2.out⟩
     · rw [if_neg hgt] at hz2
       have e2 : decide (a.seq < b.seq) = false := by simp; omega
       clear hlt hgt
       go_enter Tryz.func88, Tryz.ntmps88
       go_wp2_with fail
       refine Calls.mono HK.out ?_
       rintro e w' ⟨rfl, hx⟩
       have HX2 := zHd hx
       have p1 := ext_cell hx q1
       have p2 := ext_cell hx q2
       clear hx q1 q2
       go_wp2_with fail
       go_ret
       subst hz2
       exact ⟨rfl, zEt HX.out HX2.out⟩
 · rw [if_neg h0] at hz2
   have d : (k != 0) = true := by simp [h0]
   subst hw1
   clear hk h0
   go_enter Tryz.func88, Tryz.ntmps88
   go_wp2_with fail
   refine Calls.mono HK.out ?_
   rintro e w' ⟨rfl, hx⟩
   have HX2 := zHd hx
   clear hx q1 q2
   go_wp2_with fail
   go_ret
   subst hz2
   exact ⟨rfl, zEt HX.out HX2.out⟩
end Go.Proofs.YtkdidghfcfcpfaaGreat
namespace Go.Proofs.YtkdidghfcfcpfaaGreat
open Go.RowKit
section
variable {P : Program} {ops : Array Oper} {Q : Exit → Act → World → Prop} {l m : Nat}
theorem op_in {o : Oper} {a : Act} {w : World} {K : Act → World → Prop} (hnd : ∀ c, o.op ≠ .defer c) (h : o.wp P a w K Q) : o.wpIn (Fence.wide.inRound l) m P a w K Q := by
 refine ⟨fun _ _ => trivial, ?_⟩
 rw [show (Fence.wide.inRound l).round = some l from rfl, Oper.semAt_some l a.eval o hnd]
 unfold Oper.wp at h
 generalize (execOp a.eval o).run P w = r at h ⊢
 cases r with
 | ok x w' =>
  cases x with
  | value v => exact h
  | skip => exact h
  | defer d => exact h
  | enter f args => exact ⟨(fun e => (by cases e)), CallsIn.inRound l (callsIn_wide.2 h)⟩
  | row row args =>
   refine ⟨(fun e => (by cases e)), fun c cs _ => ?_⟩
   obtain ⟨v, w2, hr, hs⟩ := h c cs
   exact ⟨v, w2, hr, stepsIn_wide.2 hs⟩
  | _ => exact h.elim
 | halt x w' => cases x <;> first | exact h | exact h.elim
theorem any_in (hnd : ∀ (i : Nat) (o : Oper), ops[i]? = some o → ∀ c, o.op ≠ .defer c) (hQ : ¬ LetsOut Q) : ∀ (n : Nat) (seen : Array Bool) (a : Act) (w : World), wpAny P .any ops Q n seen a w → wpAnyIn (Fence.wide.inRound l) m P .any ops Q n seen a w := by
 intro n
 induction n with
 | zero => intro seen a w h; exact h
 | succ n ih =>
  intro seen a w h
  refine ⟨h.1, fun i hi => ?_⟩
  have h2 := h.2 i hi
  unfold wpOp at h2
  unfold wpOpIn
  cases ho : ops[i]? with
  | none => simp only [ho] at h2 ⊢; exact ih _ _ _ h2
  | some o =>
   simp only [ho] at h2 ⊢
   split
   · rename_i hw
     rw [if_pos hw] at h2
     rcases h2 with h2 | ⟨_, h2⟩
     · exact Oper.wpIn_mono (fun a w h => ih _ a w h) (op_in (hnd i o ho) h2)
     · exact absurd h2 hQ
   · rename_i hw
     rw [if_neg hw] at h2
     exact ⟨fun _ _ => trivial, ih _ _ _ h2⟩
def noDefer (ops : Array Oper) : Bool := ops.all fun o => match o.op with | .defer _ => false | _ => true
theorem noDefer_at (h : noDefer ops = true) (i : Nat) (o : Oper) (ho : ops[i]? = some o) (c : Call) : o.op ≠ .defer c := by
 intro e
 obtain ⟨hi, he⟩ := zAg.1 ho
 have := (Array.all_eq_true.1 h) i hi
 rw [he, e] at this
 cases this
theorem flow_in {a0 : Act} {id : Nat} {w : World} (hm : P.follows .mixedOrders = true) (hnd : noDefer ops = true) (hQ : ∀ a w, ¬ Q .outgrown a w) (φ : List (Value → World → Prop)) (hok : flowOk ops a0.tmps.size = true) (hsel : Region.noSelect ops = true) (hmono : ∀ p ∈ φ, Mono p)
    (hobl : ∀ f, Obls P ops φ w.drew f 0 ops.toList a0)
    (hfin : ∀ (g : Nat → Value) u, Ext w.drew u → (∀ j, j < ops.size → fact φ j (g j) u) → Q .normal (puts g 0 ops.toList a0) u) : (Code.region id ops true).wpIn (Fence.wide.inRound l) m P Q a0 w := by
 refine wpIn_region_any hm (any_in (noDefer_at hnd) (fun ⟨a, w, h⟩ => hQ a w h) _ _ _ _ (flow_any hok hsel hmono hobl hfin _ _ _ _ ⟨Ext.refl _, by simp, rfl, rfl, fun _ _ => rfl, fun j oj hj hs => ?_, fun j oj hj hs => ?_⟩ ?_))
 · have hlt := (zAg.1 hj).1
   simp [Array.getD, hlt] at hs
 · have hlt := (zAg.1 hj).1
   simp [Array.getD, hlt] at hs
 · unfold left
   rw [List.countP_eq_length.2]
   · simp
   · intro i hi
     have hlt := List.mem_range.1 hi
     simp [Array.getD, hlt]
end
end Go.Proofs.YtkdidghfcfcpfaaGreat
namespace Go.Proofs.YtkdidghfcfcpfaaGreat
open Go.RowKit Go.Shelf
attribute [local go_sem] Oper.semAt_some
theorem Em.keep {w w' : World} {lo hi : Nat} {e : Ent} {g : Hd} (m : Em w lo hi e g) (hk : ∀ p : Addr, lo ≤ p.block → p.block < hi → w'.cell? p = w.cell? p) : Em w' lo hi e g := ⟨m.k.of fun _ h => h.keep hk, m.v.of fun _ h => h.keep hk, m.bk, m.bv, m.s1, m.s2, m.d1, m.d2⟩
theorem Es.keep {w w' : World} {lo hi : Nat} {A : Option Addr} {L : List (Ent × Hd)} (h : Es w lo hi A L) (hk : ∀ p : Addr, lo ≤ p.block → p.block < hi → w'.cell? p = w.cell? p) : Es w' lo hi A L := ⟨h.outer.keep hk, fun p hp => (h.each p hp).keep hk⟩
theorem einfo : (Tryz.prog.info? 50).map (fun i => (i.zero, i.size, i.bytes)) = some (some (.agg #[.slice none 0 0, .int .i64 0, .int .i64 0, .slice none 0 0]), 4, 64) := by kernel_rfl
theorem esize (w : World) : (sizeOf (Tryz.prog.elem 28)).run Tryz.prog w = .ok 4 w := by
 obtain ⟨i0, hi, _, hz1, _⟩ := info_parts einfo
 have e : Tryz.prog.elem 28 = 50 := by kernel_rfl
 rw [e]
 simp [Go.sizeOf, typeInfo, hi, hz1]
theorem erow_drop (L : List (Ent × Hd)) (k : Nat) (hk : k ≤ L.length) : erow (L.drop k) = (erow L).drop (k * 4) := by
 have h := erow_append (L.take k) (L.drop k)
 rw [List.take_append_drop] at h
 have hl : (erow (L.take k)).length = k * 4 := by rw [erow_length, List.length_take, Nat.min_eq_left hk]
 rw [h, ← hl, List.drop_left]
theorem erow_take (L : List (Ent × Hd)) (k : Nat) (hk : k ≤ L.length) : erow (L.take k) = (erow L).take (k * 4) := by
 have h := erow_append (L.take k) (L.drop k)
 rw [List.take_append_drop] at h
 have hl : (erow (L.take k)).length = k * 4 := by rw [erow_length, List.length_take, Nat.min_eq_left hk]
 rw [h, ← hl, List.take_left]
theorem Es.drop {w : World} {lo hi c : Nat} {A : Option Addr} {L : List (Ent × Hd)} (h : Es w lo hi A L) {k : Nat} (hk : k ≤ L.length) (hc : L.length ≤ c) : Es w lo hi (if c = k then A else A.map (·.add (k * 4))) (L.drop k) := by
 refine ⟨?_, fun p hp => h.each p (List.mem_of_mem_drop hp)⟩
 rw [erow_drop L k hk]
 have h2 := Sl.drop (k := k * 4) (cap := c * 4) h.outer (by rw [erow_length]; omega) (by rw [erow_length]; omega)
 by_cases e : c = k
 · rw [if_pos e]; rw [if_pos (by omega)] at h2; exact h2
 · rw [if_neg e]; rw [if_neg (by omega)] at h2; exact h2
theorem Es.take {w : World} {lo hi : Nat} {A : Option Addr} {L : List (Ent × Hd)} (h : Es w lo hi A L) {k : Nat} (hk : k ≤ L.length) : Es w lo hi A (L.take k) := by
 refine ⟨?_, fun p hp => h.each p (List.mem_of_mem_take hp)⟩
 rw [erow_take L k hk]
 exact Sl.take h.outer _
end Go.Proofs.YtkdidghfcfcpfaaGreat
namespace Go.Proofs.YtkdidghfcfcpfaaGreat
open Go.RowKit
end Go.Proofs.YtkdidghfcfcpfaaGreat
namespace Go.Proofs.YtkdidghfcfcpfaaGreat
open Go.RowKit Go.Shelf
attribute [local go_sem] Oper.semAt_some
structure Good (e : Ent) : Prop where
 bk : ∀ x ∈ e.key, x < 256
 bv : ∀ x ∈ e.val, x < 256
 s1 : -9223372036854775808 ≤ e.seq
 s2 : e.seq ≤ 9223372036854775807
 d1 : -9223372036854775808 ≤ e.kind
 d2 : e.kind ≤ 9223372036854775807
structure Mine (B : Nat) (p : Ent × Hd) (A : World) : Prop where
 k : Own B p.1.key (.slice p.2.kA p.1.key.length p.2.kc) A
 v : Own B p.1.val (.slice p.2.vA p.1.val.length p.2.vc) A
 good : Good p.1
theorem Mine.em {B : Nat} {p : Ent × Hd} {A : World} (h : Mine B p A) : Em A 0 A.heap.size p.1 p.2 := ⟨h.k.bs, h.v.bs, h.good.bk, h.good.bv, h.good.s1, h.good.s2, h.good.d1, h.good.d2⟩
theorem Mine.below {B : Nat} {p : Ent × Hd} {A A' : World} (h : Mine B p A) (hx : Ext A A') : Mine B p A' := ⟨h.k.below hx, h.v.below hx, h.good⟩
theorem Mine.base {B B' : Nat} {p : Ent × Hd} {A : World} (h : Mine B p A) (hB : B' ≤ B) : Mine B' p A := ⟨h.k.base hB, h.v.base hB, h.good⟩
theorem Mine.chg {B : Nat} {p : Ent × Hd} {A A' : World} {S : Nat → Prop} (h : Mine B p A) (hc : Chg S A A') (hS : ∀ k, B ≤ k → ¬ S k) : Mine B p A' := ⟨row_chg h.k hc hS, row_chg h.v hc hS, h.good⟩
theorem rowN_kept {w w' : World} {base s n : Nat} {e : TypeId} {v : Value} {xs : List Value} (h : w.ownsRow base e s v n xs) (hk : ∀ g, v.ownBlock = some g → w'.heap[g]? = w.heap[g]?) : w'.ownsRow base e s v n xs := by
 obtain ⟨h1, h2⟩ := h
 refine ⟨h1, ?_⟩
 rcases h2 with h2 | ⟨g, cap, cur, hv, hg, hh, r⟩
 · exact Or.inl h2
 · exact Or.inr ⟨g, cap, cur, hv, hg, (hk g (by rw [hv]; rfl)).trans hh, r⟩
theorem rowN_lt {w : World} {base s n : Nat} {e : TypeId} {v : Value} {xs : List Value} (h : w.ownsRow base e s v n xs) : ∀ g, v.ownBlock = some g → base ≤ g ∧ g < w.heap.size ∧ ∃ cur, w.heap[g]? = some (.cells cur e (0, 0)) := by
 intro g hg
 rcases h.2 with ⟨rfl, _⟩ | ⟨g', cap, cur, hv, hb, hh, r⟩
 · cases hg
 · rw [hv] at hg
   injection hg with hg
   subst hg
   exact ⟨hb, (zAg.1 hh).1, cur, hh⟩
theorem rowN_base {w : World} {b b' s n : Nat} {e : TypeId} {v : Value} {xs : List Value} (h : w.ownsRow b e s v n xs) (hb : b' ≤ b) : w.ownsRow b' e s v n xs := by
 obtain ⟨h1, h2⟩ := h
 refine ⟨h1, ?_⟩
 rcases h2 with h2 | ⟨g, cap, cur, hv, hg, hh, r⟩
 · exact Or.inl h2
 · exact Or.inr ⟨g, cap, cur, hv, zNt hb hg, hh, r⟩
theorem rowN_slice {w : World} {base s n : Nat} {e : TypeId} {v : Value} {xs : List Value} (h : w.ownsRow base e s v n xs) : ∃ A c, v = .slice A n c := by
 rcases h.2 with ⟨rfl, rfl⟩ | ⟨g', cap, cur, hv, _⟩
 · exact ⟨none, 0, rfl⟩
 · exact ⟨_, _, hv⟩
theorem rows_apart {w : World} {B B' s s' n n' : Nat} {e e' : TypeId} {v v' : Value} {xs xs' : List Value} (h : w.ownsRow B e s v n xs) (h' : w.ownsRow B' e' s' v' n' xs') (hne : e ≠ e') {g : Nat} (hg : v.ownBlock = some g) : v'.ownBlock ≠ some g := by
 intro hg'
 obtain ⟨_, _, c, hc⟩ := rowN_lt h g hg
 obtain ⟨_, _, c', hc'⟩ := rowN_lt h' g hg'
 rw [hc] at hc'
 injection hc' with hc'
 injection hc' with _ h2 _
 exact hne h2
end Go.Proofs.YtkdidghfcfcpfaaGreat
namespace Go.Proofs.YtkdidghfcfcpfaaGreat
open Go.RowKit Go.Shelf
attribute [local go_sem] Oper.semAt_some
end Go.Proofs.YtkdidghfcfcpfaaGreat
namespace Go.Proofs.YtkdidghfcfcpfaaGreat
open Go.RowKit Go.Shelf Go.ChangeShapes Go.WideShapes Go.ChangeAt
set_option maxRecDepth 100000 in
theorem cv_any {w : World} {lo hi : Nat} {A : Option Addr} {c : Nat} {l : List Nat} (h : Bs w lo hi (.slice A l.length c) l) : (convert 22 9 (.slice A l.length c)).run Tryz.prog w = .ok (.string (tx l)) w := by
 obtain ⟨A', c', he, _, _, _, hy⟩ := h
 injection he with e1 _ e3
 subst e1 e3
 exact run_text (P := Tryz.prog) w 22 5 Tryz.underlying22 Tryz.underlying5 hy l.length c rfl 9 Tryz.underlying9
attribute [local go_sem] Oper.semAt_some
set_option maxHeartbeats 2000000 in
theorem rsame_any {w : World} {lo hi lo2 hi2 : Nat} {a b : Ent} {g h : Hd} (hu : Em w lo hi a g) (hv : Em w lo2 hi2 b h) (h1 : hi ≤ w.heap.size) (h2 : hi2 ≤ w.heap.size) :
    Calls Tryz.prog 22 #[a.at_ g, b.at_ h] w fun e w' => ∃ z : Bool, (z = true ↔ a = b) ∧ e = .returned (.bool z) ∧ Ext w w' := by
 obtain ⟨w1, hw1⟩ : ∃ w1, w1 = (w.alloc (.cells #[.slice g.kA a.key.length g.kc, .int .i64 a.seq, .int .i64 a.kind, .slice g.vA a.val.length g.vc] 50)).alloc (.cells #[.slice h.kA b.key.length h.kc, .int .i64 b.seq, .int .i64 b.kind, .slice h.vA b.val.length h.vc] 50) := ⟨_, rfl⟩
 have HX : Hid (Ext w w1) := by rw [hw1]; exact zEt (ext_alloc _ _) (ext_alloc _ _)
 have cvn : ∀ (X : Option Addr) (c : Nat) (l : List Nat) (lo hi : Nat), hi ≤ w.heap.size → Bs w lo hi (.slice X l.length c) l → (convert 22 9 (.slice X l.length c)).run Tryz.prog w1 = .ok (.string (tx l)) w1 := fun X c l lo hi hh hb => cv_any (hb.below HX.out hh)
 have v1 := cvn _ _ _ _ _ h1 hu.k
 have v2 := cvn _ _ _ _ _ h2 hv.k
 have v3 := cvn _ _ _ _ _ h1 hu.v
 have v4 := cvn _ _ _ _ _ h2 hv.v
 have t1 := tx_same hu.bk hv.bk
 have t2 := tx_same hu.bv hv.bv
 rw [hw1] at v1 v2 v3 v4
 clear cvn hu hv h1 h2
 unfold Ent.at_
 rw [hw1] at HX
 clear hw1
 by_cases hk : a.key = b.key
 · rw [decide_eq_true hk] at t1
   by_cases hs : a.seq = b.seq
   · have d1 : (a.seq == b.seq) = true := by simp [hs]
     by_cases hd : a.kind = b.kind
     · have d2 : (a.kind == b.kind) = true := by simp [hd]
       obtain ⟨z, hz⟩ : ∃ z, z = decide (a.val = b.val) := ⟨_, rfl⟩
       rw [← hz] at t2
       have HZ : Hid (z = true ↔ a = b) := by rw [hz]; unfold Hid; rw [decide_eq_true_eq]; exact ⟨fun h => Ent.ext hk hs hd h, fun h => by rw [h]⟩
       clear hk hs hd hz
       go_enter Tryz.func22, Tryz.ntmps22
       go_wp2_with fail
       go_ret
       exact ⟨z, HZ.out, by cases z <;> rfl, HX.out⟩
     · have d2 : (a.kind == b.kind) = false := by simp [hd]
       have HZ : Hid (false = true ↔ a = b) := ⟨fun h => (by cases h), fun h => absurd (by rw [h]) hd⟩
       clear hk hs hd t2
       go_enter Tryz.func22, Tryz.ntmps22
       go_wp2_with fail
       go_ret
       exact ⟨false, HZ.out, rfl, HX.out⟩
   · have d1 : (a.seq == b.seq) = false := by simp [hs]
     have HZ : Hid (false = true ↔ a = b) := ⟨fun h => (by cases h), fun h => absurd (by rw [h]) hs⟩
     clear hk hs t2
     go_enter Tryz.func22, Tryz.ntmps22
     go_wp2_with fail
     go_ret
     exact ⟨false, HZ.out, rfl, HX.out⟩
 · rw [decide_eq_false hk] at t1
   have HZ : Hid (false = true ↔ a = b) := ⟨fun h => (by cases h), fun h => absurd (by rw [h]) hk⟩
   clear hk t2
   go_enter Tryz.func22, Tryz.ntmps22
   go_wp2_with fail
   go_ret
   exact ⟨false, HZ.out, rfl, HX.out⟩
theorem results_cell_bool {fn : Func} {p : Tmp} (h : fn.results = #[.cell p 4]) (tmps : Array Value) (w : World) (g : Nat) (z : Bool) (hp : tmps.getD p undef = .pointer (some ⟨g, 0, none⟩)) (hc : w.cell? ⟨g, 0, none⟩ = some (.bool z)) :
    (results fn tmps).run Tryz.prog w = .ok (.bool z) w := by
 simp only [results, h]
 have hp' : tmps[p]?.getD undef = .pointer (some ⟨g, 0, none⟩) := by simpa using hp
 simp [Sem.run_bind, hp', go_sem, hc]
end Go.Proofs.YtkdidghfcfcpfaaGreat
namespace Go.Proofs.YtkdidghfcfcpfaaGreat
open Go.ChangeShapes Go.WideShapes Go.ChangeAt Go.RowKit
theorem all_next {α : Type} {f : α → Bool} {L : List α} {i : Nat} {p : α} (h : (L.take i).all f = true) (hp : L[i]? = some p) (hf : f p = true) : (L.take (i + 1)).all f = true := by
 rw [List.take_succ_eq_append_getElem (zLg.1 hp).1, List.all_append, h]
 simp [(zLg.1 hp).2, hf]
theorem all_not {α : Type} {f : α → Bool} {L : List α} {i : Nat} {p : α} (hp : L[i]? = some p) (hf : f p = false) : L.all f = false := by
 rw [Bool.eq_false_iff]
 intro h
 rw [List.all_eq_true] at h
 rw [h p (List.mem_of_getElem? hp)] at hf
 cases hf
set_option maxRecDepth 100000 in
set_option maxHeartbeats 4000000 in
theorem allmay_any {w : World} {lo hi : Nat} {A : Option Addr} {c : Nat} {L : List (Ent × Hd)} (h : Es w lo hi A L) (hhi : hi ≤ w.heap.size) (hlen : L.length ≤ 1000000000000) :
    Calls Tryz.prog 118 #[.slice A L.length c] w fun x w' => x = .returned (.bool (L.all fun p => p.1.may)) ∧ Ext w w' := by
 have HE := zHd h
 have HHI := zHd hhi
 have HL := zHd hlen
 clear h hhi hlen
 go_enter Tryz.func118, Tryz.ntmps118
 go_wp2_with fail
 go_loopw [7] (fun a wr => ∃ i : Nat, a = .int .i64 (i : Int) ∧ i ≤ L.length ∧ Hid ((L.take i).all (fun p => p.1.may) = true) ∧ Hid (Ext w wr)) (fun a _ => L.length - (intOf a).toNat)
 case atStart => exact ⟨0, rfl, by omega, by simp [Hid], zHd (Ext.refl _)⟩
 case round =>
  obtain ⟨i, rfl, hm, HR, HX⟩ := hrel
  by_cases hlt : i < L.length
  · have d : decide ((i : Int) < (L.length : Int)) = true := decide_eq_true (by omega)
    have dn : decide (i < L.length) = true := decide_eq_true hlt
    obtain ⟨b, o, hA⟩ := HE.out.base (by omega)
    subst hA
    obtain ⟨p, hp⟩ : ∃ p, L[i]? = some p := ⟨_, List.getElem?_eq_getElem hlt⟩
    obtain ⟨c0, c1, c2, c3⟩ := (HE.out.below HX.out HHI.out).get hp
    have HP := zHd hp
    have n1 : (0 : Int) ≤ (i : Int) := by omega
    have n2 : (i : Int) < (L.length : Int) := by omega
    have hw2 : wrap64 ((i : Int) + 1) = ((i + 1 : Nat) : Int) := by have := HL.out; unfold wrap64; omega
    clear hp
    go_upto_region 4 with (fail)
    obtain ⟨w4, hw4⟩ : ∃ w4, w4 = wr.alloc (.cells #[.slice p.2.kA p.1.key.length p.2.kc, .int .i64 p.1.seq, .int .i64 p.1.kind, .slice p.2.vA p.1.val.length p.2.vc] 50) := ⟨_, rfl⟩
    rw [← hw4]
    have HX4 : Hid (Ext wr w4) := by rw [hw4]; exact ext_alloc _ _
    have HB4 : Hid (w4.heap[wr.heap.size]? = some (.cells #[.slice p.2.kA p.1.key.length p.2.kc, .int .i64 p.1.seq, .int .i64 p.1.kind, .slice p.2.vA p.1.val.length p.2.vc] 50 (0, 0))) := by rw [hw4]; exact heap_at _ _ rfl
    clear hw4 c0 c1 c2 c3
    have c0 := cell_of HB4.out (k := 0) rfl
    have c1 := cell_of HB4.out (k := 1) rfl
    have c2 := cell_of HB4.out (k := 2) rfl
    have c3 := cell_of HB4.out (k := 3) rfl
    go_wp2_with fail
    refine (may_any _ _ _ _ _ _ _ _ _).mono ?_
    rintro x w9 ⟨rfl, hx9⟩
    have HX9 : Hid (Ext w w9) := zEt HX.out (zEt HX4.out hx9)
    clear hx9 c0 c1 c2 c3
    obtain ⟨z, hz⟩ : ∃ z, z = mayN p.1.key.length p.1.seq p.1.kind p.1.val.length := ⟨_, rfl⟩
    rw [← hz]
    have HZ := zHd hz
    clear hz
    cases z with
    | false =>
     go_wp2_with fail
     go_ret
     exact ⟨by rw [all_not (f := fun p : Ent × Hd => p.1.may) HP.out HZ.out.symm]; rfl, HX9.out⟩
    | true =>
     go_wp2_with fail
     go_roundw
     case rel => exact ⟨i + 1, by rw [hw2], by omega, zHd (all_next (f := fun p : Ent × Hd => p.1.may) HR.out HP.out HZ.out.symm), HX9⟩
     case measure => rw [hw2]; simp [intOf]; omega
  · have d : decide ((i : Int) < (L.length : Int)) = false := decide_eq_false (by omega)
    have dn : decide (i < L.length) = false := decide_eq_false hlt
    have HM : Hid (L.all (fun p => p.1.may) = true) := by have h := HR.out; rwa [List.take_of_length_le (by omega)] at h
    clear hlt hm
    go_wp2_with fail
    go_ret
    exact ⟨by rw [HM.out]; rfl, HX.out⟩
def Rise (l : List Ent) : Prop := ∀ j a b, l[j]? = some a → l[j + 1]? = some b → cmpE a b < 0
theorem RiseAt.all {l : List Ent} {n : Nat} (h : RiseAt l n) : n = l.length ↔ Rise l := by
 obtain ⟨h1, h2, h3⟩ := h
 refine ⟨fun e j a b ha hb => h2 j a b (by have := (zLg.1 hb).1; omega) ha hb, fun hr => ?_⟩
 rcases Nat.lt_or_ge n l.length with h | h
 · obtain ⟨m, a, b, e, ha, hb, hc⟩ := h3 h
   have := hr m a b ha hb
   omega
 · omega
set_option maxRecDepth 100000 in
set_option maxHeartbeats 4000000 in
theorem rises_any {w : World} {lo hi : Nat} {A : Option Addr} {c : Nat} {L : List (Ent × Hd)} (h : Es w lo hi A L) (hhi : hi ≤ w.heap.size) (hlen : L.length ≤ 1000000000000) :
    Calls Tryz.prog 99 #[.slice A L.length c] w fun x w' => ∃ z : Bool, (z = true ↔ Rise (L.map Prod.fst) ∧ (L.all fun p => p.1.may) = true) ∧ x = .returned (.bool z) ∧ Ext w w' := by
 have HR := zHd (rising_any (c := c) h hhi hlen)
 have HA : Hid (∀ u, Ext w u → Calls Tryz.prog 118 #[.slice A L.length c] u fun x w' => x = .returned (.bool (L.all fun p => p.1.may)) ∧ Ext u w') := fun u hu => allmay_any (h.below hu hhi) (zNt hhi hu.size) hlen
 clear h hhi hlen
 obtain ⟨m, hm⟩ : ∃ m, m = L.all fun p => p.1.may := ⟨_, rfl⟩
 rw [← hm] at HA ⊢
 clear hm
 go_enter Tryz.func99, Tryz.ntmps99
 go_wp2_with fail
 refine HR.out.mono ?_
 rintro x w2 ⟨n, hr, rfl, hx2⟩
 have hn := hr.all
 rw [List.length_map] at hn
 have HX2 := zHd hx2
 have HN := zHd hn
 clear hr hx2 hn
 by_cases h0 : n = L.length
 · have e1 : ((n : Int) == (L.length : Int)) = true := by rw [beq_iff_eq]; omega
   have e1n : (n == L.length) = true := by simpa using h0
   have HH := zHd h0
   clear h0
   go_wp2_with fail
   refine (HA.out w2 HX2.out).mono ?_
   rintro x w3 ⟨rfl, hx3⟩
   have HX3 : Hid (Ext w w3) := zEt HX2.out hx3
   clear hx3
   go_wp2_with fail
   go_ret
   exact ⟨m, ⟨fun h => ⟨HN.out.1 HH.out, h⟩, fun h => h.2⟩, rfl, HX3.out⟩
 · have e1 : ((n : Int) == (L.length : Int)) = false := by rw [beq_eq_false_iff_ne]; omega
   have e1n : (n == L.length) = false := by simpa using h0
   have HH := zHd h0
   clear h0
   go_wp2_with fail
   go_ret
   exact ⟨false, ⟨fun h => (by cases h), fun h => absurd (HN.out.2 h.1) HH.out⟩, rfl, HX2.out⟩
end Go.Proofs.YtkdidghfcfcpfaaGreat
namespace Go.Proofs.YtkdidghfcfcpfaaGreat
def be4 (n : Nat) : List Nat := [n / 16777216 % 256, n / 65536 % 256, n / 256 % 256, n % 256]
def num4 (l : List Nat) : Nat := l.foldl (fun n c => n * 256 + c) 0
theorem be4_length (n : Nat) : (be4 n).length = 4 := rfl
theorem be4_lt (n : Nat) : ∀ c ∈ be4 n, c < 256 := by
 intro c hc
 simp only [be4, List.mem_cons, List.not_mem_nil, or_false] at hc
 rcases hc with rfl | rfl | rfl | rfl <;> omega
theorem num4_be4 {n : Nat} (h : n < 4294967296) : num4 (be4 n) = n := by
 simp only [num4, be4, List.foldl]; omega
theorem list4 {l : List Nat} (h : l.length = 4) : ∃ a b c d, l = [a, b, c, d] := by
 match l, h with
 | [a, b, c, d], _ => exact ⟨a, b, c, d, rfl⟩
theorem num4_lt {l : List Nat} (h : l.length = 4) (hb : ∀ c ∈ l, c < 256) : num4 l < 4294967296 := by
 obtain ⟨a, b, c, d, rfl⟩ := list4 h
 have ha := hb a (by simp)
 have hb' := hb b (by simp)
 have hc := hb c (by simp)
 have hd := hb d (by simp)
 simp only [num4, List.foldl]; omega
def shr : List Nat → List Nat → Nat
 | a :: l, b :: r => if a = b then shr l r + 1 else 0
 | _, _ => 0
theorem shr_nil (b : List Nat) : shr [] b = 0 := by cases b <;> rfl
theorem shr_le_l : ∀ (a b : List Nat), shr a b ≤ a.length
 | [], b => by rw [shr_nil]; exact Nat.zero_le _
 | _ :: _, [] => Nat.zero_le _
 | x :: l, y :: r => by
  unfold shr
  split
  · have := shr_le_l l r; simp only [List.length_cons]; omega
  · omega
theorem shr_le_r : ∀ (a b : List Nat), shr a b ≤ b.length
 | [], b => by rw [shr_nil]; exact Nat.zero_le _
 | _ :: _, [] => Nat.zero_le _
 | x :: l, y :: r => by
  unfold shr
  split
  · have := shr_le_r l r; simp only [List.length_cons]; omega
  · omega
theorem shr_take : ∀ (a b : List Nat), a.take (shr a b) = b.take (shr a b)
 | [], b => by rw [shr_nil]; rfl
 | _ :: _, [] => rfl
 | x :: l, y :: r => by
  unfold shr
  split
  · rename_i h
    rw [List.take_succ_cons, List.take_succ_cons, h, shr_take l r]
  · rfl
theorem shr_is : ∀ {a b : List Nat} {n : Nat}, n ≤ a.length → n ≤ b.length → a.take n = b.take n → (∀ x y, a[n]? = some x → b[n]? = some y → x ≠ y) → shr a b = n
 | [], b, n, h1, _, _, _ => by rw [shr_nil]; simp at h1; omega
 | _ :: _, [], n, _, h2, _, _ => by simp at h2; subst h2; rfl
 | x :: l, y :: r, n, h1, h2, h3, h4 => by
  unfold shr
  cases n with
  | zero =>
   have := h4 x y rfl rfl
   rw [if_neg this]
  | succ n =>
   rw [List.take_succ_cons, List.take_succ_cons] at h3
   injection h3 with h3 h5
   rw [if_pos h3, shr_is (n := n) (by simpa using h1) (by simpa using h2) h5 (fun u v hu hv => h4 u v (by simpa using hu) (by simpa using hv))]
def kform (ah : List Nat) (e : Ent) : List Nat :=
 form (shr ah e.key) ++ (bytesForm (e.key.drop (shr ah e.key)) ++ (form e.seq.toNat ++ (form e.kind.toNat ++ (if e.kind = 1 then bytesForm e.val else []))))
theorem kform_pos (ah : List Nat) (e : Ent) : 0 < (kform ah e).length := by
 have := form_pos (shr ah e.key)
 unfold kform
 rw [List.length_append]; omega
theorem kform_len {ah : List Nat} {e : Ent} (h : e.may = true) : (kform ah e).length ≤ 65700 := by
 obtain ⟨u1, u2, u3, u4⟩ := Ent.may_u64 h
 obtain ⟨h1, h2, h3, h4, h5⟩ := mayN_iff.1 h
 have hs := shr_le_r ah e.key
 have a0 := form_len64 (n := shr ah e.key) ⟨by omega⟩
 have hd : (e.key.drop (shr ah e.key)).length ≤ 32 := by rw [List.length_drop]; omega
 have a1 := (bytesForm_len (l := e.key.drop (shr ah e.key)) ⟨by omega⟩).1
 have a2 := form_len64 u2
 have a3 := form_len64 u3
 have a4 := (bytesForm_len u4).1
 unfold kform
 split <;> simp only [List.length_append, List.length_nil] <;> rcases h5 with ⟨h5, h6⟩ | ⟨h5, h6⟩ <;> omega
theorem kform_lt {ah : List Nat} {e : Ent} (hk : ∀ x ∈ e.key, x < 256) (hv : ∀ x ∈ e.val, x < 256) : ∀ x ∈ kform ah e, x < 256 := by
 intro x hx
 unfold kform bytesForm at hx
 simp only [List.mem_append] at hx
 rcases hx with hx | (hx | hx) | hx | hx | hx
 · exact form_bytes _ x hx
 · exact form_bytes _ x hx
 · exact hk x (List.mem_of_mem_drop hx)
 · exact form_bytes _ x hx
 · exact form_bytes _ x hx
 · split at hx
   · rcases List.mem_append.1 hx with hx | hx
     · exact form_bytes _ x hx
     · exact hv x hx
   · cases hx
def ahOf (L : List Ent) (i : Nat) : List Nat := if i % 4 = 0 then [] else ((L[i - 1]?).map Ent.key).getD []
def pieceOf (L : List Ent) (i : Nat) : List Nat := ((L[i]?).map (kform (ahOf L i))).getD []
def upto (L : List Ent) (k : Nat) : List Nat := (List.range k).flatMap (pieceOf L)
def fromK (L : List Ent) (k : Nat) : List Nat := (List.range (L.length - k)).flatMap fun i => pieceOf L (k + i)
def ats (L : List Ent) (k : Nat) : List Nat := ((List.range k).filter fun i => i % 4 = 0).map fun i => (upto L i).length
def wr (L : List Ent) : List Nat := upto L L.length ++ ((ats L L.length).flatMap be4 ++ be4 (ats L L.length).length)
def MayB (L : List Ent) : Prop := 1 ≤ L.length ∧ L.length ≤ 1024 ∧ Rise L ∧ ∀ e ∈ L, e.may = true
theorem upto_zero (L : List Ent) : upto L 0 = [] := rfl
theorem upto_succ (L : List Ent) (k : Nat) : upto L (k + 1) = upto L k ++ pieceOf L k := by
 unfold upto
 rw [List.range_succ, List.flatMap_append]; simp
theorem piece_at {L : List Ent} {k : Nat} {e : Ent} (h : L[k]? = some e) : pieceOf L k = kform (ahOf L k) e := by unfold pieceOf; rw [h]; rfl
theorem fromK_at {L : List Ent} {k : Nat} (h : k < L.length) : fromK L k = pieceOf L k ++ fromK L (k + 1) := by
 unfold fromK
 have e1 : L.length - k = (L.length - (k + 1)) + 1 := by omega
 rw [e1, List.range_succ_eq_map, List.flatMap_cons, List.flatMap_map]
 congr 1
 refine congrArg (fun f => List.flatMap f _) ?_
 funext i
 show pieceOf L (k + (i + 1)) = _
 congr 1; omega
theorem fromK_end (L : List Ent) {k : Nat} (h : L.length ≤ k) : fromK L k = [] := by
 unfold fromK
 rw [show L.length - k = 0 by omega]; rfl
theorem fromK_zero (L : List Ent) : fromK L 0 = upto L L.length := by
 unfold fromK upto
 rw [Nat.sub_zero]
 refine congrArg (fun f => List.flatMap f _) ?_
 funext i
 rw [Nat.zero_add]
theorem ats_zero (L : List Ent) : ats L 0 = [] := rfl
theorem ats_hit (L : List Ent) {k : Nat} (h : k % 4 = 0) : ats L (k + 1) = ats L k ++ [(upto L k).length] := by
 unfold ats
 rw [List.range_succ, List.filter_append, List.map_append]
 simp [h]
theorem ats_miss (L : List Ent) {k : Nat} (h : k % 4 ≠ 0) : ats L (k + 1) = ats L k := by
 unfold ats
 rw [List.range_succ, List.filter_append, List.map_append]
 simp [h]
theorem ats_len (L : List Ent) (k : Nat) : (ats L k).length = (k + 3) / 4 := by
 induction k with
 | zero => rfl
 | succ k ih =>
  by_cases h : k % 4 = 0
  · rw [ats_hit L h, List.length_append, ih, List.length_singleton]; omega
  · rw [ats_miss L h, ih]; omega
theorem ats_get (L : List Ent) (k j : Nat) (h : 4 * j < k) : (ats L k)[j]? = some (upto L (4 * j)).length := by
 induction k with
 | zero => omega
 | succ k ih =>
  have hl := ats_len L k
  by_cases hk : k % 4 = 0
  · rw [ats_hit L hk]
    by_cases h1 : 4 * j < k
    · rw [List.getElem?_append_left (by omega)]; exact ih h1
    · have : k = 4 * j := by omega
      subst this
      rw [List.getElem?_append_right (by omega), hl, show j - (4 * j + 3) / 4 = 0 by omega]; rfl
  · rw [ats_miss L hk]; exact ih (by omega)
theorem upto_le {L : List Ent} (hm : ∀ e ∈ L, e.may = true) (k : Nat) : (upto L k).length ≤ 65700 * k := by
 induction k with
 | zero => simp [upto_zero]
 | succ k ih =>
  rw [upto_succ, List.length_append]
  have : (pieceOf L k).length ≤ 65700 := by
   cases h : L[k]? with
   | none => unfold pieceOf; rw [h]; simp
   | some e => rw [piece_at h]; exact kform_len (hm e (List.mem_of_getElem? h))
  omega
theorem ats_lt {L : List Ent} (hm : ∀ e ∈ L, e.may = true) (hl : L.length ≤ 1024) : ∀ x ∈ ats L L.length, x < 4294967296 := by
 intro x hx
 unfold ats at hx
 simp only [List.mem_map, List.mem_filter, List.mem_range] at hx
 obtain ⟨i, ⟨hi, _⟩, rfl⟩ := hx
 have := upto_le hm i
 omega
theorem flat4_len (l : List Nat) : (l.flatMap be4).length = 4 * l.length := by
 induction l with
 | nil => rfl
 | cons a l ih => rw [List.flatMap_cons, List.length_append, ih, be4_length, List.length_cons]; omega
theorem wr_len (L : List Ent) : (wr L).length = (upto L L.length).length + 4 * (ats L L.length).length + 4 := by
 unfold wr
 rw [List.length_append, List.length_append, flat4_len, be4_length]; omega
theorem upto_lt {L : List Ent} (hb : ∀ e ∈ L, (∀ x ∈ e.key, x < 256) ∧ ∀ x ∈ e.val, x < 256) (k : Nat) : ∀ x ∈ upto L k, x < 256 := by
 induction k with
 | zero => intro x hx; cases hx
 | succ k ih =>
  intro x hx
  rw [upto_succ] at hx
  rcases List.mem_append.1 hx with hx | hx
  · exact ih x hx
  · cases h : L[k]? with
    | none => unfold pieceOf at hx; rw [h] at hx; cases hx
    | some e => rw [piece_at h] at hx; exact kform_lt (hb e (List.mem_of_getElem? h)).1 (hb e (List.mem_of_getElem? h)).2 x hx
def Stands (ah l : List Nat) (e : Ent) (rest : List Nat) : Prop :=
 e.may = true ∧ ∃ n, n ≤ ah.length ∧ n ≤ e.key.length ∧ ah.take n = e.key.take n ∧
  l = form n ++ (bytesForm (e.key.drop n) ++ (form e.seq.toNat ++ (form e.kind.toNat ++ ((if e.kind = 1 then bytesForm e.val else []) ++ rest))))
theorem stands_kform {ah : List Nat} {e : Ent} (h : e.may = true) (rest : List Nat) : Stands ah (kform ah e ++ rest) e rest := by
 refine ⟨h, shr ah e.key, shr_le_l _ _, shr_le_r _ _, shr_take _ _, ?_⟩
 unfold kform
 simp only [List.append_assoc]
def BodyIs (L : List Ent) (bd : List Nat) : Prop := MayB L ∧ upto L L.length = bd
structure Ahead (bd : List Nat) (k : Nat) (ah l : List Nat) : Prop where
 is : ∀ L, BodyIs L bd → k ≤ L.length ∧ l = fromK L k ∧ (0 < k → ∃ p, L[k - 1]? = some p ∧ ah = p.key) ∧ (k = 0 → ah = [])
theorem Ahead.start (bd : List Nat) : Ahead bd 0 [] bd := ⟨fun L h => ⟨Nat.zero_le _, by rw [fromK_zero]; exact h.2.symm, fun h => absurd h (by omega), fun _ => rfl⟩⟩
theorem Ahead.stands {bd : List Nat} {k : Nat} {ah l : List Nat} (h : Ahead bd k ah l) {L : List Ent} (hL : BodyIs L bd) (hl : l ≠ []) : ∃ e, L[k]? = some e ∧ Stands ah l e (fromK L (k + 1)) := by
 obtain ⟨h1, h2, h3, h4⟩ := h.is L hL
 have hk : k < L.length := by
  rcases Nat.lt_or_ge k L.length with h | h
  · exact h
  · exact absurd (h2.trans (fromK_end L h)) hl
 refine ⟨L[k], List.getElem?_eq_getElem hk, ?_⟩
 rw [h2, fromK_at hk, piece_at (List.getElem?_eq_getElem hk)]
 have hm : L[k].may = true := hL.1.2.2.2 _ (List.getElem_mem hk)
 by_cases h0 : k % 4 = 0
 · unfold ahOf
   rw [if_pos h0]
   refine ⟨hm, 0, Nat.zero_le _, Nat.zero_le _, rfl, ?_⟩
   unfold kform
   rw [shr_nil]
   simp only [List.append_assoc]
 · have hk0 : 0 < k := by omega
   obtain ⟨p, hp, ha⟩ := h3 hk0
   unfold ahOf
   rw [if_neg h0, hp, ha]
   exact stands_kform hm _
theorem Ahead.ends {bd : List Nat} {k : Nat} {ah : List Nat} (h : Ahead bd k ah []) {L : List Ent} (hL : BodyIs L bd) : L.length = k := by
 obtain ⟨h1, h2, h3, h4⟩ := h.is L hL
 rcases Nat.lt_or_ge k L.length with hk | hk
 · rw [fromK_at hk, piece_at (List.getElem?_eq_getElem hk)] at h2
   have h5 := congrArg List.length h2
   rw [List.length_append, List.length_nil] at h5
   have := kform_pos (ahOf L k) L[k]
   omega
 · omega
theorem Ahead.next {bd : List Nat} {k : Nat} {ah l rest : List Nat} {e : Ent} (h : Ahead bd k ah l) (hl : l ≠ []) (hn : ∀ e' rest', Stands ah l e' rest' → e' = e ∧ rest' = rest) :
    Ahead bd (k + 1) e.key rest ∧ ∀ L, BodyIs L bd → L[k]? = some e := by
 have hh : ∀ L, BodyIs L bd → L[k]? = some e ∧ rest = fromK L (k + 1) := fun L hL => by
  obtain ⟨e', he', hs⟩ := h.stands hL hl
  obtain ⟨rfl, e2⟩ := hn _ _ hs
  exact ⟨he', e2.symm⟩
 refine ⟨⟨fun L hL => ⟨?_, (hh L hL).2, fun _ => ⟨e, by simpa using (hh L hL).1, rfl⟩, fun h => absurd h (by omega)⟩⟩, fun L hL => (hh L hL).1⟩
 have := (zLg.1 (hh L hL).1).1
 omega
theorem Stands.unique {ah l : List Nat} {e e' : Ent} {rest rest' : List Nat} (h : Stands ah l e rest) (h' : Stands ah l e' rest') : e = e' ∧ rest = rest' := by
 obtain ⟨hm, n, a1, a2, a3, a4⟩ := h
 obtain ⟨hm', n', b1, b2, b3, b4⟩ := h'
 obtain ⟨u1, u2, u3, u4⟩ := Ent.may_u64 hm
 obtain ⟨v1, v2, v3, v4⟩ := Ent.may_u64 hm'
 have hh := a4.symm.trans b4
 have un : U64 n := ⟨Nat.lt_of_le_of_lt a2 u1.lt⟩
 have un' : U64 n' := ⟨Nat.lt_of_le_of_lt b2 v1.lt⟩
 obtain ⟨rfl, hh⟩ := form_cut un un' hh
 have ud : U64 (e.key.drop n).length := ⟨by rw [List.length_drop]; have := u1.lt; omega⟩
 have ud' : U64 (e'.key.drop n).length := ⟨by rw [List.length_drop]; have := v1.lt; omega⟩
 obtain ⟨e1, hh⟩ := bytesForm_cut ud ud' hh
 obtain ⟨e2, hh⟩ := form_cut u2 v2 hh
 obtain ⟨e3, hh⟩ := form_cut u3 v3 hh
 obtain ⟨c1, c2, c3, c4, c5⟩ := mayN_iff.1 hm
 obtain ⟨d1, d2, d3, d4, d5⟩ := mayN_iff.1 hm'
 have k0 : e.kind = e'.kind := by rcases c5 with ⟨a, _⟩ | ⟨a, _⟩ <;> rcases d5 with ⟨b, _⟩ | ⟨b, _⟩ <;> omega
 have s0 : e.seq = e'.seq := by omega
 have key0 : e.key = e'.key := by
  rw [← List.take_append_drop n e.key, ← List.take_append_drop n e'.key, e1, ← a3, ← b3]
 rcases c5 with ⟨a, _⟩ | ⟨a, an⟩
 · rw [if_pos a, if_pos (k0.symm.trans a)] at hh
   obtain ⟨e4, e5⟩ := bytesForm_cut u4 v4 hh
   refine ⟨?_, e5⟩
   cases e; cases e'; simp_all
 · have hk2 : ¬ e.kind = 1 := by omega
   have hk2' : ¬ e'.kind = 1 := by omega
   rw [if_neg hk2, if_neg hk2'] at hh
   have v0 : e.val = e'.val := by
    rcases d5 with ⟨b, _⟩ | ⟨b, bn⟩
    · omega
    · rw [List.eq_nil_of_length_eq_zero an, List.eq_nil_of_length_eq_zero bn]
   refine ⟨?_, by simpa using hh⟩
   cases e; cases e'; simp_all
theorem body_unique_at {bd : List Nat} {L M : List Ent} (h : BodyIs L bd) (k : BodyIs M bd) : ∀ n, n ≤ L.length → n ≤ M.length ∧ L.take n = M.take n ∧ fromK L n = fromK M n := by
 intro n
 induction n with
 | zero => intro _; exact ⟨Nat.zero_le _, rfl, by rw [fromK_zero, fromK_zero, h.2, k.2]⟩
 | succ n ih =>
  intro hn
  obtain ⟨h1, h2, h3⟩ := ih (by omega)
  have hA : Ahead bd n (if n = 0 then [] else ((L[n - 1]?).map Ent.key).getD []) (fromK L n) → True := fun _ => trivial
  have hk : n < L.length := by omega
  have hm : n < M.length := by
   rcases Nat.lt_or_ge n M.length with hx | hx
   · exact hx
   · rw [fromK_end M hx, fromK_at hk, piece_at (List.getElem?_eq_getElem hk)] at h3
     have h5 := congrArg List.length h3
     rw [List.length_append, List.length_nil] at h5
     have := kform_pos (ahOf L n) L[n]
     omega
  have hah : ahOf L n = ahOf M n := by
   unfold ahOf
   split
   · rfl
   · have e1 : L[n - 1]? = (L.take n)[n - 1]? := by rw [List.getElem?_take, if_pos (by omega)]
     have e2 : M[n - 1]? = (M.take n)[n - 1]? := by rw [List.getElem?_take, if_pos (by omega)]
     rw [e1, e2, h2]
  have h4 := h3
  rw [fromK_at hk, fromK_at hm, piece_at (List.getElem?_eq_getElem hk), piece_at (List.getElem?_eq_getElem hm), hah] at h4
  have s1 := stands_kform (ah := ahOf M n) (h.1.2.2.2 _ (List.getElem_mem hk)) (fromK L (n + 1))
  have s2 := stands_kform (ah := ahOf M n) (k.1.2.2.2 _ (List.getElem_mem hm)) (fromK M (n + 1))
  rw [h4] at s1
  obtain ⟨e1, e2⟩ := s1.unique s2
  refine ⟨hm, ?_, e2⟩
  rw [List.take_add_one, List.take_add_one, h2, List.getElem?_eq_getElem hk, List.getElem?_eq_getElem hm, e1]
theorem body_unique {bd : List Nat} {L M : List Ent} (h : BodyIs L bd) (k : BodyIs M bd) : L = M := by
 obtain ⟨h1, h2, _⟩ := body_unique_at h k L.length (zNr _)
 obtain ⟨k1, _, _⟩ := body_unique_at k h M.length (zNr _)
 have e : L.length = M.length := by omega
 rw [List.take_length, e, List.take_length] at h2
 exact h2
def IsB (b : List Nat) (L : List Ent) : Prop := MayB L ∧ wr L = b
def bodyOf (b : List Nat) : List Nat := b.take (b.length - 4 - 4 * num4 (b.drop (b.length - 4)))
theorem IsB.last {b : List Nat} {L : List Ent} (h : IsB b L) : 4 ≤ b.length ∧ b.drop (b.length - 4) = be4 (ats L L.length).length ∧ num4 (b.drop (b.length - 4)) = (L.length + 3) / 4 ∧ b.length = (upto L L.length).length + 4 * ((L.length + 3) / 4) + 4 := by
 have hl := wr_len L
 rw [h.2] at hl
 rw [ats_len] at hl
 have hd : b.drop (b.length - 4) = be4 (ats L L.length).length := by
  rw [← h.2, wr_len]
  unfold wr
  rw [← List.append_assoc, List.drop_append_of_le_length (by rw [List.length_append, flat4_len]; omega)]
  rw [List.drop_eq_nil_of_le (by rw [List.length_append, flat4_len]; omega)]; rfl
 refine ⟨by omega, hd, ?_, hl⟩
 rw [hd, ats_len]
 have := h.1.2.1
 exact num4_be4 (by omega)
theorem IsB.body {b : List Nat} {L : List Ent} (h : IsB b L) : BodyIs L (bodyOf b) := by
 obtain ⟨h1, h2, h3, h4⟩ := h.last
 refine ⟨h.1, ?_⟩
 unfold bodyOf
 rw [h3, show b.length - 4 - 4 * ((L.length + 3) / 4) = (upto L L.length).length by omega, ← h.2]
 unfold wr
 rw [List.take_append_of_le_length (zNr _), List.take_length]
theorem IsB.unique {b : List Nat} {L M : List Ent} (h : IsB b L) (k : IsB b M) : L = M := body_unique h.body k.body
end Go.Proofs.YtkdidghfcfcpfaaGreat
namespace Go.Proofs.YtkdidghfcfcpfaaGreat
open Go.ChangeShapes Go.WideShapes Go.ChangeAt Go.RowKit
theorem shr_go {a b : List Nat} {n : Nat} (hn : a.take n = b.take n) (h1 : n < a.length) (h2 : n < b.length) (h : a[n] = b[n]) : a.take (n + 1) = b.take (n + 1) := by
 rw [List.take_succ_eq_append_getElem h1, List.take_succ_eq_append_getElem h2, hn, h]
theorem wrap_succ {n : Nat} (h : n < 1000000000000) : wrap64 ((n : Int) + 1) = ((n + 1 : Nat) : Int) := by unfold wrap64; omega
set_option maxRecDepth 100000 in
set_option maxHeartbeats 4000000 in
theorem shared_any {w : World} {lo hi lo2 hi2 : Nat} {u v : Value} {a b : List Nat} (hu : Bs w lo hi u a) (hv : Bs w lo2 hi2 v b) (hhi : hi ≤ w.heap.size) (hhi2 : hi2 ≤ w.heap.size) (ha : a.length ≤ 1000000000000) (hb : b.length ≤ 1000000000000) :
    Calls Tryz.prog 160 #[u, v] w fun e w' => e = .returned (.int .i64 (shr a b : Int)) ∧ Ext w w' := by
 obtain ⟨A, c, rfl, _, _, _, hA⟩ := hu
 obtain ⟨B, c2, rfl, _, _, _, hB⟩ := hv
 have HA := zHd hA
 have HB := zHd hB
 have HH := zHd (And.intro hhi hhi2)
 have HL := zHd (And.intro ha hb)
 clear hA hB hhi hhi2 ha hb
 go_enter Tryz.func160, Tryz.ntmps160
 go_wp2_with fail
 go_loopw [5] (fun x wr => ∃ n : Nat, n ≤ a.length ∧ n ≤ b.length ∧ x = .int .i64 (n : Int) ∧ Hid (a.take n = b.take n) ∧ Hid (Ext w wr)) (fun x _ => a.length - (intOf x).toNat)
 case atStart => exact ⟨0, Nat.zero_le _, Nat.zero_le _, rfl, rfl, Ext.refl _⟩
 case round =>
  obtain ⟨n, hn1, hn2, rfl, HT, HX⟩ := hrel
  obtain ⟨m, hm⟩ : ∃ m : Int, m = min (a.length : Int) (b.length : Int) := ⟨_, rfl⟩
  by_cases hlt : n < a.length ∧ n < b.length
  · obtain ⟨h1, h2⟩ := hlt
    obtain ⟨ab, ao, rfl, _, _, ca⟩ := (show By wr _ _ _ _ from Sl.below HA.out HX.out HH.out.1).at_ h1
    obtain ⟨bb, bo, rfl, _, _, cb⟩ := (show By wr _ _ _ _ from Sl.below HB.out HX.out HH.out.2).at_ h2
    obtain ⟨x, hx⟩ : ∃ x, x = a[n] := ⟨_, rfl⟩
    obtain ⟨y, hy⟩ : ∃ y, y = b[n] := ⟨_, rfl⟩
    rw [← hx] at ca
    rw [← hy] at cb
    have d1 : decide ((n : Int) < m) = true := by rw [decide_eq_true_eq, hm]; omega
    have n1 : (0 : Int) ≤ (n : Int) := by omega
    have n2 : (n : Int) < (a.length : Int) := by omega
    have n3 : (n : Int) < (b.length : Int) := by omega
    have HM := zHd hm
    have HXY : Hid (a[n]? = some x ∧ b[n]? = some y) := ⟨by rw [hx]; exact List.getElem?_eq_getElem h1, by rw [hy]; exact List.getElem?_eq_getElem h2⟩
    have H12 := zHd (And.intro h1 h2)
    have HN := zHd (And.intro hn1 hn2)
    clear hm hx hy h1 h2 hn1 hn2
    go_upto_region 2 with (fail)
    by_cases hxy : x = y
    · have dxy : ((x : Int) == (y : Int)) = true := by simp [hxy]
      have HE := zHd hxy
      clear hxy
      refine flow (by kernel_rfl) [Is (.int .i64 (n : Int)), Is (.slice (some ⟨ab, ao, none⟩) a.length c), Is (.int .i64 (a.length : Int)), Is (.slice (some ⟨bb, bo, none⟩) b.length c2), Is (.int .i64 (b.length : Int)), Is (.int .i64 m), Is (.bool true), Is (.bool true), Is (.slice (some ⟨ab, ao, none⟩) a.length c), Is (.int .i64 (n : Int)), Is (.pointer (some ⟨ab, ao + n, none⟩)), Is (.int .u8 (x : Int)), Is (.slice (some ⟨bb, bo, none⟩) b.length c2), Is (.int .i64 (n : Int)), Is (.pointer (some ⟨bb, bo + n, none⟩)), Is (.int .u8 (y : Int)), Is (.bool true), Is (.bool true)] (by kernel_rfl) (by kernel_rfl) ?mono (fun f1 => ?obl) ?fin
      case mono =>
       simp only [List.forall_mem_cons, List.not_mem_nil, false_imp_iff, implies_true, and_true]
       and_intros <;> exact .is _
      case fin =>
       intro g1 u hu hg
       simp only [puts, Act.put, zq]
       have hxu := zEt (Ext.drew wr) hu
       have HXU : Hid (Ext w u) := zEt HX.out hxu
       have e17 : g1 17 = _ := hg 17 (by decide)
       rw [e17]
       clear hxu hu hg e17
       go_wp2_with fail
       go_roundw
       case rel =>
        have h1 := H12.out.1
        have h2 := H12.out.2
        exact ⟨n + 1, by omega, by omega, by rw [wrap_succ (Nat.lt_of_lt_of_le H12.out.1 HL.out.1)], shr_go HT.out h1 h2 (by have p := HXY.out.1; have q := HXY.out.2; rw [List.getElem?_eq_getElem h1] at p; rw [List.getElem?_eq_getElem h2] at q; injection p with p; injection q with q; rw [p, q]; exact HE.out), HXU⟩
       case measure => have := H12.out; rw [wrap_succ (Nat.lt_of_lt_of_le H12.out.1 HL.out.1)]; simp [intOf]; omega
      case obl =>
       refine ⟨fun u hu hd => ?_, fun u hu hd => ?_, fun u hu hd => ?_, fun u hu hd => ?_, fun u hu hd => ?_, fun u hu hd => ?_, fun u hu hd => ?_, fun u hu hd => ?_, fun u hu hd => ?_, fun u hu hd => ?_, fun u hu hd => ?_, fun u hu hd => ?_, fun u hu hd => ?_, fun u hu hd => ?_, fun u hu hd => ?_, fun u hu hd => ?_, fun u hu hd => ?_, fun u hu hd => ?_, trivial⟩
       all_goals try simp only [Act.put, zq]
       · go_simp
         exact zEr
       · go_simp
         exact zEr
       · have e1 : f1 1 = _ := hd 1 (by kernel_rfl)
         go_simp
         exact zEr
       · go_simp
         exact zEr
       · have e3 : f1 3 = _ := hd 3 (by kernel_rfl)
         go_simp
         exact zEr
       · have e2 : f1 2 = _ := hd 2 (by kernel_rfl)
         have e4 : f1 4 = _ := hd 4 (by kernel_rfl)
         rw [HM.out]
         go_simp
         exact zEr
       · have e0 : f1 0 = _ := hd 0 (by kernel_rfl)
         have e5 : f1 5 = _ := hd 5 (by kernel_rfl)
         go_simp
         exact zEr
       · have e6 : f1 6 = _ := hd 6 (by kernel_rfl)
         go_simp
         exact zEr
       · have e7 : f1 7 = _ := hd 7 (by kernel_rfl)
         go_simp
         exact zEr
       · have e7 : f1 7 = _ := hd 7 (by kernel_rfl)
         go_simp
         exact zEr
       · have e7 : f1 7 = _ := hd 7 (by kernel_rfl)
         have e8 : f1 8 = _ := hd 8 (by kernel_rfl)
         have e9 : f1 9 = _ := hd 9 (by kernel_rfl)
         go_simp
         exact zEr
       · have e7 : f1 7 = _ := hd 7 (by kernel_rfl)
         have e10 : f1 10 = _ := hd 10 (by kernel_rfl)
         have hu2 := zEt (Ext.drew wr) hu
         have q0 := ext_cell hu2 ca
         go_simp
         exact zEr
       · have e7 : f1 7 = _ := hd 7 (by kernel_rfl)
         go_simp
         exact zEr
       · have e7 : f1 7 = _ := hd 7 (by kernel_rfl)
         go_simp
         exact zEr
       · have e7 : f1 7 = _ := hd 7 (by kernel_rfl)
         have e12 : f1 12 = _ := hd 12 (by kernel_rfl)
         have e13 : f1 13 = _ := hd 13 (by kernel_rfl)
         go_simp
         exact zEr
       · have e7 : f1 7 = _ := hd 7 (by kernel_rfl)
         have e14 : f1 14 = _ := hd 14 (by kernel_rfl)
         have hu2 := zEt (Ext.drew wr) hu
         have q0 := ext_cell hu2 cb
         go_simp
         exact zEr
       · have e7 : f1 7 = _ := hd 7 (by kernel_rfl)
         have e11 : f1 11 = _ := hd 11 (by kernel_rfl)
         have e15 : f1 15 = _ := hd 15 (by kernel_rfl)
         go_simp
         exact zEr
       · have e7 : f1 7 = _ := hd 7 (by kernel_rfl)
         have e16 : f1 16 = _ := hd 16 (by kernel_rfl)
         go_simp
         exact zEr
    · have dxy : ((x : Int) == (y : Int)) = false := by simp; omega
      have HE := zHd hxy
      clear hxy
      refine flow (by kernel_rfl) [Is (.int .i64 (n : Int)), Is (.slice (some ⟨ab, ao, none⟩) a.length c), Is (.int .i64 (a.length : Int)), Is (.slice (some ⟨bb, bo, none⟩) b.length c2), Is (.int .i64 (b.length : Int)), Is (.int .i64 m), Is (.bool true), Is (.bool true), Is (.slice (some ⟨ab, ao, none⟩) a.length c), Is (.int .i64 (n : Int)), Is (.pointer (some ⟨ab, ao + n, none⟩)), Is (.int .u8 (x : Int)), Is (.slice (some ⟨bb, bo, none⟩) b.length c2), Is (.int .i64 (n : Int)), Is (.pointer (some ⟨bb, bo + n, none⟩)), Is (.int .u8 (y : Int)), Is (.bool false), Is (.bool false)] (by kernel_rfl) (by kernel_rfl) ?mono (fun f1 => ?obl) ?fin
      case mono =>
       simp only [List.forall_mem_cons, List.not_mem_nil, false_imp_iff, implies_true, and_true]
       and_intros <;> exact .is _
      case fin =>
       intro g1 u hu hg
       simp only [puts, Act.put, zq]
       have hxu := zEt (Ext.drew wr) hu
       have HXU : Hid (Ext w u) := zEt HX.out hxu
       have e17 : g1 17 = _ := hg 17 (by decide)
       rw [e17]
       clear hxu hu hg e17
       go_wp2_with fail
       go_ret
       have hs : shr a b = n := shr_is HN.out.1 HN.out.2 HT.out (fun p q hp hq => by
        rw [HXY.out.1] at hp
        rw [HXY.out.2] at hq
        injection hp with hp; injection hq with hq
        rw [← hp, ← hq]; exact HE.out)
       rw [hs]
       exact ⟨rfl, HXU.out⟩
      case obl =>
       refine ⟨fun u hu hd => ?_, fun u hu hd => ?_, fun u hu hd => ?_, fun u hu hd => ?_, fun u hu hd => ?_, fun u hu hd => ?_, fun u hu hd => ?_, fun u hu hd => ?_, fun u hu hd => ?_, fun u hu hd => ?_, fun u hu hd => ?_, fun u hu hd => ?_, fun u hu hd => ?_, fun u hu hd => ?_, fun u hu hd => ?_, fun u hu hd => ?_, fun u hu hd => ?_, fun u hu hd => ?_, trivial⟩
       all_goals try simp only [Act.put, zq]
       · go_simp
         exact zEr
       · go_simp
         exact zEr
       · have e1 : f1 1 = _ := hd 1 (by kernel_rfl)
         go_simp
         exact zEr
       · go_simp
         exact zEr
       · have e3 : f1 3 = _ := hd 3 (by kernel_rfl)
         go_simp
         exact zEr
       · have e2 : f1 2 = _ := hd 2 (by kernel_rfl)
         have e4 : f1 4 = _ := hd 4 (by kernel_rfl)
         rw [HM.out]
         go_simp
         exact zEr
       · have e0 : f1 0 = _ := hd 0 (by kernel_rfl)
         have e5 : f1 5 = _ := hd 5 (by kernel_rfl)
         go_simp
         exact zEr
       · have e6 : f1 6 = _ := hd 6 (by kernel_rfl)
         go_simp
         exact zEr
       · have e7 : f1 7 = _ := hd 7 (by kernel_rfl)
         go_simp
         exact zEr
       · have e7 : f1 7 = _ := hd 7 (by kernel_rfl)
         go_simp
         exact zEr
       · have e7 : f1 7 = _ := hd 7 (by kernel_rfl)
         have e8 : f1 8 = _ := hd 8 (by kernel_rfl)
         have e9 : f1 9 = _ := hd 9 (by kernel_rfl)
         go_simp
         exact zEr
       · have e7 : f1 7 = _ := hd 7 (by kernel_rfl)
         have e10 : f1 10 = _ := hd 10 (by kernel_rfl)
         have hu2 := zEt (Ext.drew wr) hu
         have q0 := ext_cell hu2 ca
         go_simp
         exact zEr
       · have e7 : f1 7 = _ := hd 7 (by kernel_rfl)
         go_simp
         exact zEr
       · have e7 : f1 7 = _ := hd 7 (by kernel_rfl)
         go_simp
         exact zEr
       · have e7 : f1 7 = _ := hd 7 (by kernel_rfl)
         have e12 : f1 12 = _ := hd 12 (by kernel_rfl)
         have e13 : f1 13 = _ := hd 13 (by kernel_rfl)
         go_simp
         exact zEr
       · have e7 : f1 7 = _ := hd 7 (by kernel_rfl)
         have e14 : f1 14 = _ := hd 14 (by kernel_rfl)
         have hu2 := zEt (Ext.drew wr) hu
         have q0 := ext_cell hu2 cb
         go_simp
         exact zEr
       · have e7 : f1 7 = _ := hd 7 (by kernel_rfl)
         have e11 : f1 11 = _ := hd 11 (by kernel_rfl)
         have e15 : f1 15 = _ := hd 15 (by kernel_rfl)
         go_simp
         exact zEr
       · have e7 : f1 7 = _ := hd 7 (by kernel_rfl)
         have e16 : f1 16 = _ := hd 16 (by kernel_rfl)
         go_simp
         exact zEr
  · have d1 : decide ((n : Int) < m) = false := by rw [decide_eq_false_iff_not, hm]; omega
    have HM := zHd hm
    have HLT := zHd hlt
    have HN := zHd (And.intro hn1 hn2)
    clear hm hlt hn1 hn2
    go_upto_region 2 with (fail)
    refine flow (by kernel_rfl) [Is (.int .i64 (n : Int)), Is (.slice A a.length c), Is (.int .i64 (a.length : Int)), Is (.slice B b.length c2), Is (.int .i64 (b.length : Int)), Is (.int .i64 m), Is (.bool false), Is (.bool false), Is undef, Is undef, Is undef, Is undef, Is undef, Is undef, Is undef, Is undef, Is undef, Is (.bool false)] (by kernel_rfl) (by kernel_rfl) ?mono (fun f1 => ?obl) ?fin
    case mono =>
     simp only [List.forall_mem_cons, List.not_mem_nil, false_imp_iff, implies_true, and_true]
     and_intros <;> exact .is _
    case fin =>
     intro g1 u hu hg
     simp only [puts, Act.put, zq]
     have hxu := zEt (Ext.drew wr) hu
     have HXU : Hid (Ext w u) := zEt HX.out hxu
     have e17 : g1 17 = _ := hg 17 (by decide)
     rw [e17]
     clear hxu hu hg e17
     go_wp2_with fail
     go_ret
     have hs : shr a b = n := shr_is HN.out.1 HN.out.2 HT.out (fun p q hp hq => by
      have h1 := (zLg.1 hp).1
      have h2 := (zLg.1 hq).1
      exact absurd ⟨h1, h2⟩ HLT.out)
     rw [hs]
     exact ⟨rfl, HXU.out⟩
    case obl =>
     refine ⟨fun u hu hd => ?_, fun u hu hd => ?_, fun u hu hd => ?_, fun u hu hd => ?_, fun u hu hd => ?_, fun u hu hd => ?_, fun u hu hd => ?_, fun u hu hd => ?_, fun u hu hd => ?_, fun u hu hd => ?_, fun u hu hd => ?_, fun u hu hd => ?_, fun u hu hd => ?_, fun u hu hd => ?_, fun u hu hd => ?_, fun u hu hd => ?_, fun u hu hd => ?_, fun u hu hd => ?_, trivial⟩
     all_goals try simp only [Act.put, zq]
     · go_simp
       exact zEr
     · go_simp
       exact zEr
     · have e1 : f1 1 = _ := hd 1 (by kernel_rfl)
       go_simp
       exact zEr
     · go_simp
       exact zEr
     · have e3 : f1 3 = _ := hd 3 (by kernel_rfl)
       go_simp
       exact zEr
     · have e2 : f1 2 = _ := hd 2 (by kernel_rfl)
       have e4 : f1 4 = _ := hd 4 (by kernel_rfl)
       rw [HM.out]
       go_simp
       exact zEr
     · have e0 : f1 0 = _ := hd 0 (by kernel_rfl)
       have e5 : f1 5 = _ := hd 5 (by kernel_rfl)
       go_simp
       exact zEr
     · have e6 : f1 6 = _ := hd 6 (by kernel_rfl)
       go_simp
       exact zEr
     · have e7 : f1 7 = _ := hd 7 (by kernel_rfl)
       go_simp
       rfl
     · have e7 : f1 7 = _ := hd 7 (by kernel_rfl)
       go_simp
       rfl
     · have e7 : f1 7 = _ := hd 7 (by kernel_rfl)
       go_simp
       rfl
     · have e7 : f1 7 = _ := hd 7 (by kernel_rfl)
       go_simp
       rfl
     · have e7 : f1 7 = _ := hd 7 (by kernel_rfl)
       go_simp
       rfl
     · have e7 : f1 7 = _ := hd 7 (by kernel_rfl)
       go_simp
       rfl
     · have e7 : f1 7 = _ := hd 7 (by kernel_rfl)
       go_simp
       rfl
     · have e7 : f1 7 = _ := hd 7 (by kernel_rfl)
       go_simp
       rfl
     · have e7 : f1 7 = _ := hd 7 (by kernel_rfl)
       go_simp
       rfl
     · have e7 : f1 7 = _ := hd 7 (by kernel_rfl)
       go_simp
       exact zEr
end Go.Proofs.YtkdidghfcfcpfaaGreat
