/- Lkgets Pkgets, joined. -/
import Derived.Test.YtbafmfdlbicadaaMb11
import Derived.Test.YtbafmfdlbicadaaMb14
import Derived.Test.YtbafmfdlbicadaaMb1

/- BlockGets: the walk. -/
namespace Go.Proofs.Ytbafmfdlbicadaa.kgets
open Go.ChangeShapes Go.WideShapes Go.ChangeAt Go.RowKit

/-- What Get answers, in one shape. -/
theorem both {w w1 : World} {b key : List Nat} {s : Int} {x : Ending} (h : BGetAns w b key s x w1) : ∃ (e : Ent) (g : Hd) (k : Int), Ext w w1 ∧ x = .returned (.tuple #[e.at_ g, .int .i64 k]) ∧ Em w1 0 w1.heap.size e g ∧
    ((∀ L, ¬ IsB b L) ∧ e = ⟨[], 0, 0, []⟩ ∧ k = 4 ∨ ∃ L, IsB b L ∧ match L.find? (seenE key s) with
      | some e' => e = e' ∧ k = 0
      | none => e = ⟨[], 0, 0, []⟩ ∧ k = 6) := by
  obtain ⟨hx, (⟨hno, rfl⟩ | ⟨L, hL, hm⟩)⟩ := h
  · exact ⟨⟨[], 0, 0, []⟩, ⟨none, 0, none, 0⟩, 4, hx, rfl, ⟨Bs.nil _ _ _, Bs.nil _ _ _, by simp, by simp, by decide, by decide, by decide, by decide⟩, .inl ⟨hno, rfl, rfl⟩⟩
  · cases hf : L.find? (seenE key s) with
    | none =>
      rw [hf] at hm
      obtain rfl := hm
      exact ⟨⟨[], 0, 0, []⟩, ⟨none, 0, none, 0⟩, 6, hx, rfl, ⟨Bs.nil _ _ _, Bs.nil _ _ _, by simp, by simp, by decide, by decide, by decide, by decide⟩, .inr ⟨L, hL, by rw [hf]; exact ⟨rfl, rfl⟩⟩⟩
    | some e =>
      rw [hf] at hm
      obtain ⟨g, rfl, hem⟩ := hm
      exact ⟨e, g, 0, hx, rfl, hem, .inr ⟨L, hL, by rw [hf]; exact ⟨rfl, rfl⟩⟩⟩
/-- The two agree. -/
theorem agree {b key : List Nat} {s : Int} {e e' : Ent} {k k' : Int}
    (h : (∀ L, ¬ IsB b L) ∧ e = ⟨[], 0, 0, []⟩ ∧ k = 4 ∨ ∃ L, IsB b L ∧ match L.find? (seenE key s) with
      | some e' => e = e' ∧ k = 0
      | none => e = ⟨[], 0, 0, []⟩ ∧ k = 6)
    (h' : (∀ L, ¬ IsB b L) ∧ e' = ⟨[], 0, 0, []⟩ ∧ k' = 4 ∨ ∃ L, IsB b L ∧ match L.find? (seenE key s) with
      | some e'' => e' = e'' ∧ k' = 0
      | none => e' = ⟨[], 0, 0, []⟩ ∧ k' = 6) : e = e' ∧ k = k' := by
  rcases h with ⟨hno, rfl, rfl⟩ | ⟨L, hL, hm⟩ <;> rcases h' with ⟨hno', rfl, rfl⟩ | ⟨L', hL', hm'⟩
  · exact ⟨rfl, rfl⟩
  · exact absurd hL' (hno _)
  · exact absurd hL (hno' _)
  · obtain rfl := hL.unique hL'
    cases hf : L.find? (seenE key s) with
    | none => rw [hf] at hm hm'; exact ⟨hm.1.trans hm'.1.symm, hm.2.trans hm'.2.symm⟩
    | some e => rw [hf] at hm hm'; exact ⟨hm.1.trans hm'.1.symm, hm.2.trans hm'.2.symm⟩

set_option maxRecDepth 100000 in
set_option maxHeartbeats 8000000 in
theorem walk (W : World) (v : Value) (b : List Nat) (bb : ∀ x ∈ b, x < 256) (hb : Bs W 0 W.heap.size v b) (v2 : Value) (key : List Nat) (bk : ∀ x ∈ key, x < 256) (hk : Bs W 0 W.heap.size v2 key) (s : Int) (hs : (Lit.int .i64 s).wf = true) :
    Calls Try.prog 6 #[v, v2, .int .i64 s] W fun e w' => e = .returned (.bool true) ∧ Below W.heap.size W w' := by
  have HA := Lib.hid hb
  have HB := Lib.hid hk
  have HBY := Lib.hid (And.intro bb bk)
  have HS := Lib.hid (i64_wf hs)
  obtain ⟨A, c, rfl, _, _, _, _⟩ := hb
  obtain ⟨A2, c2, rfl, _, _, _, _⟩ := hk
  clear bb bk hs
  go_enter Try.func6, Try.ntmps6
  by_cases h1 : 100000 < b.length
  · have d : decide ((100000 : Int) < (b.length : Int)) = true := decide_eq_true (by omega)
    have dn : decide (100000 < b.length) = true := decide_eq_true h1
    clear h1
    go_wp2_with fail
    refine (known_any W).mono ?_
    rintro x w3 ⟨rfl, hx3⟩
    have HX3 := Lib.hid hx3
    clear hx3
    go_wp2_with fail
    go_ret
    exact ⟨rfl, HX3.out⟩
  have d1 : decide ((100000 : Int) < (b.length : Int)) = false := decide_eq_false (by omega)
  have d1n : decide (100000 < b.length) = false := decide_eq_false h1
  by_cases h2 : 9000 < key.length
  · have d : decide ((9000 : Int) < (key.length : Int)) = true := decide_eq_true (by omega)
    have dn : decide (9000 < key.length) = true := decide_eq_true h2
    clear h1 h2
    go_wp2_with fail
    refine (known_any W).mono ?_
    rintro x w3 ⟨rfl, hx3⟩
    have HX3 := Lib.hid hx3
    clear hx3
    go_wp2_with fail
    go_ret
    exact ⟨rfl, HX3.out⟩
  have d2 : decide ((9000 : Int) < (key.length : Int)) = false := decide_eq_false (by omega)
  have d2n : decide (9000 < key.length) = false := decide_eq_false h2
  have HL : Hid (b.length ≤ 100000 ∧ key.length ≤ 9000) := by unfold Hid; omega
  clear h1 h2
  go_wp2_with fail
  refine (bget_any (s := s) HA.out (Nat.le_refl _) HBY.out.1 (by have := HL.out; omega) HB.out (Nat.le_refl _) HBY.out.2 HS.out.1 HS.out.2).mono ?_
  intro x w2 hg
  obtain ⟨e, g, k, hx2, rfl, hem, hans⟩ := both hg
  have HX2 := Lib.hid hx2
  have HEM := Lib.hid hem
  have HAN := Lib.hid hans
  clear hg hx2 hem hans
  unfold Ent.at_
  go_upto_region 4 with (fail)
  obtain ⟨w3, hw3⟩ : ∃ w3, w3 = w2.alloc (.cells #[.slice g.kA e.key.length g.kc, .int .i64 e.seq, .int .i64 e.kind, .slice g.vA e.val.length g.vc] 46) := ⟨_, rfl⟩
  rw [← hw3]
  have HX3 : Hid (Ext W w3) := by rw [hw3]; exact Ext.trans HX2.out (ext_alloc _ _)
  have HX23 : Hid (Ext w2 w3) := by rw [hw3]; exact ext_alloc _ _
  have HB3 : Hid (w3.heap[w2.heap.size]? = some (.cells #[.slice g.kA e.key.length g.kc, .int .i64 e.seq, .int .i64 e.kind, .slice g.vA e.val.length g.vc] 46 (0, 0))) := by rw [hw3]; exact heap_at _ _ rfl
  obtain ⟨b1, hb1⟩ : ∃ b1, b1 = w2.heap.size := ⟨_, rfl⟩
  rw [← hb1] at HB3 ⊢
  clear hw3 hb1
  go_wp2_with fail
  refine (rbget_any (s := s) (HA.out.below HX3.out (Nat.le_refl _)) HX3.out.size HBY.out.1 (by have := HL.out; omega) (HB.out.below HX3.out (Nat.le_refl _)) HX3.out.size HBY.out.2).mono ?_
  intro x w4 hg
  obtain ⟨e', g', k', hx4, rfl, hem, hans⟩ := both hg
  obtain ⟨he, hk⟩ := agree hans HAN.out
  subst he hk
  have HX4 := Lib.hid hx4
  have HEM' := Lib.hid hem
  clear hg hx4 hem hans
  unfold Ent.at_
  go_upto_region 5 with (fail)
  obtain ⟨w5, hw5⟩ : ∃ w5, w5 = w4.alloc (.cells #[.slice g'.kA e'.key.length g'.kc, .int .i64 e'.seq, .int .i64 e'.kind, .slice g'.vA e'.val.length g'.vc] 46) := ⟨_, rfl⟩
  rw [← hw5]
  have HX5 : Hid (Ext w3 w5) := by rw [hw5]; exact Ext.trans HX4.out (ext_alloc _ _)
  have HX45 : Hid (Ext w4 w5) := by rw [hw5]; exact ext_alloc _ _
  have HB5 : Hid (w5.heap[w4.heap.size]? = some (.cells #[.slice g'.kA e'.key.length g'.kc, .int .i64 e'.seq, .int .i64 e'.kind, .slice g'.vA e'.val.length g'.vc] 46 (0, 0))) := by rw [hw5]; exact heap_at _ _ rfl
  obtain ⟨b2, hb2⟩ : ∃ b2, b2 = w4.heap.size := ⟨_, rfl⟩
  rw [← hb2] at HB5 ⊢
  clear hw5 hb2
  have HBA := Lib.hid (ext_heap HX5.out HB3.out)
  have c0 := cell_of HBA.out (k := 0) rfl
  have c1 := cell_of HBA.out (k := 1) rfl
  have c2 := cell_of HBA.out (k := 2) rfl
  have c3 := cell_of HBA.out (k := 3) rfl
  have q0 := cell_of HB5.out (k := 0) rfl
  have q1 := cell_of HB5.out (k := 1) rfl
  have q2 := cell_of HB5.out (k := 2) rfl
  have q3 := cell_of HB5.out (k := 3) rfl
  have HSM := Lib.hid (rsame_any (w := w5) ((HEM.out.below (Ext.trans HX23.out HX5.out) (Nat.le_refl _)).wide (Nat.le_refl _) (Ext.trans HX23.out HX5.out).size) ((HEM'.out.below HX45.out (Nat.le_refl _)).wide (Nat.le_refl _) HX45.out.size) (Nat.le_refl _) (Nat.le_refl _))
  unfold Ent.at_ at HSM
  go_wp2_with fail
  refine HSM.out.mono ?_
  rintro x w6 ⟨z, hz, rfl, hx6⟩
  obtain rfl : z = true := hz.2 (by trivial)
  have HX6 : Hid (Ext W w6) := Ext.trans HX3.out (Ext.trans HX5.out hx6)
  clear hz hx6 c0 c1 c2 c3 q0 q1 q2 q3
  go_wp2_with fail
  refine (knum _ _).mono ?_
  rintro x _ ⟨rfl, rfl⟩
  have ek : (k' == k') = true := by simp
  go_wp2_with fail
  refine (known_any w6).mono ?_
  rintro x w7 ⟨rfl, hx7⟩
  have HX7 : Hid (Ext W w7) := Ext.trans HX6.out hx7
  clear hx7
  go_wp2_with fail
  go_ret
  exact ⟨rfl, HX7.out⟩
end Go.Proofs.Ytbafmfdlbicadaa.kgets

/- BlockGets: from the walk to the statement. For every input the law answers true and leaves its arguments as they were. -/
namespace Go.Proofs.Ytbafmfdlbicadaa.kgets
open Go.ChangeShapes Go.WideShapes Go.ChangeAt Go.RowKit
set_option linter.unusedVariables false

set_option maxRecDepth 100000 in
theorem lifted (os : Os) (started : os.Started) (H : Type) (enc : TypeId × Value → H) :
    ReturnsInHanded {} Try.checked os 6 .any (Rows.blockGetsSpec.pre6 enc Try.prog Try.f6 Rows.blockGetsRow.domain false) (Rows.blockGetsSpec.post enc Try.prog Try.f6 false true false false) := by
  refine returnsInHanded_of_change (C := Try.checked) own started (by kernel_rfl) Try.func6
    (ChangeSpec.witness6 (enc := enc) (C := Try.checked) false ⟨#[], #[.slice none 0 0, .slice none 0 0, .int .i64 0], []⟩ 8 (by kernel_rfl) (by kernel_rfl) (by kernel_rfl) (by kernel_rfl)) ?_
  intro W base args ds gs before hval0 hW hcnd _
  have hval : ∀ (j : Nat) t v, Try.f6.params[j]? = some t → args[j]? = some v → Value.okWide Try.prog W .any base t v := hval0
  have hW' := hW
  obtain ⟨p, q, hA0, hV, rfl, hfz, hnd⟩ := hW
  have hA : DataW.TrodAll enc Try.prog W 0 (fun _ => true) true Try.f6.params.toList args.toList ds p := hA0
  rw [Try.params6] at hA hval
  obtain ⟨v0, vs0, d0, ds0, p0, q0, hargs, rfl, rfl, h0, r0⟩ := trodAll_cons hA
  obtain ⟨v1, vs1, d1, ds1, p1, q1, rfl, rfl, rfl, h1, r1⟩ := trodAll_cons r0
  obtain ⟨v2, vs2, d2, ds2, p2, q2, rfl, rfl, rfl, h2, r2⟩ := trodAll_cons r1
  obtain ⟨rfl, rfl, rfl⟩ := trodAll_nil r2
  obtain rfl : args = #[v0, v1, v2] := by cases args; simp_all
  obtain ⟨rfl, rfl⟩ := trodVars_none hV
  have k0 := h0
  have lt0 : ∀ x ∈ p0, x.block < W.heap.size := by obtain ⟨m, hm⟩ := k0; exact DataW.trod_lt m _ _ _ hm
  obtain ⟨l0, y0, b0⟩ := open_bytes (hval 0 22 v0 rfl rfl) h0
  have k1 := h1
  have lt1 : ∀ x ∈ p1, x.block < W.heap.size := by obtain ⟨m, hm⟩ := k1; exact DataW.trod_lt m _ _ _ hm
  obtain ⟨l1, y1, b1⟩ := open_bytes (hval 1 22 v1 rfl rfl) h1
  obtain ⟨a2, rfl, rfl, rfl, w2⟩ := open_int Try.underlying2 (hval 2 2 v2 rfl rfl) h2
  clear hA0 hval0
  refine (walk W v0 l0 y0 b0 v1 l1 y1 b1 a2 w2).mono fun e W' ⟨he, bel⟩ => ?_
  subst he
  exact ⟨_, rfl, _, _, _, [], _, [], hW', trodAll_mk1 (shut_bool Try.underlying4 _), (trodAll_cons_mk (Below.trod laidOut (by kernel_rfl) (of_decide_eq_true (by kernel_rfl)) k0 bel lt0) (trodAll_cons_mk (Below.trod laidOut (by kernel_rfl) (of_decide_eq_true (by kernel_rfl)) k1 bel lt1) (trodAll_cons_mk (shut_int Try.underlying2 w2) trodAll_mk0))), rfl, bel.frame _, fun h => by cases h⟩

theorem over : Rows.blockGetsRow.holds Try.pinned (OpenSpec.ofChange Rows.blockGetsSpec) :=
  OpenClaim.holds_of_wide 6 Try.f6 rfl rfl rfl rfl rfl rfl rfl ⟨rfl, rfl, rfl, rfl, rfl⟩ rfl rfl rfl rfl rfl (by kernel_rfl) Try.func6 (by kernel_rfl)
    (of_decide_eq_true (by kernel_rfl)) (by unfold Func.isWrapper; first | (rw [if_pos (by decide +kernel)]; kernel_rfl) | (rw [if_neg (by decide +kernel)]; exact ⟨rfl, rfl⟩))
    (fun os started H enc _ => lifted os started H enc)

theorem proved : Rows.BlockGetsSaid := over
end Go.Proofs.Ytbafmfdlbicadaa.kgets
