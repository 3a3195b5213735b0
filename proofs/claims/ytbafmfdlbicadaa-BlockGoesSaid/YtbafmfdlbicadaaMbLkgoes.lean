/- Lkgoes Pkgoes, joined. -/
import Derived.Test.YtbafmfdlbicadaaMb11
import Derived.Test.YtbafmfdlbicadaaMb14
import Derived.Test.YtbafmfdlbicadaaMb1

/- BlockGoes: the walk. -/
namespace Go.Proofs.Ytbafmfdlbicadaa.kgoes
open Go.ChangeShapes Go.WideShapes Go.ChangeAt Go.RowKit

/-- What ref.Read answers, in one shape. -/
theorem rd {w w1 : World} {b : List Nat} {x : Ending} (h : RReadBAns w b x w1) : ∃ (R : List (Ent × Hd)) (A RA : Option Addr) (c rn rc : Nat) (k : Int), Ext w w1 ∧ x = .returned (.tuple #[.slice A R.length c, .slice RA rn rc, .int .i64 k]) ∧ Es w1 0 w1.heap.size A R ∧ R.length ≤ c ∧ R.length ≤ 1024 ∧ (∀ p ∈ R, p.1.key.length ≤ 32) ∧
    (IsB b (R.map Prod.fst) ∨ (∀ L, ¬ IsB b L) ∧ R = []) := by
  obtain ⟨hx, (⟨R, A, RA, c, rc, his, rfl, hes, _, hcap⟩ | ⟨hno, rfl⟩)⟩ := h
  · refine ⟨R, A, RA, c, _, rc, 0, hx, rfl, hes.wide (Nat.zero_le _) (Nat.le_refl _), hcap, by have := his.1.2.1; rw [List.length_map] at this; exact this, fun p hp => (mayN_iff.1 (his.1.2.2.2 _ (List.mem_map_of_mem hp))).2.1, .inl his⟩
  · exact ⟨[], none, none, 0, 0, 0, 4, hx, rfl, ⟨Sl.nil _ _ _ _, fun p hp => by cases hp⟩, Nat.le_refl _, by simp, by simp, .inr ⟨hno, rfl⟩⟩
/-- What From tells, and what is asked. -/
theorem fit {b key : List Nat} {S R : List (Ent × Hd)} (hs : (∃ L, IsB b L ∧ S.map Prod.fst = L.drop (cutOf (belowK key) L)) ∨ ((∀ L, ¬ IsB b L) ∧ S = [])) (hr : IsB b (R.map Prod.fst) ∨ (∀ L, ¬ IsB b L) ∧ R = []) :
    S.map Prod.fst = (R.drop (cutOf (belowK key) (R.map Prod.fst))).map Prod.fst := by
  rcases hs with ⟨L, hL, hs⟩ | ⟨hno, rfl⟩ <;> rcases hr with hr | ⟨hno', rfl⟩
  · obtain rfl := hL.unique hr
    rw [hs, List.map_drop]
  · exact absurd hL (hno' _)
  · exact absurd hr (hno _)
  · simp
/-- goes over what From answers. -/
theorem goes_over {w : World} {bd c d : Nat} {X Y : Option Addr} {S M : List (Ent × Hd)} {most : Int} (hb : Boxed w bd 26 (.slice X S.length c)) (hE : Es w 0 w.heap.size X S) (hl : S.length ≤ 1024) (hin : ∀ p ∈ S, InE p.1)
    (hM : Es w 0 w.heap.size Y M) (hm : M.length ≤ 1000000) (hf : S.map Prod.fst = M.map Prod.fst) :
    Calls Try.prog 28 #[.func (.func 48) #[] #[.pointer (some ⟨bd, 0, none⟩)], .slice Y M.length d, .int .i64 most] w fun e w' => e = .returned (.bool true) ∧ Below w.heap.size w w' := by
  have hit := from_iter hb hE hl hin
  have hts : (tws S).length = S.length := by simp [tws]
  rw [← hts] at hit
  exact goes_any hit (fun A hA k hk => hA.block k hk) (fun t ht => by obtain ⟨p, hp, rfl⟩ := List.mem_map.1 ht; exact hin p hp) hM (Nat.le_refl _) (by omega) (by rw [tws_e]; exact hf)

set_option maxRecDepth 100000 in
set_option maxHeartbeats 8000000 in
theorem walk (W : World) (v : Value) (b : List Nat) (bb : ∀ x ∈ b, x < 256) (hb : Bs W 0 W.heap.size v b) (v2 : Value) (key : List Nat) (bk : ∀ x ∈ key, x < 256) (hk : Bs W 0 W.heap.size v2 key) (s : Int) (_hs : (Lit.int .i64 s).wf = true) :
    Calls Try.prog 7 #[v, v2, .int .i64 s] W fun e w' => e = .returned (.bool true) ∧ Below W.heap.size W w' := by
  have HA := Lib.hid hb
  have HB := Lib.hid hk
  have HBY := Lib.hid (And.intro bb bk)
  obtain ⟨A, c, rfl, _, _, _, _⟩ := hb
  obtain ⟨A2, c2, rfl, _, _, _, _⟩ := hk
  clear bb bk _hs
  go_enter Try.func7, Try.ntmps7
  by_cases h1 : 100000 < b.length
  · have d : decide ((100000 : Int) < (b.length : Int)) = true := decide_eq_true (by omega)
    have dn : decide (100000 < b.length) = true := decide_eq_true h1
    clear h1
    go_wp2_with fail
    refine (known_any W).mono ?_
    rintro x w3 ⟨rfl, hx3⟩
    have HX3 := Lib.hid hx3
    clear hx3
    go_wp2_with fail
    go_ret
    exact ⟨rfl, HX3.out⟩
  have d1 : decide ((100000 : Int) < (b.length : Int)) = false := decide_eq_false (by omega)
  have d1n : decide (100000 < b.length) = false := decide_eq_false h1
  by_cases h2 : 9000 < key.length
  · have d : decide ((9000 : Int) < (key.length : Int)) = true := decide_eq_true (by omega)
    have dn : decide (9000 < key.length) = true := decide_eq_true h2
    clear h1 h2
    go_wp2_with fail
    refine (known_any W).mono ?_
    rintro x w3 ⟨rfl, hx3⟩
    have HX3 := Lib.hid hx3
    clear hx3
    go_wp2_with fail
    go_ret
    exact ⟨rfl, HX3.out⟩
  have d2 : decide ((9000 : Int) < (key.length : Int)) = false := decide_eq_false (by omega)
  have d2n : decide (9000 < key.length) = false := decide_eq_false h2
  have HL : Hid (b.length ≤ 100000 ∧ key.length ≤ 9000) := by unfold Hid; omega
  clear h1 h2
  go_wp2_with fail
  refine (rread_any HA.out (Nat.le_refl _) HBY.out.1 (by have := HL.out; omega)).mono ?_
  intro x w2 hrd
  obtain ⟨R, RA0, RA1, cR, rn, rc, k, hx2, rfl, hes, hcap, hfew, hkl, hor⟩ := rd hrd
  have HX2 := Lib.hid hx2
  have HES := Lib.hid hes
  have HCP := Lib.hid (And.intro hcap (And.intro hfew hkl))
  have HOR := Lib.hid hor
  clear hrd hx2 hes hcap hfew hkl hor
  go_wp2_with fail
  refine (rfrom_any HES.out (Nat.le_refl _) HCP.out.1 (by have := HCP.out.2.1; omega) (fun p hp => by have := HCP.out.2.2 p hp; omega) (HB.out.below HX2.out (Nat.le_refl _)) HX2.out.size HBY.out.2 (by have := HL.out; omega)).mono ?_
  rintro x w3 ⟨Y, d, rfl, hesM, hx3⟩
  obtain ⟨M, hM⟩ : ∃ M, M = R.drop (cutOf (belowK key) (R.map Prod.fst)) := ⟨_, rfl⟩
  rw [← hM] at hesM ⊢
  have HM := Lib.hid hM
  have HML : Hid (M.length ≤ 1024) := by have := HCP.out.2.1; rw [hM]; unfold Hid; rw [List.length_drop]; omega
  have HX3 : Hid (Ext W w3) := Ext.trans HX2.out hx3
  have HM3 : Hid (Es w3 0 w3.heap.size Y M) := (hesM.below hx3 (Nat.le_refl _)).wide (Nat.le_refl _) hx3.size
  clear hesM hM hx3
  go_wp2_with fail
  refine (bfrom_any (HA.out.below HX3.out (Nat.le_refl _)) HX3.out.size HBY.out.1 (by have := HL.out; omega) (HB.out.below HX3.out (Nat.le_refl _)) HX3.out.size HBY.out.2).mono ?_
  rintro x w4 ⟨hx4, bd, X, cS, S, rfl, hbx, hesS, hlS, hinS, horS⟩
  have HX34 := Lib.hid hx4
  have HM4 : Hid (Es w4 0 w4.heap.size Y M) := (HM3.out.below hx4 (Nat.le_refl _)).wide (Nat.le_refl _) hx4.size
  have HG := Lib.hid (goes_over (d := d) (most := s) hbx hesS hlS hinS HM4.out (by have := HML.out; omega) (by rw [HM.out]; exact fit horS HOR.out))
  clear hx4 hbx hesS hlS hinS horS
  go_wp2_with fail
  refine HG.out.mono ?_
  rintro x w5 ⟨rfl, hx5⟩
  have HX35 : Hid (Ext w3 w5) := Ext.trans HX34.out hx5
  have HX5 : Hid (Ext W w5) := Ext.trans HX3.out HX35.out
  clear hx5 HG
  go_wp2_with fail
  refine (bfrom_any (HA.out.below HX5.out (Nat.le_refl _)) HX5.out.size HBY.out.1 (by have := HL.out; omega) (HB.out.below HX5.out (Nat.le_refl _)) HX5.out.size HBY.out.2).mono ?_
  rintro x w6 ⟨hx6, bd2, X2, cS2, S2, rfl, hbx, hesS, hlS, hinS, horS⟩
  have HX36 : Hid (Ext w3 w6) := Ext.trans HX35.out hx6
  have HM6 : Hid (Es w6 0 w6.heap.size Y M) := (HM3.out.below HX36.out (Nat.le_refl _)).wide (Nat.le_refl _) HX36.out.size
  have HG := Lib.hid (goes_over (d := d) (most := 0) hbx hesS hlS hinS HM6.out (by have := HML.out; omega) (by rw [HM.out]; exact fit horS HOR.out))
  clear hx6 hbx hesS hlS hinS horS
  go_wp2_with fail
  refine HG.out.mono ?_
  rintro x w7 ⟨rfl, hx7⟩
  have HX7 : Hid (Ext W w7) := Ext.trans HX3.out (Ext.trans HX36.out hx7)
  clear hx7 HG
  go_wp2_with fail
  refine (known_any w7).mono ?_
  rintro x w8 ⟨rfl, hx8⟩
  have HX8 : Hid (Ext W w8) := Ext.trans HX7.out hx8
  clear hx8
  go_wp2_with fail
  go_ret
  exact ⟨rfl, HX8.out⟩
end Go.Proofs.Ytbafmfdlbicadaa.kgoes

/- BlockGoes: from the walk to the statement. For every input the law answers true and leaves its arguments as they were. -/
namespace Go.Proofs.Ytbafmfdlbicadaa.kgoes
open Go.ChangeShapes Go.WideShapes Go.ChangeAt Go.RowKit
set_option linter.unusedVariables false

set_option maxRecDepth 100000 in
theorem lifted (os : Os) (started : os.Started) (H : Type) (enc : TypeId × Value → H) :
    ReturnsInHanded {} Try.checked os 7 .any (Rows.blockGoesSpec.pre6 enc Try.prog Try.f7 Rows.blockGoesRow.domain false) (Rows.blockGoesSpec.post enc Try.prog Try.f7 false true false false) := by
  refine returnsInHanded_of_change (C := Try.checked) own started (by kernel_rfl) Try.func7
    (ChangeSpec.witness6 (enc := enc) (C := Try.checked) false ⟨#[], #[.slice none 0 0, .slice none 0 0, .int .i64 0], []⟩ 8 (by kernel_rfl) (by kernel_rfl) (by kernel_rfl) (by kernel_rfl)) ?_
  intro W base args ds gs before hval0 hW hcnd _
  have hval : ∀ (j : Nat) t v, Try.f7.params[j]? = some t → args[j]? = some v → Value.okWide Try.prog W .any base t v := hval0
  have hW' := hW
  obtain ⟨p, q, hA0, hV, rfl, hfz, hnd⟩ := hW
  have hA : DataW.TrodAll enc Try.prog W 0 (fun _ => true) true Try.f7.params.toList args.toList ds p := hA0
  rw [Try.params7] at hA hval
  obtain ⟨v0, vs0, d0, ds0, p0, q0, hargs, rfl, rfl, h0, r0⟩ := trodAll_cons hA
  obtain ⟨v1, vs1, d1, ds1, p1, q1, rfl, rfl, rfl, h1, r1⟩ := trodAll_cons r0
  obtain ⟨v2, vs2, d2, ds2, p2, q2, rfl, rfl, rfl, h2, r2⟩ := trodAll_cons r1
  obtain ⟨rfl, rfl, rfl⟩ := trodAll_nil r2
  obtain rfl : args = #[v0, v1, v2] := by cases args; simp_all
  obtain ⟨rfl, rfl⟩ := trodVars_none hV
  have k0 := h0
  have lt0 : ∀ x ∈ p0, x.block < W.heap.size := by obtain ⟨m, hm⟩ := k0; exact DataW.trod_lt m _ _ _ hm
  obtain ⟨l0, y0, b0⟩ := open_bytes (hval 0 22 v0 rfl rfl) h0
  have k1 := h1
  have lt1 : ∀ x ∈ p1, x.block < W.heap.size := by obtain ⟨m, hm⟩ := k1; exact DataW.trod_lt m _ _ _ hm
  obtain ⟨l1, y1, b1⟩ := open_bytes (hval 1 22 v1 rfl rfl) h1
  obtain ⟨a2, rfl, rfl, rfl, w2⟩ := open_int Try.underlying3 (hval 2 3 v2 rfl rfl) h2
  clear hA0 hval0
  refine (walk W v0 l0 y0 b0 v1 l1 y1 b1 a2 w2).mono fun e W' ⟨he, bel⟩ => ?_
  subst he
  exact ⟨_, rfl, _, _, _, [], _, [], hW', trodAll_mk1 (shut_bool Try.underlying4 _), (trodAll_cons_mk (Below.trod laidOut (by kernel_rfl) (of_decide_eq_true (by kernel_rfl)) k0 bel lt0) (trodAll_cons_mk (Below.trod laidOut (by kernel_rfl) (of_decide_eq_true (by kernel_rfl)) k1 bel lt1) (trodAll_cons_mk (shut_int Try.underlying3 w2) trodAll_mk0))), rfl, bel.frame _, fun h => by cases h⟩

theorem over : Rows.blockGoesRow.holds Try.pinned (OpenSpec.ofChange Rows.blockGoesSpec) :=
  OpenClaim.holds_of_wide 7 Try.f7 rfl rfl rfl rfl rfl rfl rfl ⟨rfl, rfl, rfl, rfl, rfl⟩ rfl rfl rfl rfl rfl (by kernel_rfl) Try.func7 (by kernel_rfl)
    (of_decide_eq_true (by kernel_rfl)) (by unfold Func.isWrapper; first | (rw [if_pos (by decide +kernel)]; kernel_rfl) | (rw [if_neg (by decide +kernel)]; exact ⟨rfl, rfl⟩))
    (fun os started H enc _ => lifted os started H enc)

theorem proved : Rows.BlockGoesSaid := over
end Go.Proofs.Ytbafmfdlbicadaa.kgoes
