/- DiskWorks: from the walk to the statement. For every input the law answers true and leaves its arguments as they were. -/
import Derived.Test.YtenhfphgobalfaaMa11
import Derived.Test.YtenhfphgobalfaaMa10

/- DiskWorks: whatever is done, a disk has the files that the reference's has. -/
namespace Go.Proofs.Ytenhfphgobalfaa
open Go.RowKit Go.Maps
attribute [local go_sem] Oper.semAt_some

theorem i64_range {x : Int} (hx : (Lit.int .i64 x).wf = true) : -9223372036854775808 ≤ x ∧ x ≤ 9223372036854775807 := by simpa [Lit.wf, IntKind.min, IntKind.max, IntKind.signed, IntKind.bits] using hx

set_option maxRecDepth 100000 in
set_option maxHeartbeats 16000000 in
theorem dworks_walk (w : World) (a0 : Int) (h0 : (Lit.int .i64 a0).wf = true) (A : Option Addr) (c : Nat) (X : List Stp) (hs : StpsI w A X) :
    Calls Try.prog 3 #[.int .i64 a0, .slice A X.length c] w fun e w' => e = .returned (.bool true) ∧ Ext w w' := by
  have b0 := i64_range h0
  have HB0 := Lib.hid b0
  have HSI := Lib.hid hs
  have HMU := Lib.hid (dmuch_any (c := c) hs 60 (by decide))
  obtain ⟨N, hN⟩ : ∃ N, N = X.length := ⟨_, rfl⟩
  have HN := Lib.hid hN
  rw [← hN] at HMU ⊢
  clear b0 h0 hs hN
  go_enter Try.func3, Try.ntmps3
  go_wp2_with fail
  refine HMU.out.mono ?_
  rintro e w1 ⟨z, hz, rfl, hx1⟩
  have HZ := Lib.hid hz
  have HX1 : Hid (Ext w w1) := hx1
  clear hz hx1 HMU
  cases z with
  | true =>
    go_wp2_with fail
    refine (known_any w1).mono ?_
    rintro e w2 ⟨rfl, hb⟩
    have HE : Hid (Ext w w2) := Ext.trans HX1.out hb
    clear hb
    go_wp2_with fail
    go_ret
    exact ⟨rfl, HE.out⟩
  | false =>
    have hnm := HZ.out rfl
    have HDL : Hid (∀ x ∈ X, x.dat.length ≤ 300000) := fun x hx => (hnm.2 x hx).1
    have HST : Hid (Stps w A X) := HSI.out.stps fun x hx => (hnm.2 x hx).2
    have hNI : (N : Int) ≤ 60 := by have h1 := hnm.1; rw [← HN.out] at h1; omega
    clear hnm HZ
    by_cases hbad : a0 < 1024 ∨ 1048576 < a0
    · have HNN := Lib.hid (new_no HB0.out.1 HB0.out.2 hbad w1)
      have HRN := Lib.hid (newRef_no a0 w1 HB0.out hbad)
      clear hbad
      go_wp2_with fail
      refine HNN.out.mono ?_
      rintro e w2 ⟨rfl, hw⟩
      subst hw
      go_wp2_with fail
      refine HRN.out.mono ?_
      rintro e w2 ⟨rfl, hw⟩
      subst hw
      go_wp2_with fail
      refine (num_any _ _).mono ?_
      rintro e w2 ⟨rfl, hw⟩
      subst hw
      go_wp2_with fail
      refine (known_any w1).mono ?_
      rintro e w2 ⟨rfl, hb⟩
      have HE : Hid (Ext w w2) := Ext.trans HX1.out hb
      clear hb
      go_wp2_with fail
      go_ret
      exact ⟨rfl, HE.out⟩
    · obtain ⟨room, rfl⟩ : ∃ r : Nat, a0 = (r : Int) := ⟨a0.toNat, by omega⟩
      have h1 : 1024 ≤ room := by omega
      have h2 : room ≤ 1048576 := by omega
      have hri : (room : Int) ≤ 1048576 := by omega
      have HNY := Lib.hid (new_yes h1 h2 w1)
      have HRY := Lib.hid (fun u => newRef_yes room u ⟨h1, h2⟩)
      clear hbad h1 h2
      go_wp2_with fail
      refine HNY.out.mono ?_
      rintro e w2 ⟨d, rfl, hdd, hb⟩
      have HD := Lib.hid hdd
      have HX2 : Hid (Ext w1 w2) := hb
      clear hdd hb
      go_wp2_with fail
      refine (HRY.out w2).mono ?_
      rintro e w3 ⟨r, rfl, hr, hx3⟩
      have HBO : Hid (Bo w1 d r room [] [] [] (fun _ => True) w3) := Bo.new HD.out HX2.out hr hx3
      clear hr hx3 HD HX2
      have HH := Lib.hid (has_bo HBO.out (Wnt.nil w3) Tie.nil (show [] = snames [] by simp [snames]) (x := (room : Int)) rfl)
      go_wp2_with fail
      refine (num_any _ _).mono ?_
      rintro e w2' ⟨rfl, hw⟩
      subst hw
      go_wp2_with fail
      refine HH.out.mono ?_
      rintro e w4 ⟨rfl, hx4⟩
      have HBO4 := Lib.hid (HBO.out.ext hx4)
      clear hx4 HBO HH
      go_wp2_with fail
      go_loopw [5, 7, 8, 9, 10, 11] (fun dv rv i _ _ _ wr => ∃ (k d r : Nat) (F : List Fl) (G : List RFl), k ≤ N ∧ i = .int .i64 (k : Int) ∧ dv = .pointer (some ⟨d, 0, none⟩) ∧ rv = .pointer (some ⟨r, 0, none⟩) ∧ Hid (Bo w1 d r room F G [] (fun _ => True) wr)) (fun _ _ i _ _ _ _ => N - (intOf i).toNat)
      case atStart => exact ⟨0, d, r, [], [], Nat.zero_le _, rfl, rfl, rfl, HBO4⟩
      case round =>
        clear HBO4
        obtain ⟨k, d, r, F, G, hk, rfl, rfl, rfl, HB⟩ := hrel
        by_cases hlt : k < N
        · have e1 : decide ((k : Int) < (N : Int)) = true := decide_eq_true (by omega)
          have e1n : decide (k < N) = true := decide_eq_true hlt
          have hkX : k < X.length := by rw [← HN.out]; exact hlt
          obtain ⟨x, hx⟩ : ∃ x, x = X[k]'hkX := ⟨_, rfl⟩
          have hxm : x ∈ X := by rw [hx]; exact List.getElem_mem hkX
          obtain ⟨b, oo, rfl, hbl, hcells⟩ := HST.out.at_ k hkX
          rw [← hx] at hcells
          have hXw := Ext.trans HX1.out HB.out.base
          have c0 : wr.cell? ⟨b, oo + k * 5, none⟩ = some (.int .i64 x.kind) := ext_cell hXw (hcells 0 _ rfl)
          have c1 := ext_cell hXw (hcells 1 _ rfl)
          have c2 := ext_cell hXw (hcells 2 _ rfl)
          have c3 := ext_cell hXw (hcells 3 _ rfl)
          have c4 := ext_cell hXw (hcells 4 _ rfl)
          have n1 : (0 : Int) ≤ (k : Int) := by omega
          have n2 : (k : Int) < (N : Int) := by omega
          have HDO := Lib.hid (do_at HB.out (Stab.true r) ((HST.out.each x hxm).ext HX1.out) (HDL.out x hxm))
          have HLT := Lib.hid hlt
          clear hkX hx hxm hbl hcells hlt hk hXw
          go_wp2_with fail
          refine HDO.out.mono ?_
          rintro e w5 ⟨d', r', G', rfl, hbo, _⟩
          have HB3 := Lib.hid hbo
          clear hbo c0 c1 c2 c3 c4
          go_wp2_with fail
          refine (files_bo HB3.out).mono ?_
          rintro e w6 ⟨v, R, rfl, hw, ht, hsn, _, hx6⟩
          have HB6 := Lib.hid (HB3.out.ext hx6)
          have HH := Lib.hid (has_bo HB6.out hw ht hsn (x := (room : Int)) rfl)
          clear hw ht hsn hx6 HB3
          go_wp2_with fail
          refine HH.out.mono ?_
          rintro e w7 ⟨rfl, hx7⟩
          have HB7 := Lib.hid (HB6.out.ext hx7)
          clear hx7 HB6 HH
          go_wp2_with fail
          go_roundw
          case rel => exact ⟨k + 1, d', r', _, G', by have := HLT.out; omega, by go_num, rfl, rfl, HB7⟩
          case measure => have := HLT.out; simp [intOf]; omega
        · have e1 : decide ((k : Int) < (N : Int)) = false := decide_eq_false (by omega)
          have e1n : decide (k < N) = false := decide_eq_false hlt
          go_wp2_with fail
          refine (known_any wr).mono ?_
          rintro e w5 ⟨rfl, hb⟩
          have HE : Hid (Ext w w5) := Ext.trans (Ext.trans HX1.out HB.out.base) hb
          clear hb
          go_wp2_with fail
          go_ret
          exact ⟨rfl, HE.out⟩
end Go.Proofs.Ytenhfphgobalfaa

/- DiskWorks: from the walk to the statement. For every input the law answers true and leaves its arguments as they were. -/
namespace Go.Proofs.Ytenhfphgobalfaa.diskWorks
open Go.ChangeShapes Go.WideShapes Go.ChangeAt Go.RowKit
set_option linter.unusedVariables false

set_option maxRecDepth 100000 in
theorem lifted (os : Os) (started : os.Started) (H : Type) (enc : TypeId × Value → H) :
    ReturnsInHanded {} Try.checked os 3 .any (Rows.diskWorksSpec.pre6 enc Try.prog Try.f3 Rows.diskWorksRow.domain false) (Rows.diskWorksSpec.post enc Try.prog Try.f3 false true false false) := by
  refine returnsInHanded_of_change (C := Try.checked) own started (by kernel_rfl) Try.func3
    (ChangeSpec.witness6 (enc := enc) (C := Try.checked) false ⟨#[], #[.int .i64 0, .slice none 0 0], []⟩ 8 (by kernel_rfl) (by kernel_rfl) (by kernel_rfl) (by kernel_rfl)) ?_
  intro W base args ds gs before hval0 hW hcnd _
  have hval : ∀ (j : Nat) t v, Try.f3.params[j]? = some t → args[j]? = some v → Value.okWide Try.prog W .any base t v := hval0
  have hW' := hW
  obtain ⟨p, q, hA0, hV, rfl, hfz, hnd⟩ := hW
  have hA : DataW.TrodAll enc Try.prog W 0 (fun _ => true) true Try.f3.params.toList args.toList ds p := hA0
  rw [Try.params3] at hA hval
  obtain ⟨v0, vs0, d0, ds0, p0, q0, hargs, rfl, rfl, h0, r0⟩ := trodAll_cons hA
  obtain ⟨v1, vs1, d1, ds1, p1, q1, rfl, rfl, rfl, h1, r1⟩ := trodAll_cons r0
  obtain ⟨rfl, rfl, rfl⟩ := trodAll_nil r1
  obtain rfl : args = #[v0, v1] := by cases args; simp_all
  obtain ⟨rfl, rfl⟩ := trodVars_none hV
  obtain ⟨a0, rfl, rfl, rfl, w0⟩ := open_int Try.underlying3 (hval 0 3 v0 rfl rfl) h0
  have k1 := h1
  have lt1 : ∀ x ∈ p1, x.block < W.heap.size := by obtain ⟨m, hm⟩ := k1; exact DataW.trod_lt m _ _ _ hm
  obtain ⟨A1, c1, X1, rfl, s1⟩ := open_steps (hval 1 22 v1 rfl rfl) h1
  clear hA0 hval0
  refine (dworks_walk W a0 w0 A1 c1 X1 s1).mono fun e W' ⟨he, bel⟩ => ?_
  subst he
  exact ⟨_, rfl, _, _, _, [], _, [], hW', trodAll_mk1 (shut_bool Try.underlying4 _), (trodAll_cons_mk (shut_int Try.underlying3 w0) (trodAll_cons_mk (Below.trod laidOut (by kernel_rfl) (of_decide_eq_true (by kernel_rfl)) k1 bel lt1) trodAll_mk0)), rfl, bel.frame _, fun h => by cases h⟩

theorem over : Rows.diskWorksRow.holds Try.pinned (OpenSpec.ofChange Rows.diskWorksSpec) :=
  OpenClaim.holds_of_wide 3 Try.f3 rfl rfl rfl rfl rfl rfl rfl ⟨rfl, rfl, rfl, rfl, rfl⟩ rfl rfl rfl rfl rfl (by kernel_rfl) Try.func3 (by kernel_rfl)
    (of_decide_eq_true (by kernel_rfl)) (by unfold Func.isWrapper; first | (rw [if_pos (by decide +kernel)]; kernel_rfl) | (rw [if_neg (by decide +kernel)]; exact ⟨rfl, rfl⟩))
    (fun os started H enc _ => lifted os started H enc)

theorem proved : Rows.DiskWorksSaid := over
end Go.Proofs.Ytenhfphgobalfaa.diskWorks
