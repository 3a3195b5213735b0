/- DiskMoves: from the walk to the statement. For every input the law answers true and leaves its arguments as they were. -/
import Derived.Test.YtenhfphgobalfaaMa12
import Derived.Test.YtenhfphgobalfaaMa10
import Derived.ChangeMaps5

/- DiskMoves: a file that is given another name. -/
namespace Go.Proofs.Ytenhfphgobalfaa
open Go.RowKit Go.Maps
attribute [local go_sem] Oper.semAt_some

theorem rseek_three (G : List RFl) (n : List UInt8) : (rseekN G n = 2 ∧ good n = false) ∨ (rseekN G n = 6 ∧ good n = true ∧ noName G n) ∨ (rseekN G n = 0 ∧ good n = true ∧ isIn G n = true) := by
  unfold rseekN
  cases hg : good n with
  | false => exact .inl ⟨rfl, rfl⟩
  | true =>
    cases hi : isIn G n with
    | false => exact .inr (.inl ⟨rfl, rfl, isIn_none hi⟩)
    | true => exact .inr (.inr ⟨rfl, rfl, rfl⟩)
theorem data_eq {a b : ByteArray} (h : a.data.toList = b.data.toList) : a = b := by
  apply ByteArray.ext
  exact Array.toList_inj.1 h
theorem data_beq {a b : ByteArray} (h : a.data.toList ≠ b.data.toList) : (a.toList == b.toList) = false := by
  rw [ByteArray.toList_eq, ByteArray.toList_eq]
  simpa using h

set_option maxRecDepth 100000 in
set_option maxHeartbeats 32000000 in
theorem dmoves_walk (w : World) (a0 : Int) (h0 : (Lit.int .i64 a0).wf = true) (A : Option Addr) (c : Nat) (X : List Stp) (hs : StpsI w A X) (a : ByteArray) (ha : a.size ≤ maxLen) (b : ByteArray) (hb : b.size ≤ maxLen) :
    Calls Try.prog 6 #[.int .i64 a0, .slice A X.length c, .string a, .string b] w fun e w' => e = .returned (.bool true) ∧ Ext w w' := by
  have HB0 : Hid (-9223372036854775808 ≤ a0 ∧ a0 ≤ 9223372036854775807) := by simpa [Hid, Lit.wf, IntKind.min, IntKind.max, IntKind.signed, IntKind.bits] using h0
  have HSI := Lib.hid hs
  have HMU := Lib.hid (dmuch_any (c := c) hs 30 (by decide))
  have HA := Lib.hid ha
  have HBB := Lib.hid hb
  obtain ⟨N, hN⟩ : ∃ N, N = X.length := ⟨_, rfl⟩
  have HN := Lib.hid hN
  rw [← hN] at HMU ⊢
  obtain ⟨la, hla⟩ : ∃ z, z = decide ((1000 : Int) < (a.size : Int)) := ⟨_, rfl⟩
  obtain ⟨lb, hlb⟩ : ∃ z, z = decide ((1000 : Int) < (b.size : Int)) := ⟨_, rfl⟩
  have hlan : decide (1000 < a.size) = la := by rw [hla]; exact decide_eq_decide.2 (by omega)
  have hlbn : decide (1000 < b.size) = lb := by rw [hlb]; exact decide_eq_decide.2 (by omega)
  replace hla := hla.symm
  replace hlb := hlb.symm
  clear h0 hs hN ha hb
  go_enter Try.func6, Try.ntmps6
  go_wp2_with fail
  refine HMU.out.mono ?_
  rintro e w1 ⟨z, hz, rfl, hx1⟩
  have HZ := Lib.hid hz
  have HX1 : Hid (Ext w w1) := hx1
  clear hz hx1 HMU
  cases z with
  | true =>
    go_wp2_with fail
    refine (known_any w1).mono ?_
    rintro e wk ⟨rfl, hbk⟩
    have HE : Hid (Ext w wk) := Ext.trans HX1.out hbk
    clear hbk
    go_wp2_with fail
    go_ret
    exact ⟨rfl, HE.out⟩
  | false =>
  cases la with
  | true =>
    go_wp2_with fail
    refine (known_any w1).mono ?_
    rintro e wk ⟨rfl, hbk⟩
    have HE : Hid (Ext w wk) := Ext.trans HX1.out hbk
    clear hbk
    go_wp2_with fail
    go_ret
    exact ⟨rfl, HE.out⟩
  | false =>
  cases lb with
  | true =>
    go_wp2_with fail
    refine (known_any w1).mono ?_
    rintro e wk ⟨rfl, hbk⟩
    have HE : Hid (Ext w wk) := Ext.trans HX1.out hbk
    clear hbk
    go_wp2_with fail
    go_ret
    exact ⟨rfl, HE.out⟩
  | false =>
    have hnm := HZ.out rfl
    have HDL : Hid (∀ x ∈ X, x.dat.length ≤ 300000) := fun x hx => (hnm.2 x hx).1
    have HST : Hid (Stps w1 A X) := (HSI.out.stps fun x hx => (hnm.2 x hx).2).ext HX1.out
    have HNL : Hid (X.length ≤ 1000) := Nat.le_trans hnm.1 (by decide)
    clear hnm HZ
    by_cases hbad : a0 < 1024 ∨ 1048576 < a0
    · have HMB := Lib.hid (made_bad (A := A) (N := N) (c := c) HB0.out.1 HB0.out.2 hbad w1)
      have HRN := Lib.hid (fun u => newRef_no a0 u HB0.out hbad)
      clear hbad
      go_wp2_with fail
      refine HMB.out.mono ?_
      rintro e w2 ⟨rfl, hx2⟩
      have HX2 : Hid (Ext w w2) := Ext.trans HX1.out hx2
      clear hx2
      go_wp2_with fail
      refine (HRN.out w2).mono ?_
      rintro e w3 ⟨rfl, hw⟩
      subst hw
      go_wp2_with fail
      refine (known_any w2).mono ?_
      rintro e wk ⟨rfl, hbk⟩
      have HE : Hid (Ext w wk) := Ext.trans HX2.out hbk
      clear hbk
      go_wp2_with fail
      go_ret
      exact ⟨rfl, HE.out⟩
    · obtain ⟨room, rfl⟩ : ∃ r : Nat, a0 = (r : Int) := ⟨a0.toNat, by omega⟩
      have h1 : 1024 ≤ room := by omega
      have h2 : room ≤ 1048576 := by omega
      have hri : (room : Int) ≤ 1048576 := by omega
      have HMD := Lib.hid (made_yes (c := c) HST.out HNL.out HDL.out h1 h2)
      rw [← HN.out] at HMD
      clear hbad h1 h2
      go_wp2_with fail
      refine HMD.out.mono ?_
      rintro e w2 ⟨d, r, F, G, rfl, hbo⟩
      have HBO := Lib.hid hbo
      have HX2 : Hid (Ext w w2) := Ext.trans HX1.out hbo.base
      clear hbo HMD
      have HS1 := Lib.hid (rseekN_any HBO.out.rd a HA.out)
      have HS2 := Lib.hid (seek_any HBO.out.rd b HBB.out)
      have HFI := Lib.hid (files_keep HBO.out)
      have HSK := Lib.hid (HBO.out.tie.seek a.data.toList)
      rcases rseek_three G a.data.toList with ⟨hx1, hga⟩ | ⟨hx1, hga, hna⟩ | ⟨hx1, hga, hia⟩
      · rw [hx1] at HS1 HSK
        have HGA := Lib.hid hga
        clear hx1 hga
        go_wp2_with fail
        refine HS1.out.mono ?_
        rintro e w3 ⟨i, rfl, hw⟩
        subst hw
        go_wp2_with fail
        refine HS2.out.mono ?_
        rintro e w3 ⟨hw, hsk⟩
        subst hw
        rcases hsk with ⟨hgb, rfl⟩ | ⟨hgb, hnb, rfl⟩ | ⟨hgb, k, hk, hkn, _, rfl⟩
        · have HGB := Lib.hid hgb
          clear hgb
          go_wp2_with fail
          refine HFI.out.mono ?_
          rintro e w4 ⟨vA, vc, R, rfl, hb4, htR, hsd, _, hx4⟩
          have HB4 := Lib.hid hb4
          have HR := Lib.hid (And.intro htR hsd)
          have HX4 : Hid (Ext w w4) := Ext.trans HX2.out hx4
          clear hb4 htR hsd hx4
          go_wp2_with fail
          refine (rename_live HB4.out.live (s := a) (t := b) HA.out HBB.out (x := 2) ((seek2_bad (.inl HGA.out)).symm) (F' := F) rfl).mono ?_
          rintro e w5 ⟨rfl, hl5⟩
          have HL5 := Lib.hid hl5
          have HHA := Lib.hid (lives_has HL5.out HL5.out.here.2.2.2 HR.out.1 HR.out.2 (x := (room : Int)) rfl)
          clear hl5
          go_wp2_with fail
          refine (num_any _ _).mono ?_
          rintro e w6 ⟨rfl, hw⟩
          subst hw
          go_wp2_with fail
          refine HHA.out.mono ?_
          rintro e w6 ⟨rfl, hx6⟩
          have HX6 : Hid (Ext w w6) := Ext.trans HX1.out (HL5.out.ext hx6).here.2.1
          clear hx6 HHA
          go_wp2_with fail
          refine (known_any w6).mono ?_
          rintro e wk ⟨rfl, hbk⟩
          have HE : Hid (Ext w wk) := Ext.trans HX6.out hbk
          clear hbk
          go_wp2_with fail
          go_ret
          exact ⟨rfl, HE.out⟩
        · have HGB := Lib.hid hgb
          clear hgb hnb
          go_wp2_with fail
          refine HFI.out.mono ?_
          rintro e w4 ⟨vA, vc, R, rfl, hb4, htR, hsd, _, hx4⟩
          have HB4 := Lib.hid hb4
          have HR := Lib.hid (And.intro htR hsd)
          have HX4 : Hid (Ext w w4) := Ext.trans HX2.out hx4
          clear hb4 htR hsd hx4
          go_wp2_with fail
          refine (rename_live HB4.out.live (s := a) (t := b) HA.out HBB.out (x := 2) ((seek2_bad (.inl HGA.out)).symm) (F' := F) rfl).mono ?_
          rintro e w5 ⟨rfl, hl5⟩
          have HL5 := Lib.hid hl5
          have HHA := Lib.hid (lives_has HL5.out HL5.out.here.2.2.2 HR.out.1 HR.out.2 (x := (room : Int)) rfl)
          clear hl5
          go_wp2_with fail
          refine (num_any _ _).mono ?_
          rintro e w6 ⟨rfl, hw⟩
          subst hw
          go_wp2_with fail
          refine HHA.out.mono ?_
          rintro e w6 ⟨rfl, hx6⟩
          have HX6 : Hid (Ext w w6) := Ext.trans HX1.out (HL5.out.ext hx6).here.2.1
          clear hx6 HHA
          go_wp2_with fail
          refine (known_any w6).mono ?_
          rintro e wk ⟨rfl, hbk⟩
          have HE : Hid (Ext w wk) := Ext.trans HX6.out hbk
          clear hbk
          go_wp2_with fail
          go_ret
          exact ⟨rfl, HE.out⟩
        · have HGB := Lib.hid hgb
          clear hgb hk hkn
          go_wp2_with fail
          refine HFI.out.mono ?_
          rintro e w4 ⟨vA, vc, R, rfl, hb4, htR, hsd, _, hx4⟩
          have HB4 := Lib.hid hb4
          have HR := Lib.hid (And.intro htR hsd)
          have HX4 : Hid (Ext w w4) := Ext.trans HX2.out hx4
          clear hb4 htR hsd hx4
          go_wp2_with fail
          refine (rename_live HB4.out.live (s := a) (t := b) HA.out HBB.out (x := 2) ((seek2_bad (.inl HGA.out)).symm) (F' := F) rfl).mono ?_
          rintro e w5 ⟨rfl, hl5⟩
          have HL5 := Lib.hid hl5
          have HHA := Lib.hid (lives_has HL5.out HL5.out.here.2.2.2 HR.out.1 HR.out.2 (x := (room : Int)) rfl)
          clear hl5
          go_wp2_with fail
          refine (num_any _ _).mono ?_
          rintro e w6 ⟨rfl, hw⟩
          subst hw
          go_wp2_with fail
          refine HHA.out.mono ?_
          rintro e w6 ⟨rfl, hx6⟩
          have HX6 : Hid (Ext w w6) := Ext.trans HX1.out (HL5.out.ext hx6).here.2.1
          clear hx6 HHA
          go_wp2_with fail
          refine (known_any w6).mono ?_
          rintro e wk ⟨rfl, hbk⟩
          have HE : Hid (Ext w wk) := Ext.trans HX6.out hbk
          clear hbk
          go_wp2_with fail
          go_ret
          exact ⟨rfl, HE.out⟩
      · rw [hx1] at HS1 HSK
        have HGA := Lib.hid hga
        have HTA : Hid (there F a.data.toList = false) := by rw [HBO.out.tie.there]; exact isIn_no hna
        clear hx1 hga hna
        go_wp2_with fail
        refine HS1.out.mono ?_
        rintro e w3 ⟨i, rfl, hw⟩
        subst hw
        go_wp2_with fail
        refine HS2.out.mono ?_
        rintro e w3 ⟨hw, hsk⟩
        subst hw
        rcases hsk with ⟨hgb, rfl⟩ | ⟨hgb, hnb, rfl⟩ | ⟨hgb, k, hk, hkn, _, rfl⟩
        · have HGB := Lib.hid hgb
          clear hgb
          go_wp2_with fail
          refine HFI.out.mono ?_
          rintro e w4 ⟨vA, vc, R, rfl, hb4, htR, hsd, _, hx4⟩
          have HB4 := Lib.hid hb4
          have HR := Lib.hid (And.intro htR hsd)
          have HX4 : Hid (Ext w w4) := Ext.trans HX2.out hx4
          clear hb4 htR hsd hx4
          go_wp2_with fail
          refine (rename_live HB4.out.live (s := a) (t := b) HA.out HBB.out (x := 2) ((seek2_bad (.inr HGB.out)).symm) (F' := F) rfl).mono ?_
          rintro e w5 ⟨rfl, hl5⟩
          have HL5 := Lib.hid hl5
          have HHA := Lib.hid (lives_has HL5.out HL5.out.here.2.2.2 HR.out.1 HR.out.2 (x := (room : Int)) rfl)
          clear hl5
          go_wp2_with fail
          refine (num_any _ _).mono ?_
          rintro e w6 ⟨rfl, hw⟩
          subst hw
          go_wp2_with fail
          refine HHA.out.mono ?_
          rintro e w6 ⟨rfl, hx6⟩
          have HX6 : Hid (Ext w w6) := Ext.trans HX1.out (HL5.out.ext hx6).here.2.1
          clear hx6 HHA
          go_wp2_with fail
          refine (known_any w6).mono ?_
          rintro e wk ⟨rfl, hbk⟩
          have HE : Hid (Ext w wk) := Ext.trans HX6.out hbk
          clear hbk
          go_wp2_with fail
          go_ret
          exact ⟨rfl, HE.out⟩
        · have HGB := Lib.hid hgb
          clear hgb hnb
          go_wp2_with fail
          refine HFI.out.mono ?_
          rintro e w4 ⟨vA, vc, R, rfl, hb4, htR, hsd, _, hx4⟩
          have HB4 := Lib.hid hb4
          have HR := Lib.hid (And.intro htR hsd)
          have HX4 : Hid (Ext w w4) := Ext.trans HX2.out hx4
          clear hb4 htR hsd hx4
          go_wp2_with fail
          refine (rename_live HB4.out.live (s := a) (t := b) HA.out HBB.out (x := 6) (by rw [seek2_good HGA.out HGB.out, HTA.out]; rfl) (F' := F) rfl).mono ?_
          rintro e w5 ⟨rfl, hl5⟩
          have HL5 := Lib.hid hl5
          have HHA := Lib.hid (lives_has HL5.out HL5.out.here.2.2.2 HR.out.1 HR.out.2 (x := (room : Int)) rfl)
          clear hl5
          go_wp2_with fail
          refine (num_any _ _).mono ?_
          rintro e w6 ⟨rfl, hw⟩
          subst hw
          go_wp2_with fail
          refine HHA.out.mono ?_
          rintro e w6 ⟨rfl, hx6⟩
          have HX6 : Hid (Ext w w6) := Ext.trans HX1.out (HL5.out.ext hx6).here.2.1
          clear hx6 HHA
          go_wp2_with fail
          refine (known_any w6).mono ?_
          rintro e wk ⟨rfl, hbk⟩
          have HE : Hid (Ext w wk) := Ext.trans HX6.out hbk
          clear hbk
          go_wp2_with fail
          go_ret
          exact ⟨rfl, HE.out⟩
        · have HGB := Lib.hid hgb
          clear hgb hk hkn
          go_wp2_with fail
          refine HFI.out.mono ?_
          rintro e w4 ⟨vA, vc, R, rfl, hb4, htR, hsd, _, hx4⟩
          have HB4 := Lib.hid hb4
          have HR := Lib.hid (And.intro htR hsd)
          have HX4 : Hid (Ext w w4) := Ext.trans HX2.out hx4
          clear hb4 htR hsd hx4
          go_wp2_with fail
          refine (rename_live HB4.out.live (s := a) (t := b) HA.out HBB.out (x := 6) (by rw [seek2_good HGA.out HGB.out, HTA.out]; rfl) (F' := F) rfl).mono ?_
          rintro e w5 ⟨rfl, hl5⟩
          have HL5 := Lib.hid hl5
          have HHA := Lib.hid (lives_has HL5.out HL5.out.here.2.2.2 HR.out.1 HR.out.2 (x := (room : Int)) rfl)
          clear hl5
          go_wp2_with fail
          refine (num_any _ _).mono ?_
          rintro e w6 ⟨rfl, hw⟩
          subst hw
          go_wp2_with fail
          refine HHA.out.mono ?_
          rintro e w6 ⟨rfl, hx6⟩
          have HX6 : Hid (Ext w w6) := Ext.trans HX1.out (HL5.out.ext hx6).here.2.1
          clear hx6 HHA
          go_wp2_with fail
          refine (known_any w6).mono ?_
          rintro e wk ⟨rfl, hbk⟩
          have HE : Hid (Ext w wk) := Ext.trans HX6.out hbk
          clear hbk
          go_wp2_with fail
          go_ret
          exact ⟨rfl, HE.out⟩
      · rw [hx1] at HS1 HSK
        have HGA := Lib.hid hga
        have HTA : Hid (there F a.data.toList = true) := by rw [HBO.out.tie.there]; exact hia
        clear hx1 hga hia
        go_wp2_with fail
        refine HS1.out.mono ?_
        rintro e w3 ⟨i, rfl, hw⟩
        subst hw
        go_wp2_with fail
        refine HS2.out.mono ?_
        rintro e w3 ⟨hw, hsk⟩
        subst hw
        rcases hsk with ⟨hgb, rfl⟩ | ⟨hgb, hnb, rfl⟩ | ⟨hgb, k, hk, hkn, _, rfl⟩
        · have HGB := Lib.hid hgb
          clear hgb
          go_wp2_with fail
          refine HFI.out.mono ?_
          rintro e w4 ⟨vA, vc, R, rfl, hb4, htR, hsd, _, hx4⟩
          have HB4 := Lib.hid hb4
          have HR := Lib.hid (And.intro htR hsd)
          have HX4 : Hid (Ext w w4) := Ext.trans HX2.out hx4
          clear hb4 htR hsd hx4
          go_wp2_with fail
          refine (rename_live HB4.out.live (s := a) (t := b) HA.out HBB.out (x := 2) ((seek2_bad (.inr HGB.out)).symm) (F' := F) rfl).mono ?_
          rintro e w5 ⟨rfl, hl5⟩
          have HL5 := Lib.hid hl5
          have HHA := Lib.hid (lives_has HL5.out HL5.out.here.2.2.2 HR.out.1 HR.out.2 (x := (room : Int)) rfl)
          clear hl5
          go_wp2_with fail
          refine (num_any _ _).mono ?_
          rintro e w6 ⟨rfl, hw⟩
          subst hw
          go_wp2_with fail
          refine HHA.out.mono ?_
          rintro e w6 ⟨rfl, hx6⟩
          have HX6 : Hid (Ext w w6) := Ext.trans HX1.out (HL5.out.ext hx6).here.2.1
          clear hx6 HHA
          go_wp2_with fail
          refine (known_any w6).mono ?_
          rintro e wk ⟨rfl, hbk⟩
          have HE : Hid (Ext w wk) := Ext.trans HX6.out hbk
          clear hbk
          go_wp2_with fail
          go_ret
          exact ⟨rfl, HE.out⟩
        · have HGB := Lib.hid hgb
          have HTBB : Hid (there F b.data.toList = false) := by rw [HBO.out.tie.there]; exact isIn_no hnb
          clear hgb hnb
          go_wp2_with fail
          refine HFI.out.mono ?_
          rintro e w4 ⟨vA, vc, R, rfl, hb4, htR, hsd, _, hx4⟩
          have HB4 := Lib.hid hb4
          have HR := Lib.hid (And.intro htR hsd)
          have HX4 : Hid (Ext w w4) := Ext.trans HX2.out hx4
          clear hb4 htR hsd hx4
          have HT4 := Lib.hid HB4.out.tie
          have HND := Lib.hid HB4.out.tie.nf
          obtain ⟨bs, hbs⟩ : ∃ bs, bs = (cur F a.data.toList).data := ⟨_, rfl⟩
          obtain ⟨n, hn⟩ : ∃ n : Nat, n = (cur F a.data.toList).lasts := ⟨_, rfl⟩
          obtain ⟨T, hT⟩ : ∃ T, T = tot F := ⟨_, rfl⟩
          obtain ⟨F', hF'⟩ : ∃ F', F' = ren F a.data.toList b.data.toList := ⟨_, rfl⟩
          have HBS := Lib.hid hbs
          have HNN := Lib.hid hn
          have HTT := Lib.hid hT
          have HFF := Lib.hid hF'
          have HTB : Hid (T ≤ 1048576) := by rw [hT]; have := HB4.out.nums; exact Nat.le_trans this.2.2.1 this.2.1
          clear hbs hn hT hF'
          have HRA := Lib.hid (fun u (hu : Lives w1.heap.size [(d, room, F)] (fun u => RD u w1.heap.size r room G ∧ (Ext w1 u ∧ True ∧ Wnt u (.slice vA R.length vc) R)) u) => read_live hu HA.out (seek_there HGA.out HTA.out) (bs := bs) HBS.out)
          go_wp2_with fail
          refine (HRA.out w4 HB4.out.live).mono ?_
          rintro e w5 ⟨v1, rfl, hl5⟩
          obtain ⟨A1, c1, rfl⟩ := hl5.here.2.shape
          have HL5 := Lib.hid hl5
          clear hl5 HRA
          go_wp2_with fail
          refine (lasting_live HL5.out HA.out (seek_there HGA.out HTA.out) (n := (n : Int)) (by rw [HNN.out]; rfl)).mono ?_
          rintro e w6 ⟨rfl, hl6⟩
          have HL6 := Lib.hid hl6
          clear hl6
          go_wp2_with fail
          refine (used_live HL6.out).mono ?_
          rintro e w7 ⟨rfl, hl7⟩
          have HL7 := Lib.hid hl7
          clear hl7
          rw [← HTT.out]
          have HNE : Hid (a.data.toList ≠ b.data.toList) := fun e => by have h1 := HTA.out; rw [e, HTBB.out] at h1; cases h1
          have hab : (a.toList == b.toList) = false := data_beq HNE.out
          have htot : Hid (tot F' = T) := by have := tot_ren HND.out HNE.out; rw [← HFF.out, ← HTT.out, cur_none HTBB.out] at this; simpa [Hid] using this
          have HSUB : Hid (wrap64 (T : Int) = (T : Int)) := by have := HTB.out; unfold wrap64 Hid; omega
          have HRN := Lib.hid (rename_live HL7.out (s := a) (t := b) HA.out HBB.out (x := 0) (by rw [seek2_good HGA.out HGB.out, HTA.out]; rfl) (F' := F') HFF.out)
          go_wp2_with fail
          refine HRN.out.mono ?_
          rintro e w8 ⟨rfl, hl8⟩
          have HL8 := Lib.hid hl8
          clear hl8 HRN
          go_wp2_with fail
          refine (num_any _ _).mono ?_
          rintro e w9 ⟨rfl, hw⟩
          subst hw
          have HTH : Hid (there F' b.data.toList = true) := by rw [HFF.out]; exact there_ren _ _ _
          have HCU : Hid (cur F' b.data.toList = ⟨b.data.toList, bs, n⟩) := by rw [HFF.out, cur_ren, ← HBS.out, ← HNN.out]; exact Lib.hid rfl
          go_wp2_with fail
          refine (read_live HL8.out HBB.out (seek_there HGB.out HTH.out) (bs := bs) (by rw [HCU.out]; rfl)).mono ?_
          rintro e w9 ⟨v2, rfl, hl9⟩
          obtain ⟨A2, c2, rfl⟩ := hl9.here.2.shape
          have HL9 := Lib.hid hl9
          clear hl9
          go_wp2_with fail
          refine (lasting_live HL9.out HBB.out (seek_there HGB.out HTH.out) (n := (n : Int)) (by rw [HCU.out]; rfl)).mono ?_
          rintro e w10 ⟨rfl, hl10⟩
          have HL10 := Lib.hid hl10
          have cv1 := cv HL10.out.here.1.2
          have cv2 := cv HL10.out.here.2
          have hcc : ((tx bs).toList == (tx bs).toList) = true := by simp
          have hll : ((n : Int) != (n : Int)) = false := by simp
          clear hl10
          go_wp2_with fail
          refine (num_any _ _).mono ?_
          rintro e w11 ⟨rfl, hw⟩
          subst hw
          go_wp2_with fail
          refine (num_any _ _).mono ?_
          rintro e w11 ⟨rfl, hw⟩
          subst hw
          go_wp2_with fail
          refine (used_live HL10.out).mono ?_
          rintro e w11 ⟨rfl, hl11⟩
          have HL11 := Lib.hid hl11
          have htt : ((T : Int) != (T : Int)) = false := by simp
          rw [htot.out]
          have hsub := HSUB.out
          clear hl11 cv1 cv2
          have HTG : Hid (there F' a.data.toList = false) := by rw [HFF.out]; exact there_ren_gone _ HNE.out
          go_wp2_with fail
          refine (read_live HL11.out HA.out (seek_gone HGA.out HTG.out) rfl).mono ?_
          rintro e w12 ⟨v3, rfl, hl12⟩
          have HL12 := Lib.hid hl12
          clear hl12
          go_wp2_with fail
          refine (num_any _ _).mono ?_
          rintro e w13 ⟨rfl, hw⟩
          subst hw
          obtain ⟨F2, hF2⟩ : ∃ F2, F2 = ren F' b.data.toList a.data.toList := ⟨_, rfl⟩
          have HF2 : Hid (F2.Perm (del F b.data.toList)) := by rw [hF2, HFF.out]; exact ren_back HND.out HNE.out HTA.out
          have HRN2 := Lib.hid (rename_live HL12.out (s := b) (t := a) HBB.out HA.out (x := 0) (by rw [seek2_good HGB.out HGA.out, HTH.out]; rfl) (F' := F2) hF2)
          clear hF2
          go_wp2_with fail
          refine HRN2.out.mono ?_
          rintro e w13 ⟨rfl, hl13⟩
          have HL13 : Hid (Lives w1.heap.size [(d, room, F2)] (fun u => RD u w1.heap.size r room G ∧ (Ext w1 u ∧ True)) w13) := hl13.imp fun u hu => ⟨hu.1.1.1.1, hu.1.1.1.2.1, trivial⟩
          clear hl13 HRN2
          go_wp2_with fail
          refine (num_any _ _).mono ?_
          rintro e w14 ⟨rfl, hw⟩
          subst hw
          obtain ⟨xr, hxr⟩ : ∃ x, x = seekN F b.data.toList := ⟨_, rfl⟩
          have HRR := Lib.hid (remove_ref HL13.out (Stab.base HBO.out.le (Stab.true r)) HT4.out b HBB.out hxr)
          have HXR : Hid (xr = 6) := by rw [hxr]; exact (seek_gone HGB.out HTBB.out).symm
          clear hxr
          go_wp2_with fail
          refine HRR.out.mono ?_
          rintro e w14 ⟨G', rfl, hl14, ht14⟩
          have HB14 : Hid (Bo w1 d r room F2 G' [] (fun _ => True) w14) := ⟨hl14, by rw [HXR.out] at ht14; exact ht14.turnF (by rw [iff0_6]; rw [del_none (there_no HTBB.out)] at HF2; exact HF2.out)⟩
          clear hl14 ht14 HRR
          go_wp2_with fail
          refine (files_bo HB14.out).mono ?_
          rintro e w15 ⟨v15, R15, rfl, hw15, ht15, hs15, _, hx15⟩
          have HB15 := Lib.hid (HB14.out.ext hx15)
          have HHA := Lib.hid (has_bo HB15.out hw15 ht15 hs15 (x := (room : Int)) rfl)
          clear hw15 ht15 hs15 hx15
          go_wp2_with fail
          refine HHA.out.mono ?_
          rintro e w16 ⟨rfl, hx16⟩
          have HX16 : Hid (Ext w w16) := Ext.trans HX1.out (HB15.out.ext hx16).base
          clear hx16 HHA
          go_wp2_with fail
          refine (known_any w16).mono ?_
          rintro e wk ⟨rfl, hbk⟩
          have HE : Hid (Ext w wk) := Ext.trans HX16.out hbk
          clear hbk
          go_wp2_with fail
          go_ret
          exact ⟨rfl, HE.out⟩
        · have HGB := Lib.hid hgb
          have HK : Hid (∃ hk : k < G.length, (G[k]'hk).name = b.data.toList) := ⟨hk, hkn⟩
          have HTBB : Hid (there F b.data.toList = true) := by rw [HBO.out.tie.there]; exact isIn_yes hk hkn
          clear hgb hkn
          by_cases heq : a.data.toList = b.data.toList
          · have HEQ := Lib.hid heq
            clear heq hk
            go_wp2_with fail
            refine HFI.out.mono ?_
            rintro e w4 ⟨vA, vc, R, rfl, hb4, htR, hsd, hpg, hx4⟩
            have HPG := Lib.hid hpg.symm
            clear hpg
            have HB4 := Lib.hid hb4
            have HR := Lib.hid (And.intro htR hsd)
            have HX4 : Hid (Ext w w4) := Ext.trans HX2.out hx4
            clear hb4 htR hsd hx4
            have HT4 := Lib.hid HB4.out.tie
            have HND := Lib.hid HB4.out.tie.nf
            obtain ⟨bs, hbs⟩ : ∃ bs, bs = (cur F a.data.toList).data := ⟨_, rfl⟩
            obtain ⟨n, hn⟩ : ∃ n : Nat, n = (cur F a.data.toList).lasts := ⟨_, rfl⟩
            obtain ⟨T, hT⟩ : ∃ T, T = tot F := ⟨_, rfl⟩
            obtain ⟨F', hF'⟩ : ∃ F', F' = ren F a.data.toList b.data.toList := ⟨_, rfl⟩
            have HBS := Lib.hid hbs
            have HNN := Lib.hid hn
            have HTT := Lib.hid hT
            have HFF := Lib.hid hF'
            have HTB : Hid (T ≤ 1048576) := by rw [hT]; have := HB4.out.nums; exact Nat.le_trans this.2.2.1 this.2.1
            clear hbs hn hT hF'
            have HRA := Lib.hid (fun u (hu : Lives w1.heap.size [(d, room, F)] (fun u => RD u w1.heap.size r room G ∧ (Ext w1 u ∧ True ∧ Wnt u (.slice vA R.length vc) R)) u) => read_live hu HA.out (seek_there HGA.out HTA.out) (bs := bs) HBS.out)
            go_wp2_with fail
            refine (HRA.out w4 HB4.out.live).mono ?_
            rintro e w5 ⟨v1, rfl, hl5⟩
            obtain ⟨A1, c1, rfl⟩ := hl5.here.2.shape
            have HL5 := Lib.hid hl5
            clear hl5 HRA
            go_wp2_with fail
            refine (lasting_live HL5.out HA.out (seek_there HGA.out HTA.out) (n := (n : Int)) (by rw [HNN.out]; rfl)).mono ?_
            rintro e w6 ⟨rfl, hl6⟩
            have HL6 := Lib.hid hl6
            clear hl6
            go_wp2_with fail
            refine (used_live HL6.out).mono ?_
            rintro e w7 ⟨rfl, hl7⟩
            have HL7 := Lib.hid hl7
            clear hl7
            rw [← HTT.out]
            have htot : Hid (tot F' = T) := by rw [HFF.out, HTT.out, ← HEQ.out]; exact tot_ren_self HND.out _
            have HSUB : Hid (wrap64 (T : Int) = (T : Int)) := by have := HTB.out; unfold wrap64 Hid; omega
            have hab : (a.toList == b.toList) = true := by rw [data_eq HEQ.out]; simp
            have HRN := Lib.hid (rename_live HL7.out (s := a) (t := b) HA.out HBB.out (x := 0) (by rw [seek2_good HGA.out HGB.out, HTA.out]; rfl) (F' := F') HFF.out)
            go_wp2_with fail
            refine HRN.out.mono ?_
            rintro e w8 ⟨rfl, hl8⟩
            have HL8 := Lib.hid hl8
            clear hl8 HRN
            go_wp2_with fail
            refine (num_any _ _).mono ?_
            rintro e w9 ⟨rfl, hw⟩
            subst hw
            have HTH : Hid (there F' b.data.toList = true) := by rw [HFF.out]; exact there_ren _ _ _
            have HCU : Hid (cur F' b.data.toList = ⟨b.data.toList, bs, n⟩) := by rw [HFF.out, cur_ren, ← HBS.out, ← HNN.out]; exact Lib.hid rfl
            go_wp2_with fail
            refine (read_live HL8.out HBB.out (seek_there HGB.out HTH.out) (bs := bs) (by rw [HCU.out]; rfl)).mono ?_
            rintro e w9 ⟨v2, rfl, hl9⟩
            obtain ⟨A2, c2, rfl⟩ := hl9.here.2.shape
            have HL9 := Lib.hid hl9
            clear hl9
            go_wp2_with fail
            refine (lasting_live HL9.out HBB.out (seek_there HGB.out HTH.out) (n := (n : Int)) (by rw [HCU.out]; rfl)).mono ?_
            rintro e w10 ⟨rfl, hl10⟩
            have HL10 := Lib.hid hl10
            have cv1 := cv HL10.out.here.1.2
            have cv2 := cv HL10.out.here.2
            have hcc : ((tx bs).toList == (tx bs).toList) = true := by simp
            have hll : ((n : Int) != (n : Int)) = false := by simp
            clear hl10
            go_wp2_with fail
            refine (num_any _ _).mono ?_
            rintro e w11 ⟨rfl, hw⟩
            subst hw
            go_wp2_with fail
            refine (num_any _ _).mono ?_
            rintro e w11 ⟨rfl, hw⟩
            subst hw
            go_wp2_with fail
            refine (used_live HL10.out).mono ?_
            rintro e w11 ⟨rfl, hl11⟩
            have HL11 := Lib.hid hl11
            have htt : ((T : Int) != (T : Int)) = false := by simp
            rw [htot.out]
            have hsub := HSUB.out
            clear hl11 cv1 cv2
            have HHA := Lib.hid (lives_has HL11.out HL11.out.here.1.1.2.2.2 (show Tie F' R by rw [HFF.out, ← HEQ.out]; exact (ren_self HT4.out HK.out.choose (HK.out.choose_spec.trans HEQ.out.symm)).turn HPG.out) HR.out.2 (x := (room : Int)) rfl)
            go_wp2_with fail
            refine HHA.out.mono ?_
            rintro e w12 ⟨rfl, hx12⟩
            have HX12 : Hid (Ext w w12) := Ext.trans HX1.out (HL11.out.ext hx12).here.1.1.2.1
            clear hx12 HHA
            go_wp2_with fail
            refine (known_any w12).mono ?_
            rintro e wk ⟨rfl, hbk⟩
            have HE : Hid (Ext w wk) := Ext.trans HX12.out hbk
            clear hbk
            go_wp2_with fail
            go_ret
            exact ⟨rfl, HE.out⟩
          · have HNE := Lib.hid heq
            clear heq hk
            go_wp2_with fail
            refine HFI.out.mono ?_
            rintro e w4 ⟨vA, vc, R, rfl, hb4, htR, hsd, _, hx4⟩
            have HB4 := Lib.hid hb4
            have HR := Lib.hid (And.intro htR hsd)
            have HX4 : Hid (Ext w w4) := Ext.trans HX2.out hx4
            clear hb4 htR hsd hx4
            have HT4 := Lib.hid HB4.out.tie
            have HND := Lib.hid HB4.out.tie.nf
            obtain ⟨bs, hbs⟩ : ∃ bs, bs = (cur F a.data.toList).data := ⟨_, rfl⟩
            obtain ⟨n, hn⟩ : ∃ n : Nat, n = (cur F a.data.toList).lasts := ⟨_, rfl⟩
            obtain ⟨T, hT⟩ : ∃ T, T = tot F := ⟨_, rfl⟩
            obtain ⟨F', hF'⟩ : ∃ F', F' = ren F a.data.toList b.data.toList := ⟨_, rfl⟩
            have HBS := Lib.hid hbs
            have HNN := Lib.hid hn
            have HTT := Lib.hid hT
            have HFF := Lib.hid hF'
            have HTB : Hid (T ≤ 1048576) := by rw [hT]; have := HB4.out.nums; exact Nat.le_trans this.2.2.1 this.2.1
            clear hbs hn hT hF'
            have HRA := Lib.hid (fun u (hu : Lives w1.heap.size [(d, room, F)] (fun u => RD u w1.heap.size r room G ∧ (Ext w1 u ∧ True ∧ Wnt u (.slice vA R.length vc) R)) u) => read_live hu HA.out (seek_there HGA.out HTA.out) (bs := bs) HBS.out)
            go_wp2_with fail
            refine (HRA.out w4 HB4.out.live).mono ?_
            rintro e w5 ⟨v1, rfl, hl5⟩
            obtain ⟨A1, c1, rfl⟩ := hl5.here.2.shape
            have HL5 := Lib.hid hl5
            clear hl5 HRA
            go_wp2_with fail
            refine (lasting_live HL5.out HA.out (seek_there HGA.out HTA.out) (n := (n : Int)) (by rw [HNN.out]; rfl)).mono ?_
            rintro e w6 ⟨rfl, hl6⟩
            have HL6 := Lib.hid hl6
            clear hl6
            go_wp2_with fail
            refine (used_live HL6.out).mono ?_
            rintro e w7 ⟨rfl, hl7⟩
            have HL7 := Lib.hid hl7
            clear hl7
            rw [← HTT.out]
            have hab : (a.toList == b.toList) = false := data_beq HNE.out
            obtain ⟨fk, hfk⟩ : ∃ fk : RFl, fk = G[k]'HK.out.choose := ⟨_, rfl⟩
            have hrd := HL7.out.here.1.1
            have HSZK : Hid (fk.sure.length + fk.loose.length ≤ 1048576) := (hrd.sz fk (by rw [hfk]; exact List.getElem_mem _)).2
            obtain ⟨rv, hrb, hrow⟩ := hrd.ex
            obtain ⟨gg, gc, rfl, hg0, hg1, hg2⟩ := rrow_cell hrow HK.out.choose
            rw [← hfk] at hg0 hg1 hg2
            unfold encStr at hg0 hg1 hg2
            have hr1 := cell_of hrb (k := 1) rfl
            have HFA := Lib.hid (fileAll_any fk.name fk.sure fk.loose w7 (by have := HSZK.out; omega))
            unfold encStr at HFA
            obtain ⟨gn, hgn⟩ : ∃ gn, gn = fk.sure.length + fk.loose.length := ⟨_, rfl⟩
            have hgcur : (cur F b.data.toList).data.length = gn := by
              rw [HT4.out.curAt HK.out.choose HK.out.choose_spec, hgn, ← hfk]
              show (nat8 (fk.sure ++ fk.loose)).length = _
              rw [nat8_len, List.length_append]
            obtain ⟨T2, hT2⟩ : ∃ T2, T2 = tot F' := ⟨_, rfl⟩
            have hTT : T2 + gn = T := by have := tot_ren HND.out HNE.out; rw [← HFF.out, ← HTT.out, hgcur, ← hT2] at this; exact this
            have htot : Hid (tot F' = T2) := hT2.symm
            have HSUB : Hid (wrap64 ((T : Int) - ((fk.sure.length : Int) + (fk.loose.length : Int))) = (T2 : Int)) := by have := HTB.out; unfold wrap64 Hid; omega
            have hn1 : (0 : Int) ≤ (k : Int) := by omega
            have hn2 : (k : Int) < (G.length : Int) := by have := HK.out.choose; omega
            clear hrd hrow hrb hgn hgcur hT2 hTT hfk
            go_wp2_with fail
            refine HFA.out.mono ?_
            rintro e w7b ⟨rfl, hx7⟩
            have HL7b := Lib.hid (HL7.out.ext hx7)
            clear hx7 hg0 hg1 hg2 hr1 hn1 hn2
            have HRN := Lib.hid (rename_live HL7b.out (s := a) (t := b) HA.out HBB.out (x := 0) (by rw [seek2_good HGA.out HGB.out, HTA.out]; rfl) (F' := F') HFF.out)
            go_wp2_with fail
            refine HRN.out.mono ?_
            rintro e w8 ⟨rfl, hl8⟩
            have HL8 := Lib.hid hl8
            clear hl8 HRN
            go_wp2_with fail
            refine (num_any _ _).mono ?_
            rintro e w9 ⟨rfl, hw⟩
            subst hw
            have HTH : Hid (there F' b.data.toList = true) := by rw [HFF.out]; exact there_ren _ _ _
            have HCU : Hid (cur F' b.data.toList = ⟨b.data.toList, bs, n⟩) := by rw [HFF.out, cur_ren, ← HBS.out, ← HNN.out]; exact Lib.hid rfl
            go_wp2_with fail
            refine (read_live HL8.out HBB.out (seek_there HGB.out HTH.out) (bs := bs) (by rw [HCU.out]; rfl)).mono ?_
            rintro e w9 ⟨v2, rfl, hl9⟩
            obtain ⟨A2, c2, rfl⟩ := hl9.here.2.shape
            have HL9 := Lib.hid hl9
            clear hl9
            go_wp2_with fail
            refine (lasting_live HL9.out HBB.out (seek_there HGB.out HTH.out) (n := (n : Int)) (by rw [HCU.out]; rfl)).mono ?_
            rintro e w10 ⟨rfl, hl10⟩
            have HL10 := Lib.hid hl10
            have cv1 := cv HL10.out.here.1.2
            have cv2 := cv HL10.out.here.2
            have hcc : ((tx bs).toList == (tx bs).toList) = true := by simp
            have hll : ((n : Int) != (n : Int)) = false := by simp
            clear hl10
            go_wp2_with fail
            refine (num_any _ _).mono ?_
            rintro e w11 ⟨rfl, hw⟩
            subst hw
            go_wp2_with fail
            refine (num_any _ _).mono ?_
            rintro e w11 ⟨rfl, hw⟩
            subst hw
            go_wp2_with fail
            refine (used_live HL10.out).mono ?_
            rintro e w11 ⟨rfl, hl11⟩
            have HL11 := Lib.hid hl11
            have htt : ((T2 : Int) != (T2 : Int)) = false := by simp
            rw [htot.out]
            have hsub := HSUB.out
            clear hl11 cv1 cv2
            have HTG : Hid (there F' a.data.toList = false) := by rw [HFF.out]; exact there_ren_gone _ HNE.out
            go_wp2_with fail
            refine (read_live HL11.out HA.out (seek_gone HGA.out HTG.out) rfl).mono ?_
            rintro e w12 ⟨v3, rfl, hl12⟩
            have HL12 := Lib.hid hl12
            clear hl12
            go_wp2_with fail
            refine (num_any _ _).mono ?_
            rintro e w13 ⟨rfl, hw⟩
            subst hw
            obtain ⟨F2, hF2⟩ : ∃ F2, F2 = ren F' b.data.toList a.data.toList := ⟨_, rfl⟩
            have HF2 : Hid (F2.Perm (del F b.data.toList)) := by rw [hF2, HFF.out]; exact ren_back HND.out HNE.out HTA.out
            have HRN2 := Lib.hid (rename_live HL12.out (s := b) (t := a) HBB.out HA.out (x := 0) (by rw [seek2_good HGB.out HGA.out, HTH.out]; rfl) (F' := F2) hF2)
            clear hF2
            go_wp2_with fail
            refine HRN2.out.mono ?_
            rintro e w13 ⟨rfl, hl13⟩
            have HL13 : Hid (Lives w1.heap.size [(d, room, F2)] (fun u => RD u w1.heap.size r room G ∧ (Ext w1 u ∧ True)) w13) := hl13.imp fun u hu => ⟨hu.1.1.1.1, hu.1.1.1.2.1, trivial⟩
            clear hl13 HRN2
            go_wp2_with fail
            refine (num_any _ _).mono ?_
            rintro e w14 ⟨rfl, hw⟩
            subst hw
            obtain ⟨xr, hxr⟩ : ∃ x, x = seekN F b.data.toList := ⟨_, rfl⟩
            have HRR := Lib.hid (remove_ref HL13.out (Stab.base HBO.out.le (Stab.true r)) HT4.out b HBB.out hxr)
            have HXR : Hid (xr = 0) := by rw [hxr]; exact (seek_there HGB.out HTBB.out).symm
            clear hxr
            go_wp2_with fail
            refine HRR.out.mono ?_
            rintro e w14 ⟨G', rfl, hl14, ht14⟩
            have HB14 : Hid (Bo w1 d r room F2 G' [] (fun _ => True) w14) := ⟨hl14, by rw [HXR.out] at ht14; exact ht14.turnF (by rw [iff0_0]; exact HF2.out)⟩
            clear hl14 ht14 HRR
            go_wp2_with fail
            refine (files_bo HB14.out).mono ?_
            rintro e w15 ⟨v15, R15, rfl, hw15, ht15, hs15, _, hx15⟩
            have HB15 := Lib.hid (HB14.out.ext hx15)
            have HHA := Lib.hid (has_bo HB15.out hw15 ht15 hs15 (x := (room : Int)) rfl)
            clear hw15 ht15 hs15 hx15
            go_wp2_with fail
            refine HHA.out.mono ?_
            rintro e w16 ⟨rfl, hx16⟩
            have HX16 : Hid (Ext w w16) := Ext.trans HX1.out (HB15.out.ext hx16).base
            clear hx16 HHA
            go_wp2_with fail
            refine (known_any w16).mono ?_
            rintro e wk ⟨rfl, hbk⟩
            have HE : Hid (Ext w wk) := Ext.trans HX16.out hbk
            clear hbk
            go_wp2_with fail
            go_ret
            exact ⟨rfl, HE.out⟩
end Go.Proofs.Ytenhfphgobalfaa

/- DiskMoves: from the walk to the statement. For every input the law answers true and leaves its arguments as they were. -/
namespace Go.Proofs.Ytenhfphgobalfaa.diskMoves
open Go.ChangeShapes Go.WideShapes Go.ChangeAt Go.RowKit
set_option linter.unusedVariables false

set_option maxRecDepth 100000 in
theorem lifted (os : Os) (started : os.Started) (H : Type) (enc : TypeId × Value → H) :
    ReturnsInHanded {} Try.checked os 6 .any (Rows.diskMovesSpec.pre6 enc Try.prog Try.f6 Rows.diskMovesRow.domain false) (Rows.diskMovesSpec.post enc Try.prog Try.f6 false true false false) := by
  refine returnsInHanded_of_change (C := Try.checked) own started (by kernel_rfl) Try.func6
    (ChangeSpec.witness6 (enc := enc) (C := Try.checked) false ⟨#[], #[.int .i64 0, .slice none 0 0, .string ⟨#[]⟩, .string ⟨#[]⟩], []⟩ 8 (by kernel_rfl) (by kernel_rfl) (by kernel_rfl) (by kernel_rfl)) ?_
  intro W base args ds gs before hval0 hW hcnd _
  have hval : ∀ (j : Nat) t v, Try.f6.params[j]? = some t → args[j]? = some v → Value.okWide Try.prog W .any base t v := hval0
  have hW' := hW
  obtain ⟨p, q, hA0, hV, rfl, hfz, hnd⟩ := hW
  have hA : DataW.TrodAll enc Try.prog W 0 (fun _ => true) true Try.f6.params.toList args.toList ds p := hA0
  rw [Try.params6] at hA hval
  obtain ⟨v0, vs0, d0, ds0, p0, q0, hargs, rfl, rfl, h0, r0⟩ := trodAll_cons hA
  obtain ⟨v1, vs1, d1, ds1, p1, q1, rfl, rfl, rfl, h1, r1⟩ := trodAll_cons r0
  obtain ⟨v2, vs2, d2, ds2, p2, q2, rfl, rfl, rfl, h2, r2⟩ := trodAll_cons r1
  obtain ⟨v3, vs3, d3, ds3, p3, q3, rfl, rfl, rfl, h3, r3⟩ := trodAll_cons r2
  obtain ⟨rfl, rfl, rfl⟩ := trodAll_nil r3
  obtain rfl : args = #[v0, v1, v2, v3] := by cases args; simp_all
  obtain ⟨rfl, rfl⟩ := trodVars_none hV
  obtain ⟨a0, rfl, rfl, rfl, w0⟩ := open_int Try.underlying3 (hval 0 3 v0 rfl rfl) h0
  have k1 := h1
  have lt1 : ∀ x ∈ p1, x.block < W.heap.size := by obtain ⟨m, hm⟩ := k1; exact DataW.trod_lt m _ _ _ hm
  obtain ⟨A1, c1, X1, rfl, s1⟩ := open_steps (hval 1 22 v1 rfl rfl) h1
  obtain ⟨a2, rfl, rfl, rfl, w2⟩ := Go.ChangeMaps.open_string Try.underlying9 (hval 2 9 v2 rfl rfl) h2
  obtain ⟨a3, rfl, rfl, rfl, w3⟩ := Go.ChangeMaps.open_string Try.underlying9 (hval 3 9 v3 rfl rfl) h3
  clear hA0 hval0
  refine (dmoves_walk W a0 w0 A1 c1 X1 s1 a2 w2 a3 w3).mono fun e W' ⟨he, bel⟩ => ?_
  subst he
  exact ⟨_, rfl, _, _, _, [], _, [], hW', trodAll_mk1 (shut_bool Try.underlying4 _), (trodAll_cons_mk (shut_int Try.underlying3 w0) (trodAll_cons_mk (Below.trod laidOut (by kernel_rfl) (of_decide_eq_true (by kernel_rfl)) k1 bel lt1) (trodAll_cons_mk (Go.ChangeMaps.shut_string Try.underlying9 w2) (trodAll_cons_mk (Go.ChangeMaps.shut_string Try.underlying9 w3) trodAll_mk0)))), rfl, bel.frame _, fun h => by cases h⟩

theorem over : Rows.diskMovesRow.holds Try.pinned (OpenSpec.ofChange Rows.diskMovesSpec) :=
  OpenClaim.holds_of_wide 6 Try.f6 rfl rfl rfl rfl rfl rfl rfl ⟨rfl, rfl, rfl, rfl, rfl⟩ rfl rfl rfl rfl rfl (by kernel_rfl) Try.func6 (by kernel_rfl)
    (of_decide_eq_true (by kernel_rfl)) (by unfold Func.isWrapper; first | (rw [if_pos (by decide +kernel)]; kernel_rfl) | (rw [if_neg (by decide +kernel)]; exact ⟨rfl, rfl⟩))
    (fun os started H enc _ => lifted os started H enc)

theorem proved : Rows.DiskMovesSaid := over
end Go.Proofs.Ytenhfphgobalfaa.diskMoves
