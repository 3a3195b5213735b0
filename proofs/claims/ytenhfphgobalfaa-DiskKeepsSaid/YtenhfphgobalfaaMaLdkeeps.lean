/- DiskKeeps: from the walk to the statement. For every input the law answers true and leaves its arguments as they were. -/
import Derived.Test.YtenhfphgobalfaaMa13
import Derived.Test.YtenhfphgobalfaaMa10
import Derived.ChangeMaps5

/- DiskKeeps: what was synced is there behind any crashes; what is there is a beginning of what it had. -/
namespace Go.Proofs.Ytenhfphgobalfaa
open Go.RowKit Go.Maps
attribute [local go_sem] Oper.semAt_some

theorem KeptsI.ext {w w' : World} {A : Option Addr} {ks : List (ByteArray × Int)} (h : KeptsI w A ks) (hx : Ext w w') : KeptsI w' A ks := by
  refine ⟨?_, h.sz, h.wf, h.len⟩
  rcases h.ex with h1 | ⟨b, o, e, hb, hc⟩
  · exact .inl h1
  · exact .inr ⟨b, o, e, Nat.lt_of_lt_of_le hb hx.size, fun i s z hi => ⟨ext_cell hx (hc i s z hi).1, ext_cell hx (hc i s z hi).2⟩⟩
theorem StpsI.ext {w w' : World} {A : Option Addr} {X : List Stp} (h : StpsI w A X) (hx : Ext w w') : StpsI w' A X := by
  refine ⟨fun k hk => ?_, fun x hm => ⟨(h.each x hm).a, (h.each x hm).b, ((h.each x hm).dat.below hx (Nat.le_refl _)).wide (Nat.le_refl _) hx.size, (h.each x hm).keep.ext hx⟩⟩
  obtain ⟨b, o, h1, h2, h3⟩ := h.at_ k hk
  exact ⟨b, o, h1, Nat.lt_of_lt_of_le h2 hx.size, fun j q hq => ext_cell hx (h3 j q hq)⟩
theorem cv_ext {w u : World} {A : Option Addr} {n c : Nat} {l : List Nat} (h : IsBytes (.slice A n c) l w) (hx : Ext w u) : (convert 35 9 (.slice A n c)).run Try.prog u = .ok (.string (tx l)) u :=
  cv (((show Bs w 0 w.heap.size _ _ from h).below hx (Nat.le_refl _)).wide (Nat.le_refl _) hx.size)
theorem bysize (w : World) : (sizeOf (Try.prog.elem 35)).run Try.prog w = .ok 1 w := by kernel_rfl
theorem byslice0 (A : Option Addr) (n c j : Nat) (hjn : j ≤ n) (hc : n ≤ c) (w : World) :
    (Instr.slice 35 (.slice A n c) none (some (.int .i64 (j : Int))) none).run Try.prog w = .ok (.slice A j c) w := by
  have he : Try.prog.underlying 35 = some (.slice (Try.prog.elem 35)) := by kernel_rfl
  rw [run_slice_h w 35 A n c he .i64 (j : Int) (by omega) (by omega), bysize w]
  by_cases h : c = 0
  · subst h; simp [Result.andThen, sliced]
  · have : ¬ c = 0 := h
    cases A <;> simp [Result.andThen, sliced, Addr.add]
theorem isBytes_cap {A : Option Addr} {n c : Nat} {l : List Nat} {w : World} (h : IsBytes (.slice A n c) l w) : n ≤ c := by
  obtain ⟨A', c', e, h1, h2, h3, h4⟩ := h
  injection e with e1 e2 e3
  omega
theorem Kp.synced (F : List Fl) (n : List UInt8) : Kp (syn F n) n (cur (syn F n) n).data := by
  have e : cur (syn F n) n = ⟨n, (cur F n).data, (cur F n).data.length⟩ := cur_upd F ⟨n, (cur F n).data, (cur F n).data.length⟩
  refine ⟨there_upd F ⟨n, (cur F n).data, (cur F n).data.length⟩, ?_, ?_, take_self_len _⟩
  · rw [e]; exact Nat.le_refl _
  · rw [e]; exact Nat.le_refl _
theorem beqA {a b : ByteArray} : (a.toList == b.toList) = decide (a.data.toList = b.data.toList) := by
  rw [ByteArray.toList_eq, ByteArray.toList_eq]
  by_cases h : a.data.toList = b.data.toList
  · rw [decide_eq_true h, h]; simp
  · rw [decide_eq_false h]; simpa using h

theorem skip_no {k : Int} {A B N : List UInt8} {k2 g2 l5 eA eB : Bool} (h : false = (k2 && eA || (g2 && l5) && (eA || eB))) (hk : k2 = (k == 2)) (hg : g2 = decide (2 < k)) (hl : l5 = decide (k < 5)) (ha : eA = decide (A = N)) (hb : eB = decide (B = N)) : (k = 2 → A ≠ N) ∧ (2 < k ∧ k < 5 → A ≠ N ∧ B ≠ N) := by
  subst hk hg hl ha hb
  refine ⟨fun e e2 => ?_, fun e => ⟨fun e2 => ?_, fun e2 => ?_⟩⟩
  · subst e; rw [decide_eq_true e2] at h; simp at h
  · rw [decide_eq_true e2, decide_eq_true e.1, decide_eq_true e.2] at h; simp at h
  · rw [decide_eq_true e2, decide_eq_true e.1, decide_eq_true e.2] at h; simp at h
theorem had_no {x : Stp} {n : List UInt8} {H : List Nat} (h : ¬ (x.kind = 1 ∧ x.a.data.toList = n)) : hadB x n H = H := if_neg h
theorem had_yes {x : Stp} {n : List UInt8} {H : List Nat} (h1 : x.kind = 1) (h2 : x.a.data.toList = n) : hadB x n H = H ++ nat8 x.dat := if_pos ⟨h1, h2⟩

set_option maxRecDepth 100000 in
set_option maxHeartbeats 32000000 in
theorem dkeeps_walk (w : World) (a0 : Int) (h0 : (Lit.int .i64 a0).wf = true) (A : Option Addr) (c : Nat) (X : List Stp) (hs : StpsI w A X) (a : ByteArray) (ha : a.size ≤ maxLen)
    (A0 : Option Addr) (c0 : Nat) (bs : List UInt8) (hb : Bs w 0 w.heap.size (.slice A0 bs.length c0) (nat8 bs)) (A2 : Option Addr) (c2 : Nat) (Y : List Stp) (hs2 : StpsI w A2 Y) :
    Calls Try.prog 5 #[.int .i64 a0, .slice A X.length c, .string a, .slice A0 bs.length c0, .slice A2 Y.length c2] w fun e w' => e = .returned (.bool true) ∧ Ext w w' := by
  have HB0 : Hid (-9223372036854775808 ≤ a0 ∧ a0 ≤ 9223372036854775807) := by simpa [Hid, Lit.wf, IntKind.min, IntKind.max, IntKind.signed, IntKind.bits] using h0
  have HSI := Lib.hid hs
  have HSJ := Lib.hid hs2
  have HBY := Lib.hid hb
  have HMU := Lib.hid (fun u (hu : Ext w u) => dmuch_any (c := c) (hs.ext hu) 30 (by decide))
  have HMV := Lib.hid (fun u (hu : Ext w u) => dmuch_any (c := c2) (hs2.ext hu) 30 (by decide))
  have HA := Lib.hid ha
  obtain ⟨N, hN⟩ : ∃ N, N = X.length := ⟨_, rfl⟩
  have HN := Lib.hid hN
  obtain ⟨M, hM⟩ : ∃ M, M = Y.length := ⟨_, rfl⟩
  have HM := Lib.hid hM
  obtain ⟨m, hm⟩ : ∃ m, m = bs.length := ⟨_, rfl⟩
  have HMB := Lib.hid hm
  rw [← hN] at HMU
  rw [← hM] at HMV
  rw [← hm] at HBY
  rw [← hN, ← hM, ← hm]
  obtain ⟨la, hla⟩ : ∃ z, z = decide ((9000 : Int) < (m : Int)) := ⟨_, rfl⟩
  obtain ⟨lb, hlb⟩ : ∃ z, z = decide ((1000 : Int) < (a.size : Int)) := ⟨_, rfl⟩
  have hlan : decide (9000 < m) = la := by rw [hla]; exact decide_eq_decide.2 (by omega)
  have hlbn : decide (1000 < a.size) = lb := by rw [hlb]; exact decide_eq_decide.2 (by omega)
  replace hla := hla.symm
  replace hlb := hlb.symm
  clear h0 hs hs2 hb hN hM hm ha
  go_enter Try.func5, Try.ntmps5
  go_wp2_with fail
  refine (known_any w).mono ?_
  rintro e wk ⟨rfl, hxk⟩
  have HXK : Hid (Ext w wk) := hxk
  clear hxk
  go_wp2_with fail
  refine (HMU.out wk HXK.out).mono ?_
  rintro e w1 ⟨z, hz, rfl, hx1⟩
  have HZ := Lib.hid hz
  have HX1 : Hid (Ext w w1) := Ext.trans HXK.out hx1
  clear hz hx1 HMU
  cases z with
  | true =>
    go_wp2_with fail
    go_ret
    exact ⟨rfl, HX1.out⟩
  | false =>
  go_wp2_with fail
  refine (HMV.out w1 HX1.out).mono ?_
  rintro e wv ⟨z, hz, rfl, hxv⟩
  have HZV := Lib.hid hz
  have HXV : Hid (Ext w wv) := Ext.trans HX1.out hxv
  clear hz hxv HMV
  cases z with
  | true =>
    go_wp2_with fail
    go_ret
    exact ⟨rfl, HXV.out⟩
  | false =>
  cases la with
  | true =>
    go_wp2_with fail
    go_ret
    exact ⟨rfl, HXV.out⟩
  | false =>
  cases lb with
  | true =>
    go_wp2_with fail
    go_ret
    exact ⟨rfl, HXV.out⟩
  | false =>
    have hmle : m ≤ 9000 := by have := of_decide_eq_false hlan; omega
    have HML := Lib.hid hmle
    have hnm := HZ.out rfl
    have HDL : Hid (∀ x ∈ X, x.dat.length ≤ 300000) := fun x hx => (hnm.2 x hx).1
    have HST : Hid (Stps wv A X) := (HSI.out.stps fun x hx => (hnm.2 x hx).2).ext HXV.out
    have HNL : Hid (X.length ≤ 1000) := Nat.le_trans hnm.1 (by decide)
    have hnv := HZV.out rfl
    have HDL2 : Hid (∀ x ∈ Y, x.dat.length ≤ 300000) := fun x hx => (hnv.2 x hx).1
    have HST2 : Hid (Stps wv A2 Y) := (HSJ.out.stps fun x hx => (hnv.2 x hx).2).ext HXV.out
    have hMI : (M : Int) ≤ 30 := by have h1 := hnv.1; rw [← HM.out] at h1; omega
    clear hnm hnv HZ HZV hmle
    by_cases hbad : a0 < 1024 ∨ 1048576 < a0
    · have HMB2 := Lib.hid (made_bad (A := A) (N := N) (c := c) HB0.out.1 HB0.out.2 hbad wv)
      have HRN := Lib.hid (fun u => newRef_no a0 u HB0.out hbad)
      clear hbad
      go_wp2_with fail
      refine HMB2.out.mono ?_
      rintro e w2 ⟨rfl, hx2⟩
      have HX2 : Hid (Ext w w2) := Ext.trans HXV.out hx2
      clear hx2
      go_wp2_with fail
      refine (HRN.out w2).mono ?_
      rintro e w3 ⟨rfl, hw⟩
      subst hw
      go_wp2_with fail
      go_ret
      exact ⟨rfl, HX2.out⟩
    · obtain ⟨room, rfl⟩ : ∃ r : Nat, a0 = (r : Int) := ⟨a0.toNat, by omega⟩
      have h1 : 1024 ≤ room := by omega
      have h2 : room ≤ 1048576 := by omega
      have HMD := Lib.hid (made_yes (c := c) HST.out HNL.out HDL.out h1 h2)
      rw [← HN.out] at HMD
      clear hbad h1 h2
      go_wp2_with fail
      refine HMD.out.mono ?_
      rintro e w2 ⟨d, r, F, G, rfl, hbo⟩
      have HBO := Lib.hid hbo
      have HX2 : Hid (Ext wv w2) := hbo.base
      have HNU := Lib.hid hbo.nums.2
      have HTI := Lib.hid hbo.tie
      clear hbo HMD
      have HBW : Hid (Bs w2 0 w2.heap.size (.slice A0 m c0) (nat8 bs)) := (HBY.out.below (Ext.trans HXV.out HX2.out) (Nat.le_refl _)).wide (Nat.le_refl _) (Ext.trans HXV.out HX2.out).size
      obtain ⟨x, hx⟩ : ∃ x, x = appN F room m a.data.toList := ⟨_, rfl⟩
      have HXE := Lib.hid hx
      obtain ⟨F1, hF1⟩ : ∃ F1, F1 = iff0 x (app F a.data.toList (nat8 bs)) F := ⟨_, rfl⟩
      have HF1 := Lib.hid hF1
      have HAM := Lib.hid (append_mid HBO.out HA.out HBW.out (Nat.le_refl _) HMB.out HXE.out)
      rw [← HF1.out] at HAM
      clear hx hF1
      go_wp2_with fail
      refine HAM.out.mono ?_
      rintro e w3 ⟨rfl, hm3⟩
      have HM3 := Lib.hid hm3
      have HX3 : Hid (Ext wv w3) := hm3.p.1
      have HBW3 : Hid (Bs w3 0 w3.heap.size (.slice A0 m c0) (nat8 bs)) := (HBY.out.below (Ext.trans HXV.out HX3.out) (Nat.le_refl _)).wide (Nat.le_refl _) (Ext.trans HXV.out HX3.out).size
      clear hm3 HAM
      go_wp2_with fail
      refine (num_any _ _).mono ?_
      rintro e w4 ⟨rfl, hw⟩
      subst hw
      by_cases hx0 : x = 0
      rotate_left
      · have hxx : (x != 0) = true := by simpa using hx0
        have HAE := Lib.hid (append_end HM3.out HF1.out HNU.out HA.out HBW3.out (Nat.le_refl _) HMB.out (by have := HML.out; omega) HXE.out (Stab.true r))
        clear hx0
        go_wp2_with fail
        refine HAE.out.mono ?_
        rintro e w4 ⟨rfl, G', hbo⟩
        have HBB := Lib.hid hbo
        clear hbo
        go_wp2_with fail
        go_ret
        exact ⟨rfl, Ext.trans HXV.out HBB.out.base⟩
      · subst hx0
        have hxx : ((0 : Int) != 0) = false := by decide
        have HGD : Hid (good a.data.toList = true) := (appN_ok HXE.out).1
        rw [iff0_0] at HF1
        have HTH1 : Hid (there F1 a.data.toList = true) := by rw [HF1.out]; exact there_upd F ⟨a.data.toList, (cur F a.data.toList).data ++ nat8 bs, (cur F a.data.toList).lasts⟩
        obtain ⟨F2, hF2⟩ : ∃ F2, F2 = syn F1 a.data.toList := ⟨_, rfl⟩
        have HF2 := Lib.hid hF2
        have HSL := Lib.hid (sync_live HM3.out.live HA.out (seek_there HGD.out HTH1.out) (F' := F2) hF2)
        clear hF2
        go_wp2_with fail
        refine HSL.out.mono ?_
        rintro e w4 ⟨rfl, hl4⟩
        have HL4 := Lib.hid hl4
        have HX4 : Hid (Ext wv w4) := hl4.here.2.1
        have HBW4 : Hid (Bs w4 0 w4.heap.size (.slice A0 m c0) (nat8 bs)) := (HBY.out.below (Ext.trans HXV.out HX4.out) (Nat.le_refl _)).wide (Nat.le_refl _) (Ext.trans HXV.out HX4.out).size
        have HRA := Lib.hid (append_ref hl4 (Stab.base HBO.out.le (Stab.true r)) HTI.out HNU.out.1 HNU.out.2.1 HNU.out.2.2 a HA.out HBW4.out (Nat.le_refl _) HMB.out (by have := HML.out; omega) HXE.out)
        clear hl4 HSL
        go_wp2_with fail
        refine (num_any _ _).mono ?_
        rintro e w5 ⟨rfl, hw⟩
        subst hw
        go_wp2_with fail
        refine HRA.out.mono ?_
        rintro e w5 ⟨G1, rfl, hl5, ht5⟩
        rw [iff0_0, ← HF1.out] at ht5
        have HRS := Lib.hid (sync_ref hl5 (Stab.base HBO.out.le (Stab.true r)) ht5 a HA.out (x := 0) (seek_there HGD.out HTH1.out))
        clear hl5 ht5 HRA
        go_wp2_with fail
        refine HRS.out.mono ?_
        rintro e w6 ⟨G2, rfl, hl6, ht6⟩
        rw [iff0_0, ← HF2.out] at ht6
        have HB6 : Hid (Bo wv d r room F2 G2 [] (fun _ => True) w6) := ⟨hl6, ht6⟩
        clear hl6 ht6 HRS
        obtain ⟨S0, hS0⟩ : ∃ S0, S0 = (cur F2 a.data.toList).data := ⟨_, rfl⟩
        obtain ⟨n0, hn0⟩ : ∃ n0, n0 = S0.length := ⟨_, rfl⟩
        have HN0 := Lib.hid hn0
        have HKP : Hid (Kp F2 a.data.toList S0) := by rw [hS0, HF2.out]; exact Kp.synced _ _
        have HRO := Lib.hid (read_own HB6.out.live HA.out (seek_there HGD.out HKP.out.th) (bs := S0) hS0)
        rw [← hn0] at HRO
        clear hS0 hn0
        go_wp2_with fail
        refine HRO.out.mono ?_
        rintro e w7 ⟨A1, c1, rfl, ho7, hx7⟩
        obtain ⟨sv, hsv⟩ : ∃ sv, sv = Value.slice A1 n0 c1 := ⟨_, rfl⟩
        have HSV := Lib.hid hsv
        obtain ⟨nB, hnB⟩ : ∃ nB, nB = w6.heap.size := ⟨_, rfl⟩
        rw [← hnB, ← hsv] at ho7
        have HB7 : Hid (Bo wv d r room F2 G2 [] (fun u => Own nB S0 sv u) w7) := (HB6.out.add (Q := fun u => Own nB S0 sv u) hx7 fun w'' hk _ => ho7.kept fun g hg => hk g (by rw [← hnB]; exact (ho7.lt hg).1) (ho7.lt hg).2).imp fun u hu => hu.2
        clear ho7 hx7 hnB hsv HRO
        go_wp2_with fail
        go_loopw [11, 12, 15, 16, 17, 18, 19, 20, 21, 22, 23] (fun dv rv i _ _ _ _ _ _ _ _ wr => ∃ (k d r : Nat) (F : List Fl) (G : List RFl), k ≤ M ∧ i = .int .i64 (k : Int) ∧ dv = .pointer (some ⟨d, 0, none⟩) ∧ rv = .pointer (some ⟨r, 0, none⟩) ∧ Hid (Bo wv d r room F G [] (fun u => Own nB S0 sv u) wr) ∧ Hid (Kp F a.data.toList S0)) (fun _ _ i _ _ _ _ _ _ _ _ _ => M - (intOf i).toNat)
        case atStart => exact ⟨0, d, r, F2, G2, Nat.zero_le _, rfl, rfl, rfl, HB7, HKP⟩
        case round =>
          clear HB7 HB6 HM3 HBO HL4 HKP
          obtain ⟨k, d, r, F, G, hk, rfl, rfl, rfl, HB, HK⟩ := hrel
          by_cases hlt : k < M
          · have e1 : decide ((k : Int) < (M : Int)) = true := decide_eq_true (by omega)
            have e1n : decide (k < M) = true := decide_eq_true hlt
            have hkX : k < Y.length := by rw [← HM.out]; exact hlt
            obtain ⟨x, hx⟩ : ∃ x, x = Y[k]'hkX := ⟨_, rfl⟩
            have hxm : x ∈ Y := by rw [hx]; exact List.getElem_mem hkX
            obtain ⟨b, oo, rfl, hbl, hcells⟩ := HST2.out.at_ k hkX
            rw [← hx] at hcells
            have q0 : wr.cell? ⟨b, oo + k * 5, none⟩ = some (.int .i64 x.kind) := ext_cell HB.out.base (hcells 0 _ rfl)
            have q1 := ext_cell HB.out.base (hcells 1 _ rfl)
            have q2 := ext_cell HB.out.base (hcells 2 _ rfl)
            have q3 := ext_cell HB.out.base (hcells 3 _ rfl)
            have q4 := ext_cell HB.out.base (hcells 4 _ rfl)
            have n1 : (0 : Int) ≤ (k : Int) := by omega
            have n2 : (k : Int) < (M : Int) := by omega
            have HXI : Hid (StpOk wv x ∧ x.dat.length ≤ 300000) := ⟨HST2.out.each x hxm, HDL2.out x hxm⟩
            have HLT := Lib.hid hlt
            clear hkX hx hxm hbl hcells hlt hk
            go_upto_region 17 with (fail)
            obtain ⟨CS, hCS⟩ : ∃ CS, CS = (#[.int .i64 x.kind, .string x.a, .string x.b, .slice x.dA x.dat.length x.dc, .slice x.kA x.keep.length x.kc] : Array Value) := ⟨_, rfl⟩
            rw [← hCS]
            obtain ⟨bx, hbx⟩ : ∃ bx, bx = wr.heap.size := ⟨_, rfl⟩
            have HBX := Lib.hid (HB.out.boxed CS 38)
            obtain ⟨wb, hwb⟩ : ∃ wb, wb = wr.alloc (.cells CS 38) := ⟨_, rfl⟩
            rw [← hwb, ← hbx] at HBX
            rw [← hwb, ← hbx]
            have HJ0 : Hid (∀ u : World, u.heap[bx]? = some (.cells CS 38 (0, 0)) → u.cell? ⟨bx, 0, none⟩ = some (.int .i64 x.kind)) := fun u hu => cell_of hu (k := 0) (by rw [hCS]; rfl)
            have HJ1 : Hid (∀ u : World, u.heap[bx]? = some (.cells CS 38 (0, 0)) → u.cell? ⟨bx, 1, none⟩ = some (.string x.a)) := fun u hu => cell_of hu (k := 1) (by rw [hCS]; rfl)
            have HJ2 : Hid (∀ u : World, u.heap[bx]? = some (.cells CS 38 (0, 0)) → u.cell? ⟨bx, 2, none⟩ = some (.string x.b)) := fun u hu => cell_of hu (k := 2) (by rw [hCS]; rfl)
            have HJ3 : Hid (∀ u : World, u.heap[bx]? = some (.cells CS 38 (0, 0)) → u.cell? ⟨bx, 3, none⟩ = some (.slice x.dA x.dat.length x.dc)) := fun u hu => cell_of hu (k := 3) (by rw [hCS]; rfl)
            have HJ4 : Hid (∀ u : World, u.heap[bx]? = some (.cells CS 38 (0, 0)) → u.cell? ⟨bx, 4, none⟩ = some (.slice x.kA x.keep.length x.kc)) := fun u hu => cell_of hu (k := 4) (by rw [hCS]; rfl)
            clear q0 q1 q2 q3 q4 hCS hwb hbx HB
            have p0 := HJ0.out wb HBX.out.p.2
            have p1 := HJ1.out wb HBX.out.p.2
            have p2 := HJ2.out wb HBX.out.p.2
            have p3 := HJ3.out wb HBX.out.p.2
            have p4 := HJ4.out wb HBX.out.p.2
            obtain ⟨k2, hk2⟩ : ∃ z, z = (x.kind == 2) := ⟨_, rfl⟩
            obtain ⟨g2, hg2⟩ : ∃ z, z = decide (2 < x.kind) := ⟨_, rfl⟩
            obtain ⟨l5, hl5⟩ : ∃ z, z = decide (x.kind < 5) := ⟨_, rfl⟩
            obtain ⟨eA, heA⟩ : ∃ z, z = (x.a.toList == a.toList) := ⟨_, rfl⟩
            obtain ⟨eB, heB⟩ : ∃ z, z = (x.b.toList == a.toList) := ⟨_, rfl⟩
            obtain ⟨z, hz⟩ : ∃ z, z = (k2 && eA || (g2 && l5) && (eA || eB)) := ⟨_, rfl⟩
            have HZ := Lib.hid hz
            have HK2 := Lib.hid hk2
            have HG2 := Lib.hid hg2
            have HL5 := Lib.hid hl5
            have HEA := Lib.hid heA
            have HEB := Lib.hid heB
            replace hk2 := hk2.symm
            replace hg2 := hg2.symm
            replace hl5 := hl5.symm
            replace heA := heA.symm
            replace heB := heB.symm
            clear hz
            go_cut [124] from 94 to 202 (fun v wx => v = .bool z ∧ wx = wb)
            case first =>
              cases k2 with
              | true =>
                cases eA with
                | true =>
                  go_wp2_with fail
                  go_meet
                  case rel => exact ⟨by rw [HZ.out]; rfl, rfl⟩
                | false =>
                  cases g2 with
                  | true =>
                    cases l5 with
                    | true =>
                      cases eB with
                      | true =>
                        go_wp2_with fail
                        go_meet
                        case rel => exact ⟨by rw [HZ.out]; rfl, rfl⟩
                      | false =>
                        go_wp2_with fail
                        go_meet
                        case rel => exact ⟨by rw [HZ.out]; rfl, rfl⟩
                    | false =>
                      go_wp2_with fail
                      go_meet
                      case rel => exact ⟨by rw [HZ.out]; rfl, rfl⟩
                  | false =>
                    go_wp2_with fail
                    go_meet
                    case rel => exact ⟨by rw [HZ.out]; rfl, rfl⟩
              | false =>
                cases g2 with
                | true =>
                  cases l5 with
                  | true =>
                    cases eA with
                    | true =>
                      go_wp2_with fail
                      go_meet
                      case rel => exact ⟨by rw [HZ.out]; rfl, rfl⟩
                    | false =>
                      cases eB with
                      | true =>
                        go_wp2_with fail
                        go_meet
                        case rel => exact ⟨by rw [HZ.out]; rfl, rfl⟩
                      | false =>
                        go_wp2_with fail
                        go_meet
                        case rel => exact ⟨by rw [HZ.out]; rfl, rfl⟩
                  | false =>
                    go_wp2_with fail
                    go_meet
                    case rel => exact ⟨by rw [HZ.out]; rfl, rfl⟩
                | false =>
                  go_wp2_with fail
                  go_meet
                  case rel => exact ⟨by rw [HZ.out]; rfl, rfl⟩
            case rest =>
              obtain ⟨hv, hw⟩ := hcut
              subst hv
              replace hw := hw.symm
              subst hw
              clear hk2 hg2 hl5 heA heB
              cases z with
              | true =>
                go_wp2_with fail
                go_roundw
                case rel => exact ⟨k + 1, d, r, F, G, by have := HLT.out; omega, by go_num, rfl, rfl, HBX.out.imp (fun u h => h.1), HK⟩
                case measure => have := HLT.out; simp [intOf]; omega
              | false =>
                have HSK := Lib.hid (skip_no HZ.out HK2.out HG2.out HL5.out (HEA.out.trans beqA) (HEB.out.trans beqA))
                obtain ⟨F', hF'⟩ : ∃ F', F' = stepF room x F := ⟨_, rfl⟩
                have HFE := Lib.hid hF'
                have HKS := Lib.hid (keep_step HK.out room x HSK.out.1 HSK.out.2)
                rw [← hF'] at HKS
                obtain ⟨H, hH⟩ : ∃ H, H = (cur F a.data.toList).data := ⟨_, rfl⟩
                obtain ⟨hn, hhn⟩ : ∃ n, n = H.length := ⟨_, rfl⟩
                have HHN := Lib.hid hhn
                have HHL : Hid (H.length ≤ 1048576) := by rw [hH]; exact Nat.le_trans (tot_mem (there_cur HK.out.th)) (Nat.le_trans HBX.out.nums.2.2.1 HBX.out.nums.2.1)
                have HRO := Lib.hid (read_own HBX.out.live HA.out (seek_there HGD.out HK.out.th) (bs := H) hH)
                rw [← hhn] at HRO
                rw [← hH] at HKS
                clear hH hhn hF'
                go_wp2_with fail
                refine HRO.out.mono ?_
                rintro e w8 ⟨A3, c3, rfl, ho8, hx8⟩
                have HO8 := Lib.hid ho8
                have HX8 := Lib.hid hx8
                clear ho8 hx8 p0 p1 p2 p3 p4 HRO
                have p0 := HJ0.out w8 (HBX.out.ext HX8.out).p.2
                have p1 := HJ1.out w8 (HBX.out.ext HX8.out).p.2
                have p2 := HJ2.out w8 (HBX.out.ext HX8.out).p.2
                have p3 := HJ3.out w8 (HBX.out.ext HX8.out).p.2
                have p4 := HJ4.out w8 (HBX.out.ext HX8.out).p.2
                have HDT : Hid (Bs w8 0 w8.heap.size (.slice x.dA x.dat.length x.dc) (nat8 x.dat)) := (HXI.out.1.ext (HBX.out.ext HX8.out).base).dat
                go_upto_region 19 with (fail)
                obtain ⟨k1, hk1⟩ : ∃ z, z = (x.kind == 1) := ⟨_, rfl⟩
                have HK1 := Lib.hid hk1
                replace hk1 := hk1.symm
                have heA := HEA.out.symm
                obtain ⟨H2, hH2⟩ : ∃ H2, H2 = hadB x a.data.toList H := ⟨_, rfl⟩
                have HH2 := Lib.hid hH2
                obtain ⟨h2, hh2⟩ : ∃ n, n = H2.length := ⟨_, rfl⟩
                have HHN2 := Lib.hid hh2
                rw [← hH2] at HKS
                clear hH2 hh2
                obtain ⟨zh, hzh⟩ : ∃ z, z = (k1 && eA) := ⟨_, rfl⟩
                have HZH := Lib.hid hzh
                clear hzh
                go_cut [139] from 94 to 202 (fun v wx => v = .bool zh ∧ wx = w8)
                case first =>
                  cases k1 with
                  | false =>
                    go_wp2_with fail
                    go_meet
                    case rel => exact ⟨by rw [HZH.out]; rfl, rfl⟩
                  | true =>
                  cases eA with
                  | false =>
                    go_wp2_with fail
                    go_meet
                    case rel => exact ⟨by rw [HZH.out]; rfl, rfl⟩
                  | true =>
                    go_wp2_with fail
                    go_meet
                    case rel => exact ⟨by rw [HZH.out]; rfl, rfl⟩
                case rest =>
                rename_i K1 hK1
                obtain ⟨hv, hw⟩ := hcut
                subst hv
                replace hw := hw.symm
                subst hw
                clear hk1 heA
                refine hK1 _ _ ?_
                go_cut [17] from 94 to 202 (fun v wx => ∃ (A4 : Option Addr) (c4 : Nat), v = .slice A4 h2 c4 ∧ Hid (Own wb.heap.size H2 (.slice A4 h2 c4) wx) ∧ Hid (Ext wb wx))
                case first =>
                  cases zh with
                  | false =>
                    have HHE : Hid (H2 = H) := HH2.out.trans (had_no fun q => by
                      have h1 := HZH.out
                      rw [HK1.out, HEA.out.trans beqA, q.1, decide_eq_true q.2] at h1
                      cases h1)
                    have HNE : Hid (h2 = hn) := by rw [HHN2.out, HHN.out, HHE.out]; exact Lib.hid rfl
                    go_wp2_with fail
                    go_meet
                    case rel => exact ⟨A3, c3, by rw [HNE.out], by rw [HHE.out, HNE.out]; exact HO8.out, HX8.out⟩
                  | true =>
                    have hzz := (Bool.and_eq_true_iff.1 HZH.out.symm)
                    have HKE : Hid (x.kind = 1) := Lib.hid (by have h1 := HK1.out.symm.trans hzz.1; simpa using h1)
                    have HHE : Hid (H2 = H ++ nat8 x.dat) := HH2.out.trans (had_yes HKE.out (of_decide_eq_true ((HEA.out.trans beqA).symm.trans hzz.2)))
                    have HO8' : Hid (Own wb.heap.size H (.slice A3 hn c3) w8) := HO8
                    clear hzz
                    go_wp2_with (at_builtin; refine wpList_addbytes rfl (.tmp 140) (.tmp 142) rfl wb.heap.size _ H rfl HO8'.out 0 w8.heap.size _ (nat8 x.dat) rfl HDT.out (by have := HHL.out; have := HXI.out.2; rw [nat8_len]; omega) HX8.out.size ?_)
                    intro A4 c4 w9 ho hb
                    have HX9 : Hid (Ext wb w9) := hb wb HX8.out
                    have HLS : Hid (h2 = H.length + (nat8 x.dat).length) := by rw [HHN2.out, HHE.out, List.length_append]; exact Lib.hid rfl
                    rw [← HHE.out, ← HLS.out] at ho
                    rw [← HLS.out]
                    have HO9 := Lib.hid ho
                    clear ho hb p0 p1 p2 p3 p4
                    go_wp2_with fail
                    go_meet
                    case rel => exact ⟨A4, c4, rfl, HO9.out, HX9.out⟩
                case rest =>
                  obtain ⟨A4, c4, hv, HO9, HX9⟩ := hcut
                  subst hv
                  clear p0 p1 p2 p3 p4
                  have HB9 := Lib.hid (HBX.out.add (Q := fun u => Own wb.heap.size H2 (.slice A4 h2 c4) u) HX9.out fun w'' hk _ => HO9.out.kept fun g hg => hk g (HO9.out.lt hg).1 (HO9.out.lt hg).2)
                  have HDO := Lib.hid (do_at HB9.out ((Stab.own.and (Stab.cells (by decide))).and Stab.own) HXI.out.1 HXI.out.2)
                  rw [← HFE.out] at HDO
                  have p0 := HJ0.out _ HB9.out.p.1.2
                  have p1 := HJ1.out _ HB9.out.p.1.2
                  have p2 := HJ2.out _ HB9.out.p.1.2
                  have p3 := HJ3.out _ HB9.out.p.1.2
                  have p4 := HJ4.out _ HB9.out.p.1.2
                  go_wp2_with fail
                  refine HDO.out.mono ?_
                  rintro e w10 ⟨d', r', G', rfl, hbo, _⟩
                  have HB10 := Lib.hid hbo
                  clear hbo p0 p1 p2 p3 p4 HDO
                  obtain ⟨NW, hNW⟩ : ∃ NW, NW = (cur F' a.data.toList).data := ⟨_, rfl⟩
                  obtain ⟨nn, hnn⟩ : ∃ n, n = NW.length := ⟨_, rfl⟩
                  have HNN := Lib.hid hnn
                  have HRO := Lib.hid (read_own HB10.out.live HA.out (seek_there HGD.out HKS.out.1.th) (bs := NW) hNW)
                  have HT1 : Hid (NW.take n0 = S0) := by rw [HN0.out, hNW]; exact HKS.out.1.eq
                  have HT2 : Hid (H2.take nn = NW) := by have h1 := HKS.out.2.2; rw [← hNW, ← hnn] at h1; exact h1
                  have HL1 : Hid (n0 ≤ nn) := by rw [HN0.out, hnn, hNW]; exact HKS.out.1.le
                  have HL2 : Hid (nn ≤ h2) := by rw [HHN2.out, hnn, hNW]; exact HKS.out.2.1
                  rw [← hnn] at HRO
                  clear hNW hnn
                  go_wp2_with fail
                  refine HRO.out.mono ?_
                  rintro e w11 ⟨A5, c5, rfl, ho11, hx11⟩
                  have HO11 := Lib.hid ho11
                  have HB11 := Lib.hid (HB10.out.ext hx11)
                  clear ho11 hx11 HRO
                  have HI5 : Hid (IsBytes (.slice A5 nn c5) NW w11) := HO11.out.bs
                  have HI1 : Hid (IsBytes (.slice A1 n0 c1) S0 w11) := by have h1 := HB11.out.p.1.1.bs; rw [HSV.out] at h1; exact h1
                  have HI4 : Hid (IsBytes (.slice A4 h2 c4) H2 w11) := HB11.out.p.2.bs
                  have HS1 : Hid (∀ u, (Instr.slice 35 (.slice A5 nn c5) none (some (.int .i64 (n0 : Int))) none).run Try.prog u = .ok (.slice A5 n0 c5) u) := fun u => byslice0 _ _ _ _ HL1.out (isBytes_cap HI5.out) u
                  have HS2 : Hid (∀ u, (Instr.slice 35 (.slice A4 h2 c4) none (some (.int .i64 (nn : Int))) none).run Try.prog u = .ok (.slice A4 nn c4) u) := fun u => byslice0 _ _ _ _ HL2.out (isBytes_cap HI4.out) u
                  have HC1 : Hid (∀ u, Ext w11 u → (convert 35 9 (.slice A5 n0 c5)).run Try.prog u = .ok (.string (tx S0)) u) := fun u hu => by
                    have h1 := isBytes_take HI5.out (j := n0) (by rw [← HNN.out]; exact HL1.out)
                    rw [HT1.out] at h1
                    exact cv_ext h1 hu
                  have HC2 : Hid (∀ u, Ext w11 u → (convert 35 9 (.slice A1 n0 c1)).run Try.prog u = .ok (.string (tx S0)) u) := fun u hu => cv_ext HI1.out hu
                  have HC3 : Hid (∀ u, Ext w11 u → (convert 35 9 (.slice A4 nn c4)).run Try.prog u = .ok (.string (tx NW)) u) := fun u hu => by
                    have h1 := isBytes_take HI4.out (j := nn) (by rw [← HHN2.out]; exact HL2.out)
                    rw [HT2.out] at h1
                    exact cv_ext h1 hu
                  have HC4 : Hid (∀ u, Ext w11 u → (convert 35 9 (.slice A5 nn c5)).run Try.prog u = .ok (.string (tx NW)) u) := fun u hu => cv_ext HI5.out hu
                  have HD1 : Hid (decide ((nn : Int) < (n0 : Int)) = false ∧ decide (nn < n0) = false) := by have := HL1.out; exact ⟨decide_eq_false (by omega), decide_eq_false (by omega)⟩
                  have HD2 : Hid (decide ((h2 : Int) < (nn : Int)) = false ∧ decide (h2 < nn) = false) := by have := HL2.out; exact ⟨decide_eq_false (by omega), decide_eq_false (by omega)⟩
                  go_upto_region 26 with (fail)
                  refine flow (by kernel_rfl) [Is (.int .i64 0), Is (.int .i64 0), Is (.bool false), Is (.bool false), Is (.slice A5 nn c5), Is (.int .i64 (nn : Int)), Is (.slice A1 n0 c1), Is (.int .i64 (n0 : Int)), Is (.bool false), Is (.bool false), Is (.bool false), Is (.slice A5 nn c5), Is (.slice A1 n0 c1), Is (.int .i64 (n0 : Int)), Is (.slice A5 n0 c5), Is (.string (tx S0)), Is (.slice A1 n0 c1), Is (.string (tx S0)), Is (.bool false), Is (.bool false), Is (.bool false), Is (.slice A5 nn c5), Is (.int .i64 (nn : Int)), Is (.slice A4 h2 c4), Is (.int .i64 (h2 : Int)), Is (.bool false), Is (.bool false), Is (.bool false), Is (.slice A4 h2 c4), Is (.slice A5 nn c5), Is (.int .i64 (nn : Int)), Is (.slice A4 nn c4), Is (.string (tx NW)), Is (.slice A5 nn c5), Is (.string (tx NW)), Is (.bool false), Is (.bool false)] (by kernel_rfl) (by kernel_rfl) ?mono (fun f1 => ?obl) ?fin
                  case mono =>
                    simp only [List.forall_mem_cons, List.not_mem_nil, false_imp_iff, implies_true, and_true]
                    exact ⟨.is _, .is _, .is _, .is _, .is _, .is _, .is _, .is _, .is _, .is _, .is _, .is _, .is _, .is _, .is _, .is _, .is _, .is _, .is _, .is _, .is _, .is _, .is _, .is _, .is _, .is _, .is _, .is _, .is _, .is _, .is _, .is _, .is _, .is _, .is _, .is _, .is _⟩
                  case fin =>
                    intro g1 u hu hg
                    simp only [puts, Act.put, List.setIfInBounds_toArray, List.set_cons_zero, List.set_cons_succ]
                    have h36 : g1 36 = .bool false := hg 36 (by decide)
                    rw [h36]
                    have HB12 := Lib.hid (HB11.out.ext (Ext.trans (Ext.drew w11) hu))
                    clear h36 hg
                    go_wp2_with fail
                    go_roundw
                    case rel => exact ⟨k + 1, d', r', F', G', by have := HLT.out; omega, by go_num, rfl, rfl, HB12.out.imp (fun u h => h.1.1), HKS.out.1⟩
                    case measure => have := HLT.out; simp [intOf]; omega
                  case obl =>
                    refine ⟨fun u hu hd => ?_, ?_⟩
                    · go_simp
                      exact ⟨Ext.refl _, rfl⟩
                    refine ⟨fun u hu hd => ?_, ?_⟩
                    · simp only [Act.put, List.setIfInBounds_toArray, List.set_cons_zero, List.set_cons_succ]
                      have e0 : f1 0 = .int .i64 0 := hd 0 (by kernel_rfl)
                      clear hd
                      go_simp
                      refine (num_any _ _).mono ?_
                      rintro e9 w9 ⟨rfl, rfl⟩
                      exact ⟨_, rfl, Ext.refl _, rfl⟩
                    refine ⟨fun u hu hd => ?_, ?_⟩
                    · simp only [Act.put, List.setIfInBounds_toArray, List.set_cons_zero, List.set_cons_succ]
                      have e1 : f1 1 = .int .i64 0 := hd 1 (by kernel_rfl)
                      have t : ((0 : Int) != 0) = false := by decide
                      clear hd
                      go_simp
                      exact ⟨Ext.refl _, rfl⟩
                    refine ⟨fun u hu hd => ?_, ?_⟩
                    · simp only [Act.put, List.setIfInBounds_toArray, List.set_cons_zero, List.set_cons_succ]
                      have e2 : f1 2 = .bool false := hd 2 (by kernel_rfl)
                      go_simp
                      exact ⟨Ext.refl _, rfl⟩
                    refine ⟨fun u hu hd => ?_, ?_⟩
                    · simp only [Act.put, List.setIfInBounds_toArray, List.set_cons_zero, List.set_cons_succ]
                      have e3 : f1 3 = .bool false := hd 3 (by kernel_rfl)
                      go_simp
                      exact ⟨Ext.refl _, rfl⟩
                    refine ⟨fun u hu hd => ?_, ?_⟩
                    · simp only [Act.put, List.setIfInBounds_toArray, List.set_cons_zero, List.set_cons_succ]
                      have e3 : f1 3 = .bool false := hd 3 (by kernel_rfl)
                      have e4 : f1 4 = .slice A5 nn c5 := hd 4 (by kernel_rfl)
                      go_simp
                      exact ⟨Ext.refl _, rfl⟩
                    refine ⟨fun u hu hd => ?_, ?_⟩
                    · simp only [Act.put, List.setIfInBounds_toArray, List.set_cons_zero, List.set_cons_succ]
                      have e3 : f1 3 = .bool false := hd 3 (by kernel_rfl)
                      go_simp
                      exact ⟨Ext.refl _, rfl⟩
                    refine ⟨fun u hu hd => ?_, ?_⟩
                    · simp only [Act.put, List.setIfInBounds_toArray, List.set_cons_zero, List.set_cons_succ]
                      have e3 : f1 3 = .bool false := hd 3 (by kernel_rfl)
                      have e6 : f1 6 = .slice A1 n0 c1 := hd 6 (by kernel_rfl)
                      go_simp
                      exact ⟨Ext.refl _, rfl⟩
                    refine ⟨fun u hu hd => ?_, ?_⟩
                    · simp only [Act.put, List.setIfInBounds_toArray, List.set_cons_zero, List.set_cons_succ]
                      have e3 : f1 3 = .bool false := hd 3 (by kernel_rfl)
                      have e5 : f1 5 = .int .i64 (nn : Int) := hd 5 (by kernel_rfl)
                      have e7 : f1 7 = .int .i64 (n0 : Int) := hd 7 (by kernel_rfl)
                      have t := HD1.out.1
                      have t2 := HD1.out.2
                      clear hd
                      go_simp
                      exact ⟨Ext.refl _, rfl⟩
                    refine ⟨fun u hu hd => ?_, ?_⟩
                    · simp only [Act.put, List.setIfInBounds_toArray, List.set_cons_zero, List.set_cons_succ]
                      have e3 : f1 3 = .bool false := hd 3 (by kernel_rfl)
                      have e8 : f1 8 = .bool false := hd 8 (by kernel_rfl)
                      go_simp
                      exact ⟨Ext.refl _, rfl⟩
                    refine ⟨fun u hu hd => ?_, ?_⟩
                    · simp only [Act.put, List.setIfInBounds_toArray, List.set_cons_zero, List.set_cons_succ]
                      have e9 : f1 9 = .bool false := hd 9 (by kernel_rfl)
                      go_simp
                      exact ⟨Ext.refl _, rfl⟩
                    refine ⟨fun u hu hd => ?_, ?_⟩
                    · simp only [Act.put, List.setIfInBounds_toArray, List.set_cons_zero, List.set_cons_succ]
                      have e10 : f1 10 = .bool false := hd 10 (by kernel_rfl)
                      go_simp
                      exact ⟨Ext.refl _, rfl⟩
                    refine ⟨fun u hu hd => ?_, ?_⟩
                    · simp only [Act.put, List.setIfInBounds_toArray, List.set_cons_zero, List.set_cons_succ]
                      have e10 : f1 10 = .bool false := hd 10 (by kernel_rfl)
                      go_simp
                      exact ⟨Ext.refl _, rfl⟩
                    refine ⟨fun u hu hd => ?_, ?_⟩
                    · simp only [Act.put, List.setIfInBounds_toArray, List.set_cons_zero, List.set_cons_succ]
                      have e10 : f1 10 = .bool false := hd 10 (by kernel_rfl)
                      have e12 : f1 12 = .slice A1 n0 c1 := hd 12 (by kernel_rfl)
                      go_simp
                      exact ⟨Ext.refl _, rfl⟩
                    refine ⟨fun u hu hd => ?_, ?_⟩
                    · simp only [Act.put, List.setIfInBounds_toArray, List.set_cons_zero, List.set_cons_succ]
                      have e10 : f1 10 = .bool false := hd 10 (by kernel_rfl)
                      have e11 : f1 11 = .slice A5 nn c5 := hd 11 (by kernel_rfl)
                      have e13 : f1 13 = .int .i64 (n0 : Int) := hd 13 (by kernel_rfl)
                      have t := HS1.out u
                      clear hd
                      go_simp
                      exact ⟨Ext.refl _, rfl⟩
                    refine ⟨fun u hu hd => ?_, ?_⟩
                    · simp only [Act.put, List.setIfInBounds_toArray, List.set_cons_zero, List.set_cons_succ]
                      have e10 : f1 10 = .bool false := hd 10 (by kernel_rfl)
                      have e14 : f1 14 = .slice A5 n0 c5 := hd 14 (by kernel_rfl)
                      have hu2 := Ext.trans (Ext.drew w11) hu
                      have t := HC1.out u hu2
                      clear hd
                      go_simp
                      exact ⟨Ext.refl _, rfl⟩
                    refine ⟨fun u hu hd => ?_, ?_⟩
                    · simp only [Act.put, List.setIfInBounds_toArray, List.set_cons_zero, List.set_cons_succ]
                      have e10 : f1 10 = .bool false := hd 10 (by kernel_rfl)
                      go_simp
                      exact ⟨Ext.refl _, rfl⟩
                    refine ⟨fun u hu hd => ?_, ?_⟩
                    · simp only [Act.put, List.setIfInBounds_toArray, List.set_cons_zero, List.set_cons_succ]
                      have e10 : f1 10 = .bool false := hd 10 (by kernel_rfl)
                      have e16 : f1 16 = .slice A1 n0 c1 := hd 16 (by kernel_rfl)
                      have hu2 := Ext.trans (Ext.drew w11) hu
                      have t := HC2.out u hu2
                      clear hd
                      go_simp
                      exact ⟨Ext.refl _, rfl⟩
                    refine ⟨fun u hu hd => ?_, ?_⟩
                    · simp only [Act.put, List.setIfInBounds_toArray, List.set_cons_zero, List.set_cons_succ]
                      have e10 : f1 10 = .bool false := hd 10 (by kernel_rfl)
                      have e15 : f1 15 = .string (tx S0) := hd 15 (by kernel_rfl)
                      have e17 : f1 17 = .string (tx S0) := hd 17 (by kernel_rfl)
                      have t : ((tx S0).toList == (tx S0).toList) = true := by simp
                      clear hd
                      go_simp
                      exact ⟨Ext.refl _, rfl⟩
                    refine ⟨fun u hu hd => ?_, ?_⟩
                    · simp only [Act.put, List.setIfInBounds_toArray, List.set_cons_zero, List.set_cons_succ]
                      have e10 : f1 10 = .bool false := hd 10 (by kernel_rfl)
                      have e18 : f1 18 = .bool false := hd 18 (by kernel_rfl)
                      go_simp
                      exact ⟨Ext.refl _, rfl⟩
                    refine ⟨fun u hu hd => ?_, ?_⟩
                    · simp only [Act.put, List.setIfInBounds_toArray, List.set_cons_zero, List.set_cons_succ]
                      have e19 : f1 19 = .bool false := hd 19 (by kernel_rfl)
                      go_simp
                      exact ⟨Ext.refl _, rfl⟩
                    refine ⟨fun u hu hd => ?_, ?_⟩
                    · simp only [Act.put, List.setIfInBounds_toArray, List.set_cons_zero, List.set_cons_succ]
                      have e20 : f1 20 = .bool false := hd 20 (by kernel_rfl)
                      go_simp
                      exact ⟨Ext.refl _, rfl⟩
                    refine ⟨fun u hu hd => ?_, ?_⟩
                    · simp only [Act.put, List.setIfInBounds_toArray, List.set_cons_zero, List.set_cons_succ]
                      have e20 : f1 20 = .bool false := hd 20 (by kernel_rfl)
                      have e21 : f1 21 = .slice A5 nn c5 := hd 21 (by kernel_rfl)
                      go_simp
                      exact ⟨Ext.refl _, rfl⟩
                    refine ⟨fun u hu hd => ?_, ?_⟩
                    · simp only [Act.put, List.setIfInBounds_toArray, List.set_cons_zero, List.set_cons_succ]
                      have e20 : f1 20 = .bool false := hd 20 (by kernel_rfl)
                      go_simp
                      exact ⟨Ext.refl _, rfl⟩
                    refine ⟨fun u hu hd => ?_, ?_⟩
                    · simp only [Act.put, List.setIfInBounds_toArray, List.set_cons_zero, List.set_cons_succ]
                      have e20 : f1 20 = .bool false := hd 20 (by kernel_rfl)
                      have e23 : f1 23 = .slice A4 h2 c4 := hd 23 (by kernel_rfl)
                      go_simp
                      exact ⟨Ext.refl _, rfl⟩
                    refine ⟨fun u hu hd => ?_, ?_⟩
                    · simp only [Act.put, List.setIfInBounds_toArray, List.set_cons_zero, List.set_cons_succ]
                      have e20 : f1 20 = .bool false := hd 20 (by kernel_rfl)
                      have e22 : f1 22 = .int .i64 (nn : Int) := hd 22 (by kernel_rfl)
                      have e24 : f1 24 = .int .i64 (h2 : Int) := hd 24 (by kernel_rfl)
                      have t := HD2.out.1
                      have t2 := HD2.out.2
                      clear hd
                      go_simp
                      exact ⟨Ext.refl _, rfl⟩
                    refine ⟨fun u hu hd => ?_, ?_⟩
                    · simp only [Act.put, List.setIfInBounds_toArray, List.set_cons_zero, List.set_cons_succ]
                      have e20 : f1 20 = .bool false := hd 20 (by kernel_rfl)
                      have e25 : f1 25 = .bool false := hd 25 (by kernel_rfl)
                      go_simp
                      exact ⟨Ext.refl _, rfl⟩
                    refine ⟨fun u hu hd => ?_, ?_⟩
                    · simp only [Act.put, List.setIfInBounds_toArray, List.set_cons_zero, List.set_cons_succ]
                      have e26 : f1 26 = .bool false := hd 26 (by kernel_rfl)
                      go_simp
                      exact ⟨Ext.refl _, rfl⟩
                    refine ⟨fun u hu hd => ?_, ?_⟩
                    · simp only [Act.put, List.setIfInBounds_toArray, List.set_cons_zero, List.set_cons_succ]
                      have e27 : f1 27 = .bool false := hd 27 (by kernel_rfl)
                      go_simp
                      exact ⟨Ext.refl _, rfl⟩
                    refine ⟨fun u hu hd => ?_, ?_⟩
                    · simp only [Act.put, List.setIfInBounds_toArray, List.set_cons_zero, List.set_cons_succ]
                      have e27 : f1 27 = .bool false := hd 27 (by kernel_rfl)
                      go_simp
                      exact ⟨Ext.refl _, rfl⟩
                    refine ⟨fun u hu hd => ?_, ?_⟩
                    · simp only [Act.put, List.setIfInBounds_toArray, List.set_cons_zero, List.set_cons_succ]
                      have e27 : f1 27 = .bool false := hd 27 (by kernel_rfl)
                      have e29 : f1 29 = .slice A5 nn c5 := hd 29 (by kernel_rfl)
                      go_simp
                      exact ⟨Ext.refl _, rfl⟩
                    refine ⟨fun u hu hd => ?_, ?_⟩
                    · simp only [Act.put, List.setIfInBounds_toArray, List.set_cons_zero, List.set_cons_succ]
                      have e27 : f1 27 = .bool false := hd 27 (by kernel_rfl)
                      have e28 : f1 28 = .slice A4 h2 c4 := hd 28 (by kernel_rfl)
                      have e30 : f1 30 = .int .i64 (nn : Int) := hd 30 (by kernel_rfl)
                      have t := HS2.out u
                      clear hd
                      go_simp
                      exact ⟨Ext.refl _, rfl⟩
                    refine ⟨fun u hu hd => ?_, ?_⟩
                    · simp only [Act.put, List.setIfInBounds_toArray, List.set_cons_zero, List.set_cons_succ]
                      have e27 : f1 27 = .bool false := hd 27 (by kernel_rfl)
                      have e31 : f1 31 = .slice A4 nn c4 := hd 31 (by kernel_rfl)
                      have hu2 := Ext.trans (Ext.drew w11) hu
                      have t := HC3.out u hu2
                      clear hd
                      go_simp
                      exact ⟨Ext.refl _, rfl⟩
                    refine ⟨fun u hu hd => ?_, ?_⟩
                    · simp only [Act.put, List.setIfInBounds_toArray, List.set_cons_zero, List.set_cons_succ]
                      have e27 : f1 27 = .bool false := hd 27 (by kernel_rfl)
                      go_simp
                      exact ⟨Ext.refl _, rfl⟩
                    refine ⟨fun u hu hd => ?_, ?_⟩
                    · simp only [Act.put, List.setIfInBounds_toArray, List.set_cons_zero, List.set_cons_succ]
                      have e27 : f1 27 = .bool false := hd 27 (by kernel_rfl)
                      have e33 : f1 33 = .slice A5 nn c5 := hd 33 (by kernel_rfl)
                      have hu2 := Ext.trans (Ext.drew w11) hu
                      have t := HC4.out u hu2
                      clear hd
                      go_simp
                      exact ⟨Ext.refl _, rfl⟩
                    refine ⟨fun u hu hd => ?_, ?_⟩
                    · simp only [Act.put, List.setIfInBounds_toArray, List.set_cons_zero, List.set_cons_succ]
                      have e27 : f1 27 = .bool false := hd 27 (by kernel_rfl)
                      have e32 : f1 32 = .string (tx NW) := hd 32 (by kernel_rfl)
                      have e34 : f1 34 = .string (tx NW) := hd 34 (by kernel_rfl)
                      have t : ((tx NW).toList == (tx NW).toList) = true := by simp
                      clear hd
                      go_simp
                      exact ⟨Ext.refl _, rfl⟩
                    refine ⟨fun u hu hd => ?_, ?_⟩
                    · simp only [Act.put, List.setIfInBounds_toArray, List.set_cons_zero, List.set_cons_succ]
                      have e27 : f1 27 = .bool false := hd 27 (by kernel_rfl)
                      have e35 : f1 35 = .bool false := hd 35 (by kernel_rfl)
                      go_simp
                      exact ⟨Ext.refl _, rfl⟩
                    trivial
          · have e1 : decide ((k : Int) < (M : Int)) = false := decide_eq_false (by omega)
            have e1n : decide (k < M) = false := decide_eq_false hlt
            go_wp2_with fail
            go_ret
            exact ⟨rfl, Ext.trans HXV.out HB.out.base⟩
end Go.Proofs.Ytenhfphgobalfaa

/- DiskKeeps: from the walk to the statement. For every input the law answers true and leaves its arguments as they were. -/
namespace Go.Proofs.Ytenhfphgobalfaa
open Go.RowKit Go.Maps
theorem dkeeps_all (w : World) (a0 : Int) (h0 : (Lit.int .i64 a0).wf = true) (A : Option Addr) (c : Nat) (X : List Stp) (hs : StpsI w A X) (a : ByteArray) (ha : a.size ≤ maxLen)
    (v : Value) (l : List Nat) (hl : ∀ b ∈ l, b < 256) (hb : Bs w 0 w.heap.size v l) (A2 : Option Addr) (c2 : Nat) (Y : List Stp) (hs2 : StpsI w A2 Y) :
    Calls Try.prog 5 #[.int .i64 a0, .slice A X.length c, .string a, v, .slice A2 Y.length c2] w fun e w' => e = .returned (.bool true) ∧ Ext w w' := by
  obtain ⟨bs, rfl⟩ := list_nat8 hl
  obtain ⟨A0, c0, rfl, h1⟩ := id hb
  rw [nat8_len] at hb ⊢
  exact dkeeps_walk w a0 h0 A c X hs a ha A0 c0 bs hb A2 c2 Y hs2
end Go.Proofs.Ytenhfphgobalfaa

namespace Go.Proofs.Ytenhfphgobalfaa.diskKeeps
open Go.ChangeShapes Go.WideShapes Go.ChangeAt Go.RowKit
set_option linter.unusedVariables false

set_option maxRecDepth 100000 in
theorem lifted (os : Os) (started : os.Started) (H : Type) (enc : TypeId × Value → H) :
    ReturnsInHanded {} Try.checked os 5 .any (Rows.diskKeepsSpec.pre6 enc Try.prog Try.f5 Rows.diskKeepsRow.domain false) (Rows.diskKeepsSpec.post enc Try.prog Try.f5 false true false false) := by
  refine returnsInHanded_of_change (C := Try.checked) own started (by kernel_rfl) Try.func5
    (ChangeSpec.witness6 (enc := enc) (C := Try.checked) false ⟨#[], #[.int .i64 0, .slice none 0 0, .string ⟨#[]⟩, .slice none 0 0, .slice none 0 0], []⟩ 8 (by kernel_rfl) (by kernel_rfl) (by kernel_rfl) (by kernel_rfl)) ?_
  intro W base args ds gs before hval0 hW hcnd _
  have hval : ∀ (j : Nat) t v, Try.f5.params[j]? = some t → args[j]? = some v → Value.okWide Try.prog W .any base t v := hval0
  have hW' := hW
  obtain ⟨p, q, hA0, hV, rfl, hfz, hnd⟩ := hW
  have hA : DataW.TrodAll enc Try.prog W 0 (fun _ => true) true Try.f5.params.toList args.toList ds p := hA0
  rw [Try.params5] at hA hval
  obtain ⟨v0, vs0, d0, ds0, p0, q0, hargs, rfl, rfl, h0, r0⟩ := trodAll_cons hA
  obtain ⟨v1, vs1, d1, ds1, p1, q1, rfl, rfl, rfl, h1, r1⟩ := trodAll_cons r0
  obtain ⟨v2, vs2, d2, ds2, p2, q2, rfl, rfl, rfl, h2, r2⟩ := trodAll_cons r1
  obtain ⟨v3, vs3, d3, ds3, p3, q3, rfl, rfl, rfl, h3, r3⟩ := trodAll_cons r2
  obtain ⟨v4, vs4, d4, ds4, p4, q4, rfl, rfl, rfl, h4, r4⟩ := trodAll_cons r3
  obtain ⟨rfl, rfl, rfl⟩ := trodAll_nil r4
  obtain rfl : args = #[v0, v1, v2, v3, v4] := by cases args; simp_all
  obtain ⟨rfl, rfl⟩ := trodVars_none hV
  obtain ⟨a0, rfl, rfl, rfl, w0⟩ := open_int Try.underlying3 (hval 0 3 v0 rfl rfl) h0
  have k1 := h1
  have lt1 : ∀ x ∈ p1, x.block < W.heap.size := by obtain ⟨m, hm⟩ := k1; exact DataW.trod_lt m _ _ _ hm
  obtain ⟨A1, c1, X1, rfl, s1⟩ := open_steps (hval 1 22 v1 rfl rfl) h1
  obtain ⟨a2, rfl, rfl, rfl, w2⟩ := Go.ChangeMaps.open_string Try.underlying9 (hval 2 9 v2 rfl rfl) h2
  have k3 := h3
  have lt3 : ∀ x ∈ p3, x.block < W.heap.size := by obtain ⟨m, hm⟩ := k3; exact DataW.trod_lt m _ _ _ hm
  obtain ⟨l3, y3, b3⟩ := open_bytes (hval 3 35 v3 rfl rfl) h3
  have k4 := h4
  have lt4 : ∀ x ∈ p4, x.block < W.heap.size := by obtain ⟨m, hm⟩ := k4; exact DataW.trod_lt m _ _ _ hm
  obtain ⟨A4, c4, X4, rfl, s4⟩ := open_steps (hval 4 22 v4 rfl rfl) h4
  clear hA0 hval0
  refine (dkeeps_all W a0 w0 A1 c1 X1 s1 a2 w2 v3 l3 y3 b3 A4 c4 X4 s4).mono fun e W' ⟨he, bel⟩ => ?_
  subst he
  exact ⟨_, rfl, _, _, _, [], _, [], hW', trodAll_mk1 (shut_bool Try.underlying4 _), (trodAll_cons_mk (shut_int Try.underlying3 w0) (trodAll_cons_mk (Below.trod laidOut (by kernel_rfl) (of_decide_eq_true (by kernel_rfl)) k1 bel lt1) (trodAll_cons_mk (Go.ChangeMaps.shut_string Try.underlying9 w2) (trodAll_cons_mk (Below.trod laidOut (by kernel_rfl) (of_decide_eq_true (by kernel_rfl)) k3 bel lt3) (trodAll_cons_mk (Below.trod laidOut (by kernel_rfl) (of_decide_eq_true (by kernel_rfl)) k4 bel lt4) trodAll_mk0))))), rfl, bel.frame _, fun h => by cases h⟩

theorem over : Rows.diskKeepsRow.holds Try.pinned (OpenSpec.ofChange Rows.diskKeepsSpec) :=
  OpenClaim.holds_of_wide 5 Try.f5 rfl rfl rfl rfl rfl rfl rfl ⟨rfl, rfl, rfl, rfl, rfl⟩ rfl rfl rfl rfl rfl (by kernel_rfl) Try.func5 (by kernel_rfl)
    (of_decide_eq_true (by kernel_rfl)) (by unfold Func.isWrapper; first | (rw [if_pos (by decide +kernel)]; kernel_rfl) | (rw [if_neg (by decide +kernel)]; exact ⟨rfl, rfl⟩))
    (fun os started H enc _ => lifted os started H enc)

theorem proved : Rows.DiskKeepsSaid := over
end Go.Proofs.Ytenhfphgobalfaa.diskKeeps
