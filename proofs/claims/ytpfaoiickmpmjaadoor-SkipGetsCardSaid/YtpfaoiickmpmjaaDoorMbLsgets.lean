/- Lsgets Psgets, joined. -/
import Derived.Test.YtpfaoiickmpmjaaDoorMb10
import Derived.Test.YtpfaoiickmpmjaaDoorMb12
import Derived.Test.YtpfaoiickmpmjaaDoorMb3
import Derived.Test.YtpfaoiickmpmjaaDoorCards
import Derived.Test.YtpfaoiickmpmjaaDoorTie
import Derived.WalkKit
import Derived.ProofKit
import Derived.OpenShut
import Derived.Deep.DeepHandedRow
import Derived.Lib.LaidTab

/- SkipGets: the walk. -/
namespace Go.Proofs.YtpfaoiickmpmjaaDoor.skipGets
open Go.ChangeShapes Go.WideShapes Go.ChangeAt Go.RowKit Go.Shelf

theorem frozen_on {w u : World} {p : Addr} {v : Value} (hc : w.cell? p = some v) (hf : w.frozen? p = false) (h : Ext w u) : u.frozen? p = false := by
  have hb := h.block p.block (World.block_lt_of_cell? _ _ hc)
  unfold World.frozen? at *
  rw [hb]; exact hf
theorem spent_later {w u : World} {ro : Option Nat} {A : Option Addr} {n : Nat} (h : Spent w ro A n) (hx : Ext w u) : Spent u ro A n := by
  intro j hj
  obtain ⟨g, e1, e2, ⟨x, hx1, hc⟩, hf⟩ := h j hj
  exact ⟨g, e1, e2, ⟨x, hx1, ext_cell hx hc⟩, frozen_on hc hf hx⟩
/-- The entry that is answered, and the number. -/
def gotE (o : Option Ent) : Ent := o.getD zeroE
def gotN (o : Option Ent) : Int := if o.isSome then 0 else 6
theorem get_said {w : World} {D : Nat → Prop} {lb hb lo hi kc : Nat} {kA : Option Addr} {T : List Tw} {key : List Nat} {s : Int} (h : Sk w D lb hb T) (hk : Bs w lo hi (.slice kA key.length kc) key) (hhi : hi ≤ w.heap.size) (bk : ∀ x ∈ key, x < 256) (s1 : -9223372036854775808 ≤ s) (s2 : s ≤ 9223372036854775807) (_hl : key.length ≤ 9000) :
    Calls Tryd.prog 20 #[.pointer (some ⟨lb, 0, none⟩), .slice kA key.length kc, .int .i64 s] w fun e w' => ∃ g : Hd, e = .returned (.tuple #[(gotE (getE (T.map Tw.e) key s)).at_ g, .int .i64 (gotN (getE (T.map Tw.e) key s))]) ∧
      Own w.heap.size (gotE (getE (T.map Tw.e) key s)).key (.slice g.kA (gotE (getE (T.map Tw.e) key s)).key.length g.kc) w' ∧ Own w.heap.size (gotE (getE (T.map Tw.e) key s)).val (.slice g.vA (gotE (getE (T.map Tw.e) key s)).val.length g.vc) w' ∧ Ext w w' := by
  refine (sget_any h hk hhi bk s1 s2).mono ?_
  rintro e w' ⟨hx, hm⟩
  cases ho : getE (T.map Tw.e) key s with
  | none => rw [ho] at hm; exact ⟨⟨none, 0, none, 0⟩, hm, Own.nil _ _, Own.nil _ _, hx⟩
  | some x => rw [ho] at hm; obtain ⟨g, h1, h2, h3⟩ := hm; exact ⟨g, h1, h2, h3, hx⟩
theorem rget_said {w : World} {lo2 hi hi2 : Nat} {A kA : Option Addr} {c kc : Nat} {R : List (Ent × Hd)} {key : List Nat} {s : Int} (h : Es w 0 hi A R) (hhi : hi ≤ w.heap.size) (hlen : R.length ≤ 1000000)
    (hk : Bs w lo2 hi2 (.slice kA key.length kc) key) (hhi2 : hi2 ≤ w.heap.size) (bk : ∀ x ∈ key, x < 256) {oo : Option Ent} (hoo : oo = (R.map Prod.fst).find? (seenE key s)) :
    Calls Tryd.prog 21 #[.slice A R.length c, .slice kA key.length kc, .int .i64 s] w fun e w' => ∃ g : Hd, e = .returned (.tuple #[(gotE oo).at_ g, .int .i64 (gotN oo)]) ∧ Em w 0 hi (gotE oo) g ∧ Ext w w' := by
  refine (rget_any h hhi hlen hk hhi2 bk).mono ?_
  rintro e w' ⟨hx, hm⟩
  rw [← hoo] at hm
  cases oo with
  | none => exact ⟨⟨none, 0, none, 0⟩, hm, ⟨Bs.nil _ _ _, Bs.nil _ _ _, (fun x hx => by cases hx), (fun x hx => by cases hx), by decide, by decide, by decide, by decide⟩, hx⟩
  | some x => obtain ⟨g, h1, h2⟩ := hm; exact ⟨g, h1, h2, hx⟩
theorem got_len {l : List Ent} (h : ∀ e ∈ l, e.may = true) (q : Ent → Bool) : (gotE (l.find? q)).val.length ≤ 65536 := by
  cases ho : l.find? q with
  | none => simp [gotE, zeroE]
  | some x =>
    have h1 := mayN_iff.1 (h x (List.mem_of_find?_eq_some ho))
    show x.val.length ≤ 65536
    omega

set_option maxRecDepth 100000 in
set_option maxHeartbeats 16000000 in
theorem walk (W : World) (hT : Tab W) (A : Option Addr) (c : Nat) (L : List (Ent × Hd)) (_hlc : L.length ≤ c) (_hc : c ≤ maxLen) (hE : Es W 0 W.heap.size A L) (hln : ∀ p ∈ L, p.1.key.length ≤ 140737488351232 ∧ p.1.val.length ≤ 140737488351232) (hn : L.length ≤ 2199023255552)
    (v : Value) (key : List Nat) (bk : ∀ b ∈ key, b < 256) (hk : Bs W 0 W.heap.size v key) (s : Int) (hs : (Lit.int .i64 s).wf = true) :
    Calls Tryd.prog 5 #[.slice A L.length c, v, .int .i64 s] W fun e w' => e = .returned (.bool true) ∧ Below W.heap.size W w' := by
  have HKN : Hid (∀ u, Ext W u → Calls Tryd.prog 10 #[] u fun e w' => e = .returned (.bool true) ∧ Below u.heap.size u w') := fun u hu => known_any (hT.ext hu)
  have HFEW := Lib.hid (few_any (c := c) hE (Nat.le_refl _) (by omega) hln)
  have HFILL : Hid (∀ u, Ext W u → FewE L → Calls Tryd.prog 14 #[.slice A L.length c] u (FillAns u (L.map Prod.fst))) := fun u hu hf => fill_any (hE.below hu (Nat.le_refl _)) hu.size (hT.ext hu) hf
  have HBK := Lib.hid bk
  have HK := Lib.hid hk
  have HSB := Lib.hid (i64_wf hs)
  obtain ⟨kA, kc, hv, hkc, hkm, hkr⟩ := hk
  subst hv
  have hkcI : (key.length : Int) ≤ 9223372036854775807 := by unfold maxLen at hkm; omega
  obtain ⟨y, hy⟩ : ∃ y, y = decide ((9000 : Int) < (key.length : Int)) := ⟨_, rfl⟩
  have q0 := hy.symm
  clear hE hln hn hT _hlc _hc hs bk hkc hkm hy hkr
  go_enter Tryd.func5, Tryd.ntmps5
  go_wp2_with fail
  refine Calls.mono HFEW.out ?_
  rintro e w1 ⟨z, hz, rfl, hx1⟩
  have HX1 : Hid (Ext W w1) := hx1
  have HZ := Lib.hid hz
  clear hz hx1 HFEW
  cases z with
  | false =>
    clear q0
    go_wp2_with fail
    refine Calls.mono (HKN.out w1 HX1.out) ?_
    rintro e w2 ⟨rfl, hx⟩
    have HX2 : Hid (Ext W w2) := Ext.trans HX1.out hx
    clear hx
    go_wp2_with fail
    go_ret
    exact ⟨rfl, HX2.out⟩
  | true =>
    cases y with
    | true =>
      go_wp2_with fail
      refine Calls.mono (HKN.out w1 HX1.out) ?_
      rintro e w2 ⟨rfl, hx⟩
      have HX2 : Hid (Ext W w2) := Ext.trans HX1.out hx
      clear hx
      go_wp2_with fail
      go_ret
      exact ⟨rfl, HX2.out⟩
    | false =>
      have HKL : Hid (key.length ≤ 9000) := by have := of_decide_eq_false q0; unfold Hid; omega
      go_wp2_with fail
      refine Calls.mono (HFILL.out w1 HX1.out (HZ.out (by trivial))) ?_
      rintro e w2 ⟨lb, hb, T, R, X, d, rfl, hs, hsame, hfill, hgot, hx2⟩
      have HX2 : Hid (Ext W w2) := Ext.trans HX1.out hx2
      have HRL : Hid (R.length ≤ 1000000) := by
        have h1 := congrArg List.length hfill
        have h2 := fillE_len (L.map Prod.fst)
        have h3 := (HZ.out (by trivial)).1
        simp only [List.length_map] at h1 h2
        unfold Hid; omega
      have HAM : Hid (AscM (R.map Prod.fst)) := by unfold Hid; rw [hfill]; exact fillE_asc _
      have HS := Lib.hid hs.tight
      have HES : Hid (Es w2 0 w2.heap.size X R) := hgot.rs
      have HKW : Hid (∀ u, Ext W u → Bs u 0 W.heap.size (.slice kA key.length kc) key ∧ W.heap.size ≤ u.heap.size) := fun u hu => ⟨HK.out.below hu (Nat.le_refl _), hu.size⟩
      obtain ⟨oo, hoo⟩ : ∃ oo, oo = getE (T.map Tw.e) key s := ⟨_, rfl⟩
      have HOO : Hid (oo = (R.map Prod.fst).find? (seenE key s)) := by
        rw [hoo, hsame, getE_find HAM.out.asc]; rfl
      have HGET : Hid (∀ u, Sk u (fun k => w1.heap.size ≤ k ∧ k < w2.heap.size) lb hb T → Ext W u → Calls Tryd.prog 20 #[.pointer (some ⟨lb, 0, none⟩), .slice kA key.length kc, .int .i64 s] u fun e w' => ∃ g : Hd, e = .returned (.tuple #[(gotE oo).at_ g, .int .i64 (gotN oo)]) ∧
          Own u.heap.size (gotE oo).key (.slice g.kA (gotE oo).key.length g.kc) w' ∧ Own u.heap.size (gotE oo).val (.slice g.vA (gotE oo).val.length g.vc) w' ∧ Ext u w') := fun u hsk hu => by
        rw [hoo]; exact get_said hsk (HKW.out u hu).1 (HKW.out u hu).2 HBK.out HSB.out.1 HSB.out.2 HKL.out
      have HVL : Hid ((gotE oo).val.length ≤ 65536) := by unfold Hid; rw [HOO.out]; exact got_len HAM.out.may _
      obtain ⟨x, hx⟩ : ∃ x, x = gotE oo := ⟨_, rfl⟩
      obtain ⟨m, hm⟩ : ∃ m, m = gotN oo := ⟨_, rfl⟩
      have HXE := Lib.hid hx
      have HME := Lib.hid hm
      rw [← hx] at HVL
      rw [← hx, ← hm] at HGET
      clear hs hsame hfill hgot hx2 HFILL q0 hoo hx hm
      unfold Ent.at_ at HGET
      go_wp2_with fail
      refine Calls.mono (HGET.out w2 HS.out HX2.out) ?_
      rintro e w3 ⟨g, rfl, ok, ov, hx3⟩
      have HX3 : Hid (Ext w2 w3) := hx3
      have HOK := Lib.hid ok
      have HOV := Lib.hid ov
      clear hx3 ok ov
      go_upto_region 7 with (fail)
      obtain ⟨w4, hw4⟩ : ∃ w4, w4 = w3.alloc (.cells #[.slice g.kA x.key.length g.kc, .int .i64 x.seq, .int .i64 x.kind, .slice g.vA x.val.length g.vc] 40) := ⟨_, rfl⟩
      have HX4 : Hid (Ext w3 w4) := by rw [hw4]; exact ext_alloc _ _
      have HB4 : Hid (w4.heap[w3.heap.size]? = some (.cells #[.slice g.kA x.key.length g.kc, .int .i64 x.seq, .int .i64 x.kind, .slice g.vA x.val.length g.vc] 40 (0, 0))) := by rw [hw4]; exact heap_at _ _ rfl
      have HX24 : Hid (Ext w2 w4) := Ext.trans HX3.out HX4.out
      rw [← hw4]
      clear hw4
      have HRG := Lib.hid (rget_said (c := d) (s := s) (HES.out.below HX24.out (Nat.le_refl _)) HX24.out.size HRL.out (HKW.out w4 (Ext.trans HX2.out HX24.out)).1 (HKW.out w4 (Ext.trans HX2.out HX24.out)).2 HBK.out HOO.out)
      rw [← HXE.out, ← HME.out] at HRG
      unfold Ent.at_ at HRG
      go_wp2_with fail
      refine Calls.mono HRG.out ?_
      rintro e w5 ⟨g2, rfl, hm2, hx5⟩
      have HX5 : Hid (Ext w4 w5) := hx5
      have HM2 := Lib.hid hm2
      clear hx5 hm2 HRG
      go_upto_region 8 with (fail)
      obtain ⟨w6, hw6⟩ : ∃ w6, w6 = w5.alloc (.cells #[.slice g2.kA x.key.length g2.kc, .int .i64 x.seq, .int .i64 x.kind, .slice g2.vA x.val.length g2.vc] 40) := ⟨_, rfl⟩
      have HX6 : Hid (Ext w5 w6) := by rw [hw6]; exact ext_alloc _ _
      have HB6 : Hid (w6.heap[w5.heap.size]? = some (.cells #[.slice g2.kA x.key.length g2.kc, .int .i64 x.seq, .int .i64 x.kind, .slice g2.vA x.val.length g2.vc] 40 (0, 0))) := by rw [hw6]; exact heap_at _ _ rfl
      have HX46 : Hid (Ext w4 w6) := Ext.trans HX5.out HX6.out
      have HG : Hid (Good x) := HM2.out.good
      have HME6 : Hid (Em w6 0 w3.heap.size x g) := by
        have m3 : Em w3 0 w3.heap.size x g := ⟨HOK.out.bs, HOV.out.bs, HG.out.bk, HG.out.bv, HG.out.s1, HG.out.s2, HG.out.d1, HG.out.d2⟩
        exact m3.below (Ext.trans HX4.out HX46.out) (Nat.le_refl _)
      have HMW6 : Hid (Em w6 0 w2.heap.size x g2) := HM2.out.below HX46.out HX24.out.size
      have HSZ : Hid (w2.heap.size ≤ w3.heap.size ∧ w3.heap.size < w4.heap.size ∧ w4.heap.size ≤ w5.heap.size ∧ w5.heap.size < w6.heap.size) := ⟨HX3.out.size, (Array.getElem?_eq_some_iff.1 HB4.out).1, HX5.out.size, (Array.getElem?_eq_some_iff.1 HB6.out).1⟩
      have HSA := Lib.hid (rsame_any HME6.out HMW6.out (by have := HSZ.out; omega) (by have := HSZ.out; omega))
      unfold Ent.at_ at HSA
      rw [← hw6]
      clear hw6
      have a0 := cell_of (ext_heap HX46.out HB4.out) (k := 0) rfl
      have a1 := cell_of (ext_heap HX46.out HB4.out) (k := 1) rfl
      have a2 := cell_of (ext_heap HX46.out HB4.out) (k := 2) rfl
      have a3 := cell_of (ext_heap HX46.out HB4.out) (k := 3) rfl
      have b0 := cell_of HB6.out (k := 0) rfl
      have b1 := cell_of HB6.out (k := 1) rfl
      have b2 := cell_of HB6.out (k := 2) rfl
      have b3 := cell_of HB6.out (k := 3) rfl
      go_wp2_with fail
      refine HSA.out.mono ?_
      rintro e w7 ⟨z, hz, rfl, hx7⟩
      have hz1 : z = true := hz.2 (by trivial)
      subst hz1
      have HX7 : Hid (Ext w6 w7) := hx7
      clear hz hx7 a0 a1 a2 a3 b0 b1 b2 b3 HSA
      have q3 : (m != m) = false := by simp
      go_wp2_with fail
      refine Calls.mono (snum m w7) ?_
      rintro e w8 ⟨rfl, rfl⟩
      obtain ⟨S, hS⟩ : ∃ S : Nat → Prop, S = fun i => w2.heap.size ≤ i ∧ i < w3.heap.size := ⟨_, rfl⟩
      have HSS := Lib.hid (fun i => (congrFun hS i).to_iff)
      clear hS
      have HX47 : Hid (Ext w4 w7) := Ext.trans HX46.out HX7.out
      have HX27 : Hid (Ext w2 w7) := Ext.trans HX24.out HX47.out
      have HNX : Hid (∀ wz, Chg S w7 wz → Sk wz (fun k => w1.heap.size ≤ k ∧ k < w2.heap.size) lb hb T ∧ Ext W wz ∧ Em wz 0 w2.heap.size x g2 ∧ w2.heap.size ≤ wz.heap.size ∧ wz.heap[w5.heap.size]? = some (.cells #[.slice g2.kA x.key.length g2.kc, .int .i64 x.seq, .int .i64 x.kind, .slice g2.vA x.val.length g2.vc] 40 (0, 0))) := fun wz hz => by
        have hsz := HSZ.out
        have h7 := HX7.out.size
        have hzz := hz.size
        refine ⟨(HS.out.ext HX27.out).keep hz (fun q hq hd => by have := (HSS.out q).1 hq; have := hd.2; omega), ?_, (HMW6.out.below HX7.out (by omega)).keepC (by omega) hz (fun q hq => by have := (HSS.out q).1 hq; omega), by omega, ?_⟩
        · have h2 := HX2.out.size
          exact Below.trans (Ext.trans HX2.out HX27.out) (hz.below (fun q hq => by have := (HSS.out q).1 hq; omega) (by omega))
        · exact (hz.block w5.heap.size (by omega) (fun hq => by have := (HSS.out _).1 hq; omega)).trans (ext_heap HX7.out HB6.out)
      have HPB : Hid (∀ wz, Chg S w7 wz → wz.cell? ⟨w3.heap.size, 3, none⟩ = some (.slice g.vA x.val.length g.vc)) := fun wz hz => by
        have hsz := HSZ.out
        have h7 := HX7.out.size
        exact cell_of ((hz.block w3.heap.size (by omega) (fun hq => by have := (HSS.out _).1 hq; omega)).trans (ext_heap HX47.out HB4.out)) (k := 3) rfl
      have HRV : Hid (Spent w7 (Value.slice g.vA x.val.length g.vc).ownBlock g.vA x.val.length) := (Spent.of_own ((HOV.out.below HX4.out).below HX47.out) HG.out.bv).2
      have HLVS : Hid (∀ q, (Value.slice g.vA x.val.length g.vc).ownBlock = some q → S q) := fun q hq => (HSS.out q).2 (row_lt HOV.out q hq)
      obtain ⟨so, hso⟩ : ∃ so, so = (Value.slice g.vA x.val.length g.vc).ownBlock := ⟨_, rfl⟩
      rw [← hso] at HRV HLVS
      obtain ⟨M, hM⟩ : ∃ M, M = x.val.length := ⟨_, rfl⟩
      have hMI : M ≤ 65536 := by have := HVL.out; omega
      rw [← hM] at HRV HPB
      clear hso hM HX3 HX4 HX5 HX6 HX7 HB4 HB6 HME6 HMW6 HSZ HOK HOV HX24 HX46 HX47 HX27 HM2 HES
      go_wp2_with fail
      go_loopw [14] (fun q wz => ∃ j : Nat, j ≤ M ∧ q = .int .i64 (j : Int) ∧ Hid (Spent wz so g.vA M) ∧ Hid (Chg S w7 wz)) (fun q _ => M - (intOf q).toNat)
      case atStart => exact ⟨0, Nat.zero_le _, rfl, HRV, Lib.hid (Chg.refl _ _)⟩
      case round =>
        clear HRV
        obtain ⟨j, hj, rfl, HRV, HC⟩ := hrel
        have qc := HPB.out _ HC.out
        by_cases hlt : j < M
        · obtain ⟨gg, hrog, hAg, ⟨b, hb8, hcell⟩, hfz⟩ := HRV.out j hlt
          rw [hAg] at qc
          have e1 : decide ((j : Int) < (M : Int)) = true := decide_eq_true (by omega)
          have e1n : decide (j < M) = true := decide_eq_true hlt
          have HGG := Lib.hid hrog
          have hxr : bits .xor .u8 (b : Int) 1 = ((b ^^^ 1 : Nat) : Int) := u8_xor_nat b 1 hb8 (by omega)
          have HXL : Hid (b ^^^ 1 < 256) := Nat.xor_lt_two_pow (n := 8) hb8 (by omega)
          have m1 : (0 : Int) ≤ (j : Int) := by omega
          have m2 : (j : Int) < (M : Int) := by omega
          clear hrog hb8 hAg
          go_upto_region 13 with (fail)
          refine flow_tail (by kernel_rfl) [Is (.pointer (some ⟨w3.heap.size, 3, none⟩)), Is (.slice (some ⟨gg, 0, none⟩) M g.vc), Is (.int .i64 (j : Int)), Is (.pointer (some ⟨w3.heap.size, 3, none⟩)), Is (.slice (some ⟨gg, 0, none⟩) M g.vc), Is (.int .i64 (j : Int)), Is (.pointer (some ⟨gg, j, none⟩)), Is (.int .u8 (b : Int)), Is (.int .u8 ((b ^^^ 1 : Nat) : Int)), Is (.pointer (some ⟨gg, j, none⟩))] 10 (by kernel_rfl) (by kernel_rfl) (by kernel_rfl) (by kernel_rfl) ?mono (fun f1 => ?obl) ?fin
          case mono =>
            simp only [List.forall_mem_cons, List.not_mem_nil, false_imp_iff, implies_true, and_true]
            exact ⟨.is _, .is _, .is _, .is _, .is _, .is _, .is _, .is _, .is _, .is _⟩
          case fin =>
            intro g1 u1 hu hg
            simp only [List.take_succ_cons, List.take_zero, List.drop_succ_cons, List.drop_zero, puts, Act.put, List.setIfInBounds_toArray, List.set_cons_zero, List.set_cons_succ]
            have h8 : g1 8 = .int .u8 ((b ^^^ 1 : Nat) : Int) := hg 8 (by decide)
            have h9 : g1 9 = .pointer (some ⟨gg, j, none⟩) := hg 9 (by decide)
            rw [h8, h9]
            have hu2 := Ext.trans (Ext.drew wr) hu
            have hc2 := ext_cell hu2 hcell
            have hf2 : u1.frozen? ⟨gg, j, none⟩ = false := frozen_on hcell hfz hu2
            have HR2 : Hid (Spent u1 so g.vA M) := spent_later HRV.out hu2
            have HC2 : Hid (Chg S w7 u1) := HC.out.trans (Chg.of_ext hu2)
            clear h8 h9 hg hu hu2 qc hcell hfz
            go_wp2_with fail
            go_roundw
            case rel => exact ⟨j + 1, by omega, by go_num, Lib.hid (HR2.out.set HXL.out), Lib.hid (HC2.out.trans (Chg.setCell _ _ _ (HLVS.out gg HGG.out)))⟩
            case measure => simp [intOf]; omega
          case obl =>
            refine ⟨fun u hu hd => ?_, ?_⟩
            · go_simp
              exact ⟨Ext.refl _, rfl⟩
            refine ⟨fun u hu hd => ?_, ?_⟩
            · simp only [Act.put, List.setIfInBounds_toArray, List.set_cons_zero, List.set_cons_succ]
              have e0 : f1 0 = .pointer (some ⟨w3.heap.size, 3, none⟩) := hd 0 (by kernel_rfl)
              have hu2 := Ext.trans (Ext.drew wr) hu
              have q0 := ext_cell hu2 qc
              go_simp
              exact ⟨Ext.refl _, rfl⟩
            refine ⟨fun u hu hd => ?_, ?_⟩
            · simp only [Act.put, List.setIfInBounds_toArray, List.set_cons_zero, List.set_cons_succ]
              go_simp
              exact ⟨Ext.refl _, rfl⟩
            refine ⟨fun u hu hd => ?_, ?_⟩
            · simp only [Act.put, List.setIfInBounds_toArray, List.set_cons_zero, List.set_cons_succ]
              go_simp
              exact ⟨Ext.refl _, rfl⟩
            refine ⟨fun u hu hd => ?_, ?_⟩
            · simp only [Act.put, List.setIfInBounds_toArray, List.set_cons_zero, List.set_cons_succ]
              have e3 : f1 3 = .pointer (some ⟨w3.heap.size, 3, none⟩) := hd 3 (by kernel_rfl)
              have hu2 := Ext.trans (Ext.drew wr) hu
              have q0 := ext_cell hu2 qc
              go_simp
              exact ⟨Ext.refl _, rfl⟩
            refine ⟨fun u hu hd => ?_, ?_⟩
            · simp only [Act.put, List.setIfInBounds_toArray, List.set_cons_zero, List.set_cons_succ]
              go_simp
              exact ⟨Ext.refl _, rfl⟩
            refine ⟨fun u hu hd => ?_, ?_⟩
            · simp only [Act.put, List.setIfInBounds_toArray, List.set_cons_zero, List.set_cons_succ]
              have e4 : f1 4 = .slice (some ⟨gg, 0, none⟩) M g.vc := hd 4 (by kernel_rfl)
              have e5 : f1 5 = .int .i64 (j : Int) := hd 5 (by kernel_rfl)
              go_simp
              exact ⟨Ext.refl _, rfl⟩
            refine ⟨fun u hu hd => ?_, ?_⟩
            · simp only [Act.put, List.setIfInBounds_toArray, List.set_cons_zero, List.set_cons_succ]
              have e6 : f1 6 = .pointer (some ⟨gg, j, none⟩) := hd 6 (by kernel_rfl)
              have hu2 := Ext.trans (Ext.drew wr) hu
              have q0 := ext_cell hu2 hcell
              go_simp
              exact ⟨Ext.refl _, rfl⟩
            refine ⟨fun u hu hd => ?_, ?_⟩
            · simp only [Act.put, List.setIfInBounds_toArray, List.set_cons_zero, List.set_cons_succ]
              have e7 : f1 7 = .int .u8 (b : Int) := hd 7 (by kernel_rfl)
              go_simp
              exact ⟨Ext.refl _, rfl⟩
            refine ⟨fun u hu hd => ?_, ?_⟩
            · simp only [Act.put, List.setIfInBounds_toArray, List.set_cons_zero, List.set_cons_succ]
              have e1 : f1 1 = .slice (some ⟨gg, 0, none⟩) M g.vc := hd 1 (by kernel_rfl)
              have e2 : f1 2 = .int .i64 (j : Int) := hd 2 (by kernel_rfl)
              go_simp
              exact ⟨Ext.refl _, rfl⟩
            trivial
        · have e1 : decide ((j : Int) < (M : Int)) = false := decide_eq_false (by omega)
          have e1n : decide (j < M) = false := decide_eq_false hlt
          obtain ⟨k1, k2, k3, k4, k5⟩ := HNX.out wr HC.out
          have HSKZ := Lib.hid k1
          have HXZ : Hid (Ext W wr) := k2
          have HMZ := Lib.hid k3
          have HZZ := Lib.hid k4
          have HBZ := Lib.hid k5
          clear hlt hj HRV HNX HPB k1 k2 k3 k4 k5
          go_wp2_with fail
          refine Calls.mono (HGET.out wr HSKZ.out HXZ.out) ?_
          rintro e w8 ⟨g3, rfl, ok, ov, hx8⟩
          have HX8 : Hid (Ext wr w8) := hx8
          have HOK := Lib.hid ok
          have HOV := Lib.hid ov
          clear hx8 ok ov qc HGET
          go_upto_region 15 with (fail)
          obtain ⟨w9, hw9⟩ : ∃ w9, w9 = w8.alloc (.cells #[.slice g3.kA x.key.length g3.kc, .int .i64 x.seq, .int .i64 x.kind, .slice g3.vA x.val.length g3.vc] 40) := ⟨_, rfl⟩
          have HX9 : Hid (Ext w8 w9) := by rw [hw9]; exact ext_alloc _ _
          have HB9 : Hid (w9.heap[w8.heap.size]? = some (.cells #[.slice g3.kA x.key.length g3.kc, .int .i64 x.seq, .int .i64 x.kind, .slice g3.vA x.val.length g3.vc] 40 (0, 0))) := by rw [hw9]; exact heap_at _ _ rfl
          have HXZ9 : Hid (Ext wr w9) := Ext.trans HX8.out HX9.out
          have HM9 : Hid (Em w9 0 w8.heap.size x g3) := by
            have m3 : Em w8 0 w8.heap.size x g3 := ⟨HOK.out.bs, HOV.out.bs, HG.out.bk, HG.out.bv, HG.out.s1, HG.out.s2, HG.out.d1, HG.out.d2⟩
            exact m3.below HX9.out (Nat.le_refl _)
          have HSB2 := Lib.hid (rsame_any HM9.out (HMZ.out.below HXZ9.out HZZ.out) HX9.out.size (Nat.le_trans HZZ.out HXZ9.out.size))
          unfold Ent.at_ at HSB2
          rw [← hw9]
          clear hw9
          have a0 := cell_of HB9.out (k := 0) rfl
          have a1 := cell_of HB9.out (k := 1) rfl
          have a2 := cell_of HB9.out (k := 2) rfl
          have a3 := cell_of HB9.out (k := 3) rfl
          have b0 := cell_of (ext_heap HXZ9.out HBZ.out) (k := 0) rfl
          have b1 := cell_of (ext_heap HXZ9.out HBZ.out) (k := 1) rfl
          have b2 := cell_of (ext_heap HXZ9.out HBZ.out) (k := 2) rfl
          have b3 := cell_of (ext_heap HXZ9.out HBZ.out) (k := 3) rfl
          go_wp2_with fail
          refine HSB2.out.mono ?_
          rintro e w10 ⟨z, hz, rfl, hx10⟩
          have hz1 : z = true := hz.2 (by trivial)
          subst hz1
          have HX10 : Hid (Ext W w10) := Ext.trans HXZ.out (Ext.trans HXZ9.out hx10)
          clear hz hx10 a0 a1 a2 a3 b0 b1 b2 b3 HSB2
          go_wp2_with fail
          refine Calls.mono (HKN.out w10 HX10.out) ?_
          rintro e w11 ⟨rfl, hx11⟩
          have HX11 : Hid (Ext W w11) := Ext.trans HX10.out hx11
          clear hx11
          go_wp2_with fail
          go_ret
          exact ⟨rfl, HX11.out⟩
end Go.Proofs.YtpfaoiickmpmjaaDoor.skipGets

/- SkipGets: from the walk to the card. For every input the law answers true and leaves its arguments as they were; of the table of trailing noughts it is asked that it holds what the program's text lays. -/
namespace Go.Proofs.YtpfaoiickmpmjaaDoor.skipGets
open Go.ChangeShapes Go.WideShapes Go.ChangeAt Go.RowKit
set_option linter.unusedVariables false

theorem gTab : Tryd.prog.globalNamed "math/bits.deBruijn32tab" = some 0 := by kernel_rfl
theorem gTabType : (Tryd.prog.globals[0]?).map (·.type) = some 84 := by kernel_rfl
theorem cellsA : Tryd.prog.cellsOf 84 = 32 := by kernel_rfl
theorem cellsE : Tryd.prog.cellsOf 5 = 1 := by kernel_rfl
/-- What the row's list gives. -/
theorem table {W : World} (h : laidMetH Tryd.prog Rows.skipGetsRow.laid W) : Tab W := fun j hj => by
  have h1 : Lib.TabIs Tryd.prog W "math/bits.deBruijn32tab" .u8 (Lib.deBruijn32tab.map fun n : Nat => (n : Int)) := Lib.tabIs_of_head (rest := []) gTab gTabType Tryd.underlying84 Tryd.underlying5 cellsE cellsA h
  have h2 := h1.cell gTab j (by rw [List.length_map]; exact hj)
  rw [h2]
  simp [List.getD, hj]

theorem contract (H : Type) (enc : TypeId × Value → H) (W : World) (base : Nat) (args : Array Value) (ds gs : List (DataW H)) (before : List MemPlace)
    (hval0 : ∀ (j : Nat) t v, Tryd.f5.params[j]? = some t → args[j]? = some v → Value.okWide Tryd.prog W .any base t v)
    (hW : DataW.Whole enc Tryd.prog Tryd.f5.params.toList Rows.skipGetsSpec.vars false W args.toList ds gs before)
    (hsz0 : (DataW.weightsEach Tryd.prog (Tryd.f5.params.toList ++ (OpenSpec.ofChange Rows.skipGetsSpec).bare.plain.varTypes Tryd.prog) (ds ++ gs)).all (· ≤ reachBytes) = true) (hL : laidMetH Tryd.prog Rows.skipGetsRow.laid W) :
    Calls Tryd.prog 5 args W fun e W' => ∃ v, e = .returned v ∧ Rows.skipGetsSpec.post enc Tryd.prog Tryd.f5 false true false false W args v W' := by
  have hsz : (DataW.weightsEach Tryd.prog (Tryd.f5.params.toList ++ Rows.skipGetsSpec.plain.varTypes Tryd.prog) (ds ++ gs)).all (· ≤ reachBytes) = true := hsz0
  have hval : ∀ (j : Nat) t v, Tryd.f5.params[j]? = some t → args[j]? = some v → Value.okWide Tryd.prog W .any base t v := hval0
  have hT := table hL
  have hW' := hW
  obtain ⟨p, q, hA0, hV, rfl, hfz, hnd⟩ := hW
  have hA : DataW.TrodAll enc Tryd.prog W 0 (fun _ => true) true Tryd.f5.params.toList args.toList ds p := hA0
  rw [Tryd.params5] at hA hval hsz
  obtain ⟨v0, vs0, d0, ds0, p0, q0, hargs, rfl, rfl, h0, r0⟩ := trodAll_cons hA
  obtain ⟨v1, vs1, d1, ds1, p1, q1, rfl, rfl, rfl, h1, r1⟩ := trodAll_cons r0
  obtain ⟨v2, vs2, d2, ds2, p2, q2, rfl, rfl, rfl, h2, r2⟩ := trodAll_cons r1
  obtain ⟨rfl, rfl, rfl⟩ := trodAll_nil r2
  obtain rfl : args = #[v0, v1, v2] := by cases args; simp_all
  obtain ⟨rfl, rfl⟩ := trodVars_none hV
  have k0 := h0
  have lt0 : ∀ x ∈ p0, x.block < W.heap.size := by obtain ⟨m, hm⟩ := k0; exact DataW.trod_lt m _ _ _ hm
  obtain ⟨A0, c0, L0, rfl, x0, y0, m0, z0, n0⟩ := open_entries (hval 0 26 v0 rfl rfl) h0 hsz (jj := 0) rfl rfl
  have k1 := h1
  have lt1 : ∀ x ∈ p1, x.block < W.heap.size := by obtain ⟨m, hm⟩ := k1; exact DataW.trod_lt m _ _ _ hm
  obtain ⟨l1, y1, b1⟩ := open_bytes (hval 1 22 v1 rfl rfl) h1
  obtain ⟨a2, rfl, rfl, rfl, w2⟩ := open_int Tryd.underlying2 (hval 2 2 v2 rfl rfl) h2
  clear hA0 hval0 hsz0
  refine (walk W hT A0 c0 L0 x0 y0 m0 z0 n0 v1 l1 y1 b1 a2 w2).mono fun e W' ⟨he, bel⟩ => ?_
  subst he
  exact ⟨_, rfl, _, _, _, [], _, [], hW', trodAll_mk1 (shut_bool Tryd.underlying4 _), (trodAll_cons_mk (Below.trod laidOut (by kernel_rfl) (of_decide_eq_true (by kernel_rfl)) k0 bel lt0) (trodAll_cons_mk (Below.trod laidOut (by kernel_rfl) (of_decide_eq_true (by kernel_rfl)) k1 bel lt1) (trodAll_cons_mk (shut_int Tryd.underlying2 w2) trodAll_mk0))), rfl, bel.frame _, fun h => by cases h⟩

/-- A world for the witness: the settled one, the table holding what its initialiser lays. -/
noncomputable def laidWorld (os : Os) : World :=
  { World.holding Tryd.prog os ⟨#[], #[], []⟩ with heap := (World.holding Tryd.prog os ⟨#[], #[], []⟩).heap.modify 0 fun
      | .cells _ t frozen => .cells #[.int .u8 0, .int .u8 1, .int .u8 28, .int .u8 2, .int .u8 29, .int .u8 14, .int .u8 24, .int .u8 3, .int .u8 30, .int .u8 22, .int .u8 20, .int .u8 15, .int .u8 25, .int .u8 17, .int .u8 4, .int .u8 8, .int .u8 31, .int .u8 27, .int .u8 13, .int .u8 23, .int .u8 21, .int .u8 19, .int .u8 16, .int .u8 7, .int .u8 26, .int .u8 12, .int .u8 18, .int .u8 6, .int .u8 11, .int .u8 5, .int .u8 10, .int .u8 9] t frozen
      | o => o }
theorem laid_met (os : Os) : laidMet Tryd.prog Rows.skipGetsRow.laid ((laidWorld os).forCall (fun _ _ => 0) ⟨#[], #[.slice none 0 0, .slice none 0 0, .int .i64 0], []⟩).memory :=
  laidMet_of_run' 8 (by kernel_rfl) (by kernel_rfl)
theorem reads (os : Os) {H : Type} (enc : TypeId × Value → H) : ∃ places, DataW.whole enc Tryd.prog ((laidWorld os).forCall (fun _ _ => 0) ⟨#[], #[.slice none 0 0, .slice none 0 0, .int .i64 0], []⟩).memory Tryd.f5.params.toList Rows.skipGetsSpec.vars false (#[.slice none 0 0, .slice none 0 0, .int .i64 0] : Array Value).toList 8 = some ([.nil, .nil, .lit (.int .i64 0)], [], places) :=
  ⟨[], by kernel_rfl⟩

set_option maxRecDepth 100000 in
theorem lifted (os : Os) (started : os.Started) (H : Type) (enc : TypeId × Value → H) (F : Stop.Interp) :
    ReturnsInHanded {} Tryd.checked os 5 .any ((OpenSpec.ofChange Rows.skipGetsSpec).preRow enc Tryd.prog Tryd.f5 Rows.skipGetsRow.domain false Rows.skipGetsRow.laid) (((OpenSpec.ofChange Rows.skipGetsSpec).at F).post enc Tryd.prog Tryd.f5 false true false false) := by
  obtain ⟨places, hx⟩ := reads os enc
  refine returnsInHanded_of_row (C := Tryd.checked) (s := OpenSpec.ofChange Rows.skipGetsSpec) own started (by kernel_rfl) Tryd.func5
    (witness_row_at (enc := enc) (C := Tryd.checked) false (laidWorld os) #[.slice none 0 0, .slice none 0 0, .int .i64 0] rfl (by kernel_rfl) (by kernel_rfl) (by kernel_rfl)
      (OpenSpec.preRow_of_cond 8 hx (by kernel_rfl) (fun k hk => by cases hk) (by kernel_rfl) (laid_met os))) ?_
  intro W base args ds gs before hval hW _ _ hsz hL _ _
  exact contract H enc W base args ds gs before hval hW hsz hL

theorem said : Rows.SkipGetsSaid :=
  OpenClaim.holds_of_cond 5 Tryd.f5 rfl rfl rfl rfl rfl rfl rfl ⟨rfl, rfl, rfl, rfl, rfl⟩ rfl rfl rfl rfl rfl (by kernel_rfl) Tryd.func5 (by kernel_rfl)
    (of_decide_eq_true (by kernel_rfl)) (by unfold Func.isWrapper; first | (rw [if_pos (by decide +kernel)]; kernel_rfl) | (rw [if_neg (by decide +kernel)]; exact ⟨rfl, rfl⟩))
    (fun os started H enc _ F => by rw [OpenClaim.pre_eq_preRow]; exact lifted os started H enc F)

theorem plain (f : FuncId) (fn : Func) (hf : Tryd.pinned.checked.prog.funcNamed "hectare/hectarelaw06.SkipGets" = some f) (hfn : Tryd.pinned.checked.prog.funcs[f]? = some fn) :
    false = Tryd.pinned.checked.prog.looks [] ∧ ∀ (j : Nat) t, fn.params[j]? = some t → Tryd.pinned.checked.prog.wantsStandIn t = false := by
  obtain rfl : f = 5 := Option.some.inj ((show Tryd.prog.funcNamed "hectare/hectarelaw06.SkipGets" = some 5 by kernel_rfl).symm.trans hf) |>.symm
  obtain rfl : fn = Tryd.f5 := (Option.some.inj (Tryd.func5.symm.trans hfn)).symm
  refine ⟨by kernel_rfl, fun j t ht => ?_⟩
  rw [Tryd.params5] at ht
  have hm : t ∈ [26, 22, 2] := by have := Array.mem_of_getElem? ht; simp at this; simp; omega
  have hall : ([26, 22, 2].all fun u => !Tryd.prog.wantsStandIn u) = true := by kernel_rfl
  exact (show Tryd.prog.wantsStandIn t = false by simpa using List.all_eq_true.1 hall t hm)

theorem proved : Rows.SkipGetsCardSaid :=
  Claim7.holds_tied_plain_at .later [] _ _ _ _ said (fun _ h => by cases h) (by kernel_rfl) (fun _ h => by cases h) skipGets_row_tie rfl ⟨rfl, rfl⟩ (by kernel_rfl) rfl plain (by kernel_rfl)
end Go.Proofs.YtpfaoiickmpmjaaDoor.skipGets
