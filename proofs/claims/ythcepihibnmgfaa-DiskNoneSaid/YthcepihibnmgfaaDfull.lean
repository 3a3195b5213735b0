/- Whether a disk is full: Append's closure. -/
import Derived.Test.YthcepihibnmgfaaDused
import Derived.Test.YthcepihibnmgfaaFlow
import Derived.IntWalk
namespace Go.Proofs.Ythcepihibnmgfaa
open Go.RowKit Go.Maps

theorem ext_cell {w u : World} {p : Addr} {v : Value} (hu : Ext w u) (h : w.cell? p = some v) : u.cell? p = some v := (hu.cell (World.block_lt_of_cell? w _ h)).trans h
theorem _root_.Go.RowKit.Below.of_drew {B : Nat} {w w' : World} (h : Below B w.drew w') : Below B w w' := ⟨h.os, h.tape, h.output, h.size, h.block⟩
/-- ErrFull, or nothing. -/
def fiveIf : Bool → Int | true => 5 | false => 0
def fullN (F : List Fl) (room L : Nat) (n : List UInt8) : Int := fiveIf (decide (room < tot F + L) || (!there F n && F.length == 128))

set_option maxRecDepth 100000 in
set_option maxHeartbeats 4000000 in
theorem full_is {w : World} {d m room bd bn bb L : Nat} {S : Nat → Prop} {F : List Fl} {V : List UInt8 → Value} {D : DataW Value} {s : ByteArray} {A0 : Option Addr} {c0 : Nat} (h : Seen w d m S F V D room) (hs : s.size ≤ maxLen)
    (hV : ∀ f ∈ F, ∃ A c x, V f.name = fv A f.data.length c x) (hT : tot F ≤ 1048576) (hR : room ≤ 1048576) (hL : L ≤ maxLen)
    (hd : w.cell? ⟨bd, 0, none⟩ = some (.pointer (some ⟨d, 0, none⟩))) (hn : w.cell? ⟨bn, 0, none⟩ = some (.string s)) (hb : w.cell? ⟨bb, 0, none⟩ = some (.slice A0 L c0)) :
    Calls Try.prog 55 #[.pointer (some ⟨bd, 0, none⟩), .pointer (some ⟨bn, 0, none⟩), .pointer (some ⟨bb, 0, none⟩)] w fun e w' => e = .returned (.int .i64 (fullN F room L s.data.toList)) ∧ Below w.heap.size w w' := by
  obtain ⟨A, n, c, x, hl, _, _, _⟩ := h.look hs (fun f hf => by obtain ⟨A, c, x, e⟩ := hV f hf; exact ⟨A, _, c, x, e⟩)
  unfold fv at hl
  obtain ⟨bv0, hbv0⟩ : ∃ v, v = Value.slice A0 L c0 := ⟨_, rfl⟩
  have HS := Lib.hid h
  have HV := Lib.hid hV
  have HT := Lib.hid hT
  have HR := Lib.hid hR
  have HL := Lib.hid hL
  have hc := h.c1
  have HD := Lib.hid hd
  have HN := Lib.hid hn
  have HBL := Lib.hid hb
  obtain ⟨th, hth⟩ : ∃ th, th = there F s.data.toList := ⟨_, rfl⟩
  rw [← hth] at hl
  have HTH := Lib.hid hth
  clear hth
  have hl1 := fun (o : Obj) => hl (w.alloc o).drew ((ext_alloc w o).trans (Ext.drew _))
  have hl2 := hl w.drew (Ext.drew w)
  have hd1 := fun (o : Obj) => cell_new hd o
  have hn1 := fun (o : Obj) => cell_new hn o
  have hc1 := fun (o : Obj) => cell_new hc o
  clear hl h hV hT hR hL hb hbv0 bv0
  go_enter Try.func55, Try.ntmps55
  go_wp2
  go_region
  go_wp2
  clear hl1 hl2 hd1 hn1 hc1 hc hd hn
  obtain ⟨w1, hw1⟩ : ∃ w1, w1 = (w.alloc (.cells #[.slice A n c, .int .i64 x] 96)).drew := ⟨_, rfl⟩
  rw [← hw1]
  have hx1 : Ext w w1 := by rw [hw1]; exact (ext_alloc w _).trans (Ext.drew _)
  have HB1 : Hid (Below w.heap.size w w1) := hx1
  have HSE := Lib.hid ((HS.out.ext hx1).ext (Ext.drew w1))
  have HBD := Lib.hid (ext_cell (Ext.drew w1) (ext_cell hx1 HD.out))
  have HBB := Lib.hid (ext_cell (Ext.drew w1) (ext_cell hx1 HBL.out))
  have HC0 := Lib.hid HSE.out.c0
  have HC1 := Lib.hid HSE.out.c1
  clear hx1 hw1
  by_cases hbig : room < tot F + L
  · have HZ : Hid ((room : Int) - (tot F : Int) < (L : Int)) := by unfold Hid; omega
    have HRES : Hid (fullN F room L s.data.toList = 5) := by unfold Hid fullN; rw [decide_eq_true hbig]; rfl
    clear hbig
    refine flow (by kernel_rfl) [Is (.slice A0 L c0), Is (.int .i64 (L : Int)), Is (.pointer (some ⟨d, 0, none⟩)), Is (.pointer (some ⟨d, 0, none⟩)), Is (.pointer (some ⟨d, 0, none⟩)), Is (.int .i64 (room : Int)), Is (.pointer (some ⟨d, 0, none⟩)), Is (.int .i64 (tot F : Int)), Is (.int .i64 ((room : Int) - (tot F : Int))), Is (.bool true), Is (.bool true), Is undef, Is undef, Is undef, Is undef, Is undef, Is undef, Is undef, Is undef, Is undef, Is undef, Is (.bool true)] (by kernel_rfl) (by kernel_rfl) ?mono (fun f => ?obl) ?fin
    case mono =>
      simp only [List.forall_mem_cons, List.not_mem_nil, false_imp_iff, implies_true, and_true]
      exact ⟨.is _, .is _, .is _, .is _, .is _, .is _, .is _, .is _, .is _, .is _, .is _, .is _, .is _, .is _, .is _, .is _, .is _, .is _, .is _, .is _, .is _, .is _⟩
    case fin =>
      intro g u hu hg
      simp only [puts, Act.put, List.setIfInBounds_toArray, List.set_cons_zero, List.set_cons_succ]
      have e36 : g 21 = .bool true := hg 21 (by decide)
      have HX := Lib.hid hu
      clear hg hu
      rw [e36]
      go_wp2_with fail
      go_ret
      exact ⟨by rw [HRES.out]; rfl, HB1.out.trans (HX.out.mono HB1.out.size).of_drew⟩
    case obl =>
      refine ⟨fun u hu hd => ?_, ?_⟩
      · try simp only [Act.put, List.setIfInBounds_toArray, List.set_cons_zero, List.set_cons_succ]
        have c1 := ext_cell hu HBB.out
        go_simp
        exact ⟨Ext.refl _, rfl⟩
      refine ⟨fun u hu hd => ?_, ?_⟩
      · simp only [Act.put, List.setIfInBounds_toArray, List.set_cons_zero, List.set_cons_succ]
        have e0 : f 0 = .slice A0 L c0 := hd 0 (by kernel_rfl)
        go_simp
        exact ⟨Ext.refl _, rfl⟩
      refine ⟨fun u hu hd => ?_, ?_⟩
      · simp only [Act.put, List.setIfInBounds_toArray, List.set_cons_zero, List.set_cons_succ]
        have c1 := ext_cell hu HBD.out
        go_simp
        exact ⟨Ext.refl _, rfl⟩
      refine ⟨fun u hu hd => ?_, ?_⟩
      · simp only [Act.put, List.setIfInBounds_toArray, List.set_cons_zero, List.set_cons_succ]
        have e2 : f 2 = (.pointer (some ⟨d, 0, none⟩)) := hd 2 (by kernel_rfl)
        go_simp
        exact ⟨Ext.refl _, rfl⟩
      refine ⟨fun u hu hd => ?_, ?_⟩
      · simp only [Act.put, List.setIfInBounds_toArray, List.set_cons_zero, List.set_cons_succ]
        have e3 : f 3 = (.pointer (some ⟨d, 0, none⟩)) := hd 3 (by kernel_rfl)
        go_simp
        exact ⟨Ext.refl _, rfl⟩
      refine ⟨fun u hu hd => ?_, ?_⟩
      · simp only [Act.put, List.setIfInBounds_toArray, List.set_cons_zero, List.set_cons_succ]
        have e4 : f 4 = (.pointer (some ⟨d, 0, none⟩)) := hd 4 (by kernel_rfl)
        have c1 := ext_cell hu HC0.out
        go_simp
        exact ⟨Ext.refl _, rfl⟩
      refine ⟨fun u hu hd => ?_, ?_⟩
      · simp only [Act.put, List.setIfInBounds_toArray, List.set_cons_zero, List.set_cons_succ]
        have c1 := ext_cell hu HBD.out
        go_simp
        exact ⟨Ext.refl _, rfl⟩
      refine ⟨fun u hu hd => ?_, ?_⟩
      · simp only [Act.put, List.setIfInBounds_toArray, List.set_cons_zero, List.set_cons_succ]
        have e6 : f 6 = (.pointer (some ⟨d, 0, none⟩)) := hd 6 (by kernel_rfl)
        have hc := used_seen (HSE.out.ext hu) HV.out HT.out
        go_simp
        refine hc.mono ?_
        rintro e w9 ⟨rfl, hb9⟩
        exact ⟨_, rfl, hb9, rfl⟩
      refine ⟨fun u hu hd => ?_, ?_⟩
      · simp only [Act.put, List.setIfInBounds_toArray, List.set_cons_zero, List.set_cons_succ]
        have e5 : f 5 = (.int .i64 (room : Int)) := hd 5 (by kernel_rfl)
        have e7 : f 7 = (.int .i64 (tot F : Int)) := hd 7 (by kernel_rfl)
        have l1 := HT.out
        have l2 := HR.out
        have hw : IntKind.i64.wrap ((room : Int) - (tot F : Int)) = (room : Int) - (tot F : Int) := IntWalk.i64_in _ (by omega)
        go_simp
        exact ⟨Ext.refl _, rfl⟩
      refine ⟨fun u hu hd => ?_, ?_⟩
      · simp only [Act.put, List.setIfInBounds_toArray, List.set_cons_zero, List.set_cons_succ]
        have e1 : f 1 = (.int .i64 (L : Int)) := hd 1 (by kernel_rfl)
        have e8 : f 8 = (.int .i64 ((room : Int) - (tot F : Int))) := hd 8 (by kernel_rfl)
        have l1 := HZ.out
        go_simp
        exact ⟨Ext.refl _, rfl⟩
      refine ⟨fun u hu hd => ?_, ?_⟩
      · simp only [Act.put, List.setIfInBounds_toArray, List.set_cons_zero, List.set_cons_succ]
        have e9 : f 9 = (.bool true) := hd 9 (by kernel_rfl)
        go_simp
        exact ⟨Ext.refl _, rfl⟩
      refine ⟨fun u hu hd => ?_, ?_⟩
      · simp only [Act.put, List.setIfInBounds_toArray, List.set_cons_zero, List.set_cons_succ]
        have e10 : f 10 = (.bool true) := hd 10 (by kernel_rfl)
        go_simp
        rfl
      refine ⟨fun u hu hd => ?_, ?_⟩
      · simp only [Act.put, List.setIfInBounds_toArray, List.set_cons_zero, List.set_cons_succ]
        have e10 : f 10 = (.bool true) := hd 10 (by kernel_rfl)
        go_simp
        rfl
      refine ⟨fun u hu hd => ?_, ?_⟩
      · simp only [Act.put, List.setIfInBounds_toArray, List.set_cons_zero, List.set_cons_succ]
        have e10 : f 10 = (.bool true) := hd 10 (by kernel_rfl)
        go_simp
        rfl
      refine ⟨fun u hu hd => ?_, ?_⟩
      · simp only [Act.put, List.setIfInBounds_toArray, List.set_cons_zero, List.set_cons_succ]
        have e13 : f 13 = undef := hd 13 (by kernel_rfl)
        go_simp
        rfl
      refine ⟨fun u hu hd => ?_, ?_⟩
      · simp only [Act.put, List.setIfInBounds_toArray, List.set_cons_zero, List.set_cons_succ]
        have e13 : f 13 = undef := hd 13 (by kernel_rfl)
        go_simp
        rfl
      refine ⟨fun u hu hd => ?_, ?_⟩
      · simp only [Act.put, List.setIfInBounds_toArray, List.set_cons_zero, List.set_cons_succ]
        have e13 : f 13 = undef := hd 13 (by kernel_rfl)
        go_simp
        rfl
      refine ⟨fun u hu hd => ?_, ?_⟩
      · simp only [Act.put, List.setIfInBounds_toArray, List.set_cons_zero, List.set_cons_succ]
        have e13 : f 13 = undef := hd 13 (by kernel_rfl)
        go_simp
        rfl
      refine ⟨fun u hu hd => ?_, ?_⟩
      · simp only [Act.put, List.setIfInBounds_toArray, List.set_cons_zero, List.set_cons_succ]
        have e13 : f 13 = undef := hd 13 (by kernel_rfl)
        go_simp
        rfl
      refine ⟨fun u hu hd => ?_, ?_⟩
      · simp only [Act.put, List.setIfInBounds_toArray, List.set_cons_zero, List.set_cons_succ]
        have e13 : f 13 = undef := hd 13 (by kernel_rfl)
        go_simp
        rfl
      refine ⟨fun u hu hd => ?_, ?_⟩
      · simp only [Act.put, List.setIfInBounds_toArray, List.set_cons_zero, List.set_cons_succ]
        have e10 : f 10 = (.bool true) := hd 10 (by kernel_rfl)
        go_simp
        rfl
      refine ⟨fun u hu hd => ?_, ?_⟩
      · simp only [Act.put, List.setIfInBounds_toArray, List.set_cons_zero, List.set_cons_succ]
        have e10 : f 10 = (.bool true) := hd 10 (by kernel_rfl)
        go_simp
        exact ⟨Ext.refl _, rfl⟩
      trivial
  · have HZ : Hid (¬ (room : Int) - (tot F : Int) < (L : Int)) := by unfold Hid; omega
    cases th
    · obtain ⟨q, hq⟩ : ∃ q, q = ((F.length : Int) == 128) := ⟨_, rfl⟩
      have HQ := Lib.hid hq.symm
      have HRES : Hid (fullN F room L s.data.toList = fiveIf q) := by
        unfold Hid fullN; rw [← HTH.out, decide_eq_false hbig]
        have e : ((F.length : Int) == 128) = (F.length == 128) := by rw [Bool.eq_iff_iff]; simp; omega
        rw [hq, e]; rfl
      clear hbig hq
      refine flow (by kernel_rfl) [Is (.slice A0 L c0), Is (.int .i64 (L : Int)), Is (.pointer (some ⟨d, 0, none⟩)), Is (.pointer (some ⟨d, 0, none⟩)), Is (.pointer (some ⟨d, 0, none⟩)), Is (.int .i64 (room : Int)), Is (.pointer (some ⟨d, 0, none⟩)), Is (.int .i64 (tot F : Int)), Is (.int .i64 ((room : Int) - (tot F : Int))), Is (.bool false), Is (.bool false), Is (.bool false), Is (.bool true), Is (.bool true), Is (.pointer (some ⟨d, 0, none⟩)), Is (.pointer (some ⟨d, 0, none⟩)), Is (.pointer (some ⟨d, 1, none⟩)), Is (.map (some m)), Is (.int .i64 (F.length : Int)), Is (.bool q), Is (.bool q), Is (.bool q)] (by kernel_rfl) (by kernel_rfl) ?mono (fun f => ?obl) ?fin
      case mono =>
        simp only [List.forall_mem_cons, List.not_mem_nil, false_imp_iff, implies_true, and_true]
        exact ⟨.is _, .is _, .is _, .is _, .is _, .is _, .is _, .is _, .is _, .is _, .is _, .is _, .is _, .is _, .is _, .is _, .is _, .is _, .is _, .is _, .is _, .is _⟩
      case fin =>
        intro g u hu hg
        simp only [puts, Act.put, List.setIfInBounds_toArray, List.set_cons_zero, List.set_cons_succ]
        have e36 : g 21 = .bool q := hg 21 (by decide)
        have HX := Lib.hid hu
        clear hg hu
        rw [e36]
        cases q
        · go_wp2_with fail
          go_ret
          exact ⟨by rw [HRES.out]; rfl, HB1.out.trans (HX.out.mono HB1.out.size).of_drew⟩
        · go_wp2_with fail
          go_ret
          exact ⟨by rw [HRES.out]; rfl, HB1.out.trans (HX.out.mono HB1.out.size).of_drew⟩
      case obl =>
        refine ⟨fun u hu hd => ?_, ?_⟩
        · try simp only [Act.put, List.setIfInBounds_toArray, List.set_cons_zero, List.set_cons_succ]
          have c1 := ext_cell hu HBB.out
          go_simp
          exact ⟨Ext.refl _, rfl⟩
        refine ⟨fun u hu hd => ?_, ?_⟩
        · simp only [Act.put, List.setIfInBounds_toArray, List.set_cons_zero, List.set_cons_succ]
          have e0 : f 0 = .slice A0 L c0 := hd 0 (by kernel_rfl)
          go_simp
          exact ⟨Ext.refl _, rfl⟩
        refine ⟨fun u hu hd => ?_, ?_⟩
        · simp only [Act.put, List.setIfInBounds_toArray, List.set_cons_zero, List.set_cons_succ]
          have c1 := ext_cell hu HBD.out
          go_simp
          exact ⟨Ext.refl _, rfl⟩
        refine ⟨fun u hu hd => ?_, ?_⟩
        · simp only [Act.put, List.setIfInBounds_toArray, List.set_cons_zero, List.set_cons_succ]
          have e2 : f 2 = (.pointer (some ⟨d, 0, none⟩)) := hd 2 (by kernel_rfl)
          go_simp
          exact ⟨Ext.refl _, rfl⟩
        refine ⟨fun u hu hd => ?_, ?_⟩
        · simp only [Act.put, List.setIfInBounds_toArray, List.set_cons_zero, List.set_cons_succ]
          have e3 : f 3 = (.pointer (some ⟨d, 0, none⟩)) := hd 3 (by kernel_rfl)
          go_simp
          exact ⟨Ext.refl _, rfl⟩
        refine ⟨fun u hu hd => ?_, ?_⟩
        · simp only [Act.put, List.setIfInBounds_toArray, List.set_cons_zero, List.set_cons_succ]
          have e4 : f 4 = (.pointer (some ⟨d, 0, none⟩)) := hd 4 (by kernel_rfl)
          have c1 := ext_cell hu HC0.out
          go_simp
          exact ⟨Ext.refl _, rfl⟩
        refine ⟨fun u hu hd => ?_, ?_⟩
        · simp only [Act.put, List.setIfInBounds_toArray, List.set_cons_zero, List.set_cons_succ]
          have c1 := ext_cell hu HBD.out
          go_simp
          exact ⟨Ext.refl _, rfl⟩
        refine ⟨fun u hu hd => ?_, ?_⟩
        · simp only [Act.put, List.setIfInBounds_toArray, List.set_cons_zero, List.set_cons_succ]
          have e6 : f 6 = (.pointer (some ⟨d, 0, none⟩)) := hd 6 (by kernel_rfl)
          have hc := used_seen (HSE.out.ext hu) HV.out HT.out
          go_simp
          refine hc.mono ?_
          rintro e w9 ⟨rfl, hb9⟩
          exact ⟨_, rfl, hb9, rfl⟩
        refine ⟨fun u hu hd => ?_, ?_⟩
        · simp only [Act.put, List.setIfInBounds_toArray, List.set_cons_zero, List.set_cons_succ]
          have e5 : f 5 = (.int .i64 (room : Int)) := hd 5 (by kernel_rfl)
          have e7 : f 7 = (.int .i64 (tot F : Int)) := hd 7 (by kernel_rfl)
          have l1 := HT.out
          have l2 := HR.out
          have hw : IntKind.i64.wrap ((room : Int) - (tot F : Int)) = (room : Int) - (tot F : Int) := IntWalk.i64_in _ (by omega)
          go_simp
          exact ⟨Ext.refl _, rfl⟩
        refine ⟨fun u hu hd => ?_, ?_⟩
        · simp only [Act.put, List.setIfInBounds_toArray, List.set_cons_zero, List.set_cons_succ]
          have e1 : f 1 = (.int .i64 (L : Int)) := hd 1 (by kernel_rfl)
          have e8 : f 8 = (.int .i64 ((room : Int) - (tot F : Int))) := hd 8 (by kernel_rfl)
          have l1 := HZ.out
          go_simp
          exact ⟨Ext.refl _, rfl⟩
        refine ⟨fun u hu hd => ?_, ?_⟩
        · simp only [Act.put, List.setIfInBounds_toArray, List.set_cons_zero, List.set_cons_succ]
          have e9 : f 9 = (.bool false) := hd 9 (by kernel_rfl)
          go_simp
          exact ⟨Ext.refl _, rfl⟩
        refine ⟨fun u hu hd => ?_, ?_⟩
        · simp only [Act.put, List.setIfInBounds_toArray, List.set_cons_zero, List.set_cons_succ]
          have e10 : f 10 = (.bool false) := hd 10 (by kernel_rfl)
          go_simp
          exact ⟨Ext.refl _, rfl⟩
        refine ⟨fun u hu hd => ?_, ?_⟩
        · simp only [Act.put, List.setIfInBounds_toArray, List.set_cons_zero, List.set_cons_succ]
          have e10 : f 10 = (.bool false) := hd 10 (by kernel_rfl)
          have e11 : f 11 = (.bool false) := hd 11 (by kernel_rfl)
          go_simp
          exact ⟨Ext.refl _, rfl⟩
        refine ⟨fun u hu hd => ?_, ?_⟩
        · simp only [Act.put, List.setIfInBounds_toArray, List.set_cons_zero, List.set_cons_succ]
          have e10 : f 10 = (.bool false) := hd 10 (by kernel_rfl)
          have e12 : f 12 = (.bool true) := hd 12 (by kernel_rfl)
          go_simp
          exact ⟨Ext.refl _, rfl⟩
        refine ⟨fun u hu hd => ?_, ?_⟩
        · simp only [Act.put, List.setIfInBounds_toArray, List.set_cons_zero, List.set_cons_succ]
          have e13 : f 13 = (.bool true) := hd 13 (by kernel_rfl)
          have c1 := ext_cell hu HBD.out
          go_simp
          exact ⟨Ext.refl _, rfl⟩
        refine ⟨fun u hu hd => ?_, ?_⟩
        · simp only [Act.put, List.setIfInBounds_toArray, List.set_cons_zero, List.set_cons_succ]
          have e13 : f 13 = (.bool true) := hd 13 (by kernel_rfl)
          have e14 : f 14 = (.pointer (some ⟨d, 0, none⟩)) := hd 14 (by kernel_rfl)
          go_simp
          exact ⟨Ext.refl _, rfl⟩
        refine ⟨fun u hu hd => ?_, ?_⟩
        · simp only [Act.put, List.setIfInBounds_toArray, List.set_cons_zero, List.set_cons_succ]
          have e13 : f 13 = (.bool true) := hd 13 (by kernel_rfl)
          have e15 : f 15 = (.pointer (some ⟨d, 0, none⟩)) := hd 15 (by kernel_rfl)
          go_simp
          exact ⟨Ext.refl _, rfl⟩
        refine ⟨fun u hu hd => ?_, ?_⟩
        · simp only [Act.put, List.setIfInBounds_toArray, List.set_cons_zero, List.set_cons_succ]
          have e13 : f 13 = (.bool true) := hd 13 (by kernel_rfl)
          have e16 : f 16 = (.pointer (some ⟨d, 1, none⟩)) := hd 16 (by kernel_rfl)
          have c1 := ext_cell hu HC1.out
          go_simp
          exact ⟨Ext.refl _, rfl⟩
        refine ⟨fun u hu hd => ?_, ?_⟩
        · simp only [Act.put, List.setIfInBounds_toArray, List.set_cons_zero, List.set_cons_succ]
          have e13 : f 13 = (.bool true) := hd 13 (by kernel_rfl)
          have e17 : f 17 = (.map (some m)) := hd 17 (by kernel_rfl)
          have hlen := (HSE.out.ext hu).own.len (t := 78) Try.underlying78
          rw [HSE.out.con.size] at hlen
          go_simp
          exact ⟨Ext.refl _, rfl⟩
        refine ⟨fun u hu hd => ?_, ?_⟩
        · simp only [Act.put, List.setIfInBounds_toArray, List.set_cons_zero, List.set_cons_succ]
          have e13 : f 13 = (.bool true) := hd 13 (by kernel_rfl)
          have e18 : f 18 = (.int .i64 (F.length : Int)) := hd 18 (by kernel_rfl)
          have hq := HQ.out
          go_simp
          exact ⟨Ext.refl _, rfl⟩
        refine ⟨fun u hu hd => ?_, ?_⟩
        · simp only [Act.put, List.setIfInBounds_toArray, List.set_cons_zero, List.set_cons_succ]
          have e10 : f 10 = (.bool false) := hd 10 (by kernel_rfl)
          have e13 : f 13 = (.bool true) := hd 13 (by kernel_rfl)
          have e19 : f 19 = (.bool q) := hd 19 (by kernel_rfl)
          go_simp
          exact ⟨Ext.refl _, rfl⟩
        refine ⟨fun u hu hd => ?_, ?_⟩
        · simp only [Act.put, List.setIfInBounds_toArray, List.set_cons_zero, List.set_cons_succ]
          have e10 : f 10 = (.bool false) := hd 10 (by kernel_rfl)
          have e20 : f 20 = (.bool q) := hd 20 (by kernel_rfl)
          go_simp
          exact ⟨Ext.refl _, rfl⟩
        trivial
    · have HRES : Hid (fullN F room L s.data.toList = 0) := by unfold Hid fullN; rw [← HTH.out, decide_eq_false hbig]; rfl
      clear hbig
      refine flow (by kernel_rfl) [Is (.slice A0 L c0), Is (.int .i64 (L : Int)), Is (.pointer (some ⟨d, 0, none⟩)), Is (.pointer (some ⟨d, 0, none⟩)), Is (.pointer (some ⟨d, 0, none⟩)), Is (.int .i64 (room : Int)), Is (.pointer (some ⟨d, 0, none⟩)), Is (.int .i64 (tot F : Int)), Is (.int .i64 ((room : Int) - (tot F : Int))), Is (.bool false), Is (.bool false), Is (.bool true), Is (.bool false), Is (.bool false), Is undef, Is undef, Is undef, Is undef, Is undef, Is undef, Is (.bool false), Is (.bool false)] (by kernel_rfl) (by kernel_rfl) ?mono (fun f => ?obl) ?fin
      case mono =>
        simp only [List.forall_mem_cons, List.not_mem_nil, false_imp_iff, implies_true, and_true]
        exact ⟨.is _, .is _, .is _, .is _, .is _, .is _, .is _, .is _, .is _, .is _, .is _, .is _, .is _, .is _, .is _, .is _, .is _, .is _, .is _, .is _, .is _, .is _⟩
      case fin =>
        intro g u hu hg
        simp only [puts, Act.put, List.setIfInBounds_toArray, List.set_cons_zero, List.set_cons_succ]
        have e36 : g 21 = .bool false := hg 21 (by decide)
        have HX := Lib.hid hu
        clear hg hu
        rw [e36]
        go_wp2_with fail
        go_ret
        exact ⟨by rw [HRES.out]; rfl, HB1.out.trans (HX.out.mono HB1.out.size).of_drew⟩
      case obl =>
        refine ⟨fun u hu hd => ?_, ?_⟩
        · try simp only [Act.put, List.setIfInBounds_toArray, List.set_cons_zero, List.set_cons_succ]
          have c1 := ext_cell hu HBB.out
          go_simp
          exact ⟨Ext.refl _, rfl⟩
        refine ⟨fun u hu hd => ?_, ?_⟩
        · simp only [Act.put, List.setIfInBounds_toArray, List.set_cons_zero, List.set_cons_succ]
          have e0 : f 0 = .slice A0 L c0 := hd 0 (by kernel_rfl)
          go_simp
          exact ⟨Ext.refl _, rfl⟩
        refine ⟨fun u hu hd => ?_, ?_⟩
        · simp only [Act.put, List.setIfInBounds_toArray, List.set_cons_zero, List.set_cons_succ]
          have c1 := ext_cell hu HBD.out
          go_simp
          exact ⟨Ext.refl _, rfl⟩
        refine ⟨fun u hu hd => ?_, ?_⟩
        · simp only [Act.put, List.setIfInBounds_toArray, List.set_cons_zero, List.set_cons_succ]
          have e2 : f 2 = (.pointer (some ⟨d, 0, none⟩)) := hd 2 (by kernel_rfl)
          go_simp
          exact ⟨Ext.refl _, rfl⟩
        refine ⟨fun u hu hd => ?_, ?_⟩
        · simp only [Act.put, List.setIfInBounds_toArray, List.set_cons_zero, List.set_cons_succ]
          have e3 : f 3 = (.pointer (some ⟨d, 0, none⟩)) := hd 3 (by kernel_rfl)
          go_simp
          exact ⟨Ext.refl _, rfl⟩
        refine ⟨fun u hu hd => ?_, ?_⟩
        · simp only [Act.put, List.setIfInBounds_toArray, List.set_cons_zero, List.set_cons_succ]
          have e4 : f 4 = (.pointer (some ⟨d, 0, none⟩)) := hd 4 (by kernel_rfl)
          have c1 := ext_cell hu HC0.out
          go_simp
          exact ⟨Ext.refl _, rfl⟩
        refine ⟨fun u hu hd => ?_, ?_⟩
        · simp only [Act.put, List.setIfInBounds_toArray, List.set_cons_zero, List.set_cons_succ]
          have c1 := ext_cell hu HBD.out
          go_simp
          exact ⟨Ext.refl _, rfl⟩
        refine ⟨fun u hu hd => ?_, ?_⟩
        · simp only [Act.put, List.setIfInBounds_toArray, List.set_cons_zero, List.set_cons_succ]
          have e6 : f 6 = (.pointer (some ⟨d, 0, none⟩)) := hd 6 (by kernel_rfl)
          have hc := used_seen (HSE.out.ext hu) HV.out HT.out
          go_simp
          refine hc.mono ?_
          rintro e w9 ⟨rfl, hb9⟩
          exact ⟨_, rfl, hb9, rfl⟩
        refine ⟨fun u hu hd => ?_, ?_⟩
        · simp only [Act.put, List.setIfInBounds_toArray, List.set_cons_zero, List.set_cons_succ]
          have e5 : f 5 = (.int .i64 (room : Int)) := hd 5 (by kernel_rfl)
          have e7 : f 7 = (.int .i64 (tot F : Int)) := hd 7 (by kernel_rfl)
          have l1 := HT.out
          have l2 := HR.out
          have hw : IntKind.i64.wrap ((room : Int) - (tot F : Int)) = (room : Int) - (tot F : Int) := IntWalk.i64_in _ (by omega)
          go_simp
          exact ⟨Ext.refl _, rfl⟩
        refine ⟨fun u hu hd => ?_, ?_⟩
        · simp only [Act.put, List.setIfInBounds_toArray, List.set_cons_zero, List.set_cons_succ]
          have e1 : f 1 = (.int .i64 (L : Int)) := hd 1 (by kernel_rfl)
          have e8 : f 8 = (.int .i64 ((room : Int) - (tot F : Int))) := hd 8 (by kernel_rfl)
          have l1 := HZ.out
          go_simp
          exact ⟨Ext.refl _, rfl⟩
        refine ⟨fun u hu hd => ?_, ?_⟩
        · simp only [Act.put, List.setIfInBounds_toArray, List.set_cons_zero, List.set_cons_succ]
          have e9 : f 9 = (.bool false) := hd 9 (by kernel_rfl)
          go_simp
          exact ⟨Ext.refl _, rfl⟩
        refine ⟨fun u hu hd => ?_, ?_⟩
        · simp only [Act.put, List.setIfInBounds_toArray, List.set_cons_zero, List.set_cons_succ]
          have e10 : f 10 = (.bool false) := hd 10 (by kernel_rfl)
          go_simp
          exact ⟨Ext.refl _, rfl⟩
        refine ⟨fun u hu hd => ?_, ?_⟩
        · simp only [Act.put, List.setIfInBounds_toArray, List.set_cons_zero, List.set_cons_succ]
          have e10 : f 10 = (.bool false) := hd 10 (by kernel_rfl)
          have e11 : f 11 = (.bool true) := hd 11 (by kernel_rfl)
          go_simp
          exact ⟨Ext.refl _, rfl⟩
        refine ⟨fun u hu hd => ?_, ?_⟩
        · simp only [Act.put, List.setIfInBounds_toArray, List.set_cons_zero, List.set_cons_succ]
          have e10 : f 10 = (.bool false) := hd 10 (by kernel_rfl)
          have e12 : f 12 = (.bool false) := hd 12 (by kernel_rfl)
          go_simp
          exact ⟨Ext.refl _, rfl⟩
        refine ⟨fun u hu hd => ?_, ?_⟩
        · simp only [Act.put, List.setIfInBounds_toArray, List.set_cons_zero, List.set_cons_succ]
          have e13 : f 13 = (.bool false) := hd 13 (by kernel_rfl)
          go_simp
          rfl
        refine ⟨fun u hu hd => ?_, ?_⟩
        · simp only [Act.put, List.setIfInBounds_toArray, List.set_cons_zero, List.set_cons_succ]
          have e13 : f 13 = (.bool false) := hd 13 (by kernel_rfl)
          go_simp
          rfl
        refine ⟨fun u hu hd => ?_, ?_⟩
        · simp only [Act.put, List.setIfInBounds_toArray, List.set_cons_zero, List.set_cons_succ]
          have e13 : f 13 = (.bool false) := hd 13 (by kernel_rfl)
          go_simp
          rfl
        refine ⟨fun u hu hd => ?_, ?_⟩
        · simp only [Act.put, List.setIfInBounds_toArray, List.set_cons_zero, List.set_cons_succ]
          have e13 : f 13 = (.bool false) := hd 13 (by kernel_rfl)
          go_simp
          rfl
        refine ⟨fun u hu hd => ?_, ?_⟩
        · simp only [Act.put, List.setIfInBounds_toArray, List.set_cons_zero, List.set_cons_succ]
          have e13 : f 13 = (.bool false) := hd 13 (by kernel_rfl)
          go_simp
          rfl
        refine ⟨fun u hu hd => ?_, ?_⟩
        · simp only [Act.put, List.setIfInBounds_toArray, List.set_cons_zero, List.set_cons_succ]
          have e13 : f 13 = (.bool false) := hd 13 (by kernel_rfl)
          go_simp
          rfl
        refine ⟨fun u hu hd => ?_, ?_⟩
        · simp only [Act.put, List.setIfInBounds_toArray, List.set_cons_zero, List.set_cons_succ]
          have e10 : f 10 = (.bool false) := hd 10 (by kernel_rfl)
          have e13 : f 13 = (.bool false) := hd 13 (by kernel_rfl)
          go_simp
          exact ⟨Ext.refl _, rfl⟩
        refine ⟨fun u hu hd => ?_, ?_⟩
        · simp only [Act.put, List.setIfInBounds_toArray, List.set_cons_zero, List.set_cons_succ]
          have e10 : f 10 = (.bool false) := hd 10 (by kernel_rfl)
          have e20 : f 20 = (.bool false) := hd 20 (by kernel_rfl)
          go_simp
          exact ⟨Ext.refl _, rfl⟩
        trivial
end Go.Proofs.Ythcepihibnmgfaa
