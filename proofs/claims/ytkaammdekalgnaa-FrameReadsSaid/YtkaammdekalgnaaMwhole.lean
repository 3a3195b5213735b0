/- Whether a frame is whole. -/
import Derived.Test.YtkaammdekalgnaaMclaim
import Derived.Test.YtkaammdekalgnaaMsum
import Derived.Test.YtkaammdekalgnaaCflow
import Derived.Test.YtkaammdekalgnaaIter
import Derived.RegionTactic
import Derived.Deep.DeepCutAuto
namespace Go.Proofs.Ytkaammdekalgnaa
open Go.ChangeShapes Go.WideShapes Go.ChangeAt Go.RowKit

theorem wholeIn_any (A : Option Addr) (n c : Nat) (w : World) : Calls Try.prog 32 #[.slice A n c] w fun e w' => e = .returned (.func (.func 41) #[] #[.pointer (some ⟨w.heap.size, 0, none⟩)]) ∧ w' = w.alloc (.cells #[.slice A n c] 22) := by
  go_enter Try.func32, Try.ntmps32
  go_wp2
  go_ret
  exact ⟨rfl, rfl⟩
theorem enters_whole : ∀ args w, (callFunc 41 args).run Try.prog w = .ok (.enter 41 args) w := enters_of Try.func41 (by kernel_rfl) rfl

/-- What is answered of a frame. -/
def WholeAns (w : World) (lo hi : Nat) (b : List Nat) (e : Ending) (w' : World) : Prop :=
  Below w.heap.size w w' ∧ ((∃ p A c, whole1 b = some p ∧ e = .returned (.tuple #[.slice A p.length c, .bool true]) ∧ Bs w lo hi (.slice A p.length c) p) ∨ (whole1 b = none ∧ ∃ A n c, e = .returned (.tuple #[.slice A n c, .bool false])))

theorem drop_run (A : Option Addr) (n c k : Nat) (hk : k ≤ n) (hc : n ≤ c) : ∃ A2, (∀ (W : World) (lo hi : Nat) (l : List Nat), Bs W lo hi (.slice A n c) l → Bs W lo hi (.slice A2 (n - k) (c - k)) (l.drop k)) ∧
    ∀ w, (Instr.slice 22 (.slice A n c) (some (.int .i64 (k : Int))) none none).run Try.prog w = .ok (.slice A2 (n - k) (c - k)) w := by
  obtain ⟨A2, h1, _, h3⟩ := cut_run A n c k n hk (Nat.le_refl _) hc
  refine ⟨A2, fun W lo hi l h => ?_, fun w => h3 rfl w⟩
  have h2 := h1 W lo hi l h
  have hl := h.len.1
  rwa [List.take_of_length_le (by simp; omega)] at h2

/-- A part of a slice of bytes, by its place. -/
theorem cut_some {W : World} {lo hi b o n c : Nat} {l : List Nat} (h : Bs W lo hi (.slice (some ⟨b, o, none⟩) n c) l) {k j : Nat} (hkj : k ≤ j) (hjn : j ≤ n) : Bs W lo hi (.slice (some ⟨b, o + k, none⟩) (j - k) (c - k)) (mid l k j) := by
  obtain ⟨A', c', he, a1, a2, a3, a4⟩ := h
  injection he with x1 x2 x3
  subst x1 x2 x3
  have hl : (mid l k j).length = j - k := mid_length hjn
  refine ⟨some ⟨b, o + k, none⟩, c - k, by rw [hl], by rw [hl]; omega, by omega, (fun h => by cases h), ?_⟩
  by_cases hk : k = c
  · have : mid l k j = [] := List.eq_nil_of_length_eq_zero (by omega)
    rw [this]
    exact Sl.nil _ _ _ _
  · have h2 := By.drop (k := k) (cap := c) a4 (by omega) (by omega)
    rw [if_neg (fun e => hk e.symm)] at h2
    unfold By mid
    rw [bv_take]
    have h3 := Sl.take h2 (j - k)
    simpa [addr_add] using h3

set_option maxHeartbeats 4000000 in
theorem whole_any {w : World} {lo hi bd n c : Nat} {A : Option Addr} {b : List Nat} (hv : Bs w lo hi (.slice A n c) b) (hhi : hi ≤ w.heap.size) (hb : ∀ x ∈ b, x < 256) (hbd : w.cell? ⟨bd, 0, none⟩ = some (.slice A n c)) {k : Nat} (hk : k ≤ n) :
    Calls Try.prog 41 #[.int .i64 (k : Int), .pointer (some ⟨bd, 0, none⟩)] w (WholeAns w lo hi (b.drop k)) := by
  obtain ⟨hn, hnc, hcm⟩ := hv.len
  subst hn
  obtain ⟨A2, hA2, hrun⟩ := drop_run A b.length c k hk hnc
  have hr := hA2 _ _ _ _ hv
  obtain ⟨l, hl⟩ : ∃ l, l = b.drop k := ⟨_, rfl⟩
  have hll : b.length - k = l.length := by rw [hl]; simp
  have hlb : ∀ x ∈ l, x < 256 := fun x hx => hb x (List.mem_of_mem_drop (by rw [← hl]; exact hx))
  rw [← hl] at hr
  rw [hll] at hr hrun
  obtain ⟨d, hd⟩ : ∃ d, d = c - k := ⟨_, rfl⟩
  rw [← hd] at hr hrun
  have hld : l.length ≤ d := by omega
  have hdm : d ≤ maxLen := by omega
  rw [← hl]
  have hrunw := hrun w
  have hsize : (l.length : Int) ≤ 9223372036854775807 := by unfold maxLen at hdm; omega
  have HL := Lib.hid hlb
  have HR := Lib.hid hr
  have HCL := Lib.hid (claimed_any _ lo hi l w hr hlb)
  clear hv hb hnc hcm hA2 hrun hlb hr hdm hd
  by_cases h0 : claimed l = 0
  · have hno : whole1 l = none := by unfold whole1; rw [if_pos (.inl h0)]
    rw [h0] at HCL
    clear h0 hl
    go_enter Try.func41, Try.ntmps41
    go_wp2_with fail
    refine HCL.out.mono ?_
    rintro e w1 ⟨rfl, hb1⟩
    have HB := Lib.hid hb1
    clear hb1
    go_wp2_with fail
    go_ret2
    exact ⟨HB.out, .inr ⟨hno, _, _, _, rfl⟩⟩
  · by_cases hlt : l.length < claimed l
    · have hno : whole1 l = none := by unfold whole1; rw [if_pos (.inr hlt)]
      have hd1 : ((claimed l : Int) == 0) = false := by simpa using h0
      have hd2 : decide ((l.length : Int) < (claimed l : Int)) = true := by simpa using hlt
      clear h0 hl
      go_enter Try.func41, Try.ntmps41
      go_wp2_with fail
      refine HCL.out.mono ?_
      rintro e w1 ⟨rfl, hb1⟩
      have HB := Lib.hid hb1
      clear hb1
      go_wp2_with fail
      go_ret2
      exact ⟨HB.out, .inr ⟨hno, _, _, _, rfl⟩⟩
    · have hd1 : ((claimed l : Int) == 0) = false := by simpa using h0
      have hd2 : decide ((l.length : Int) < (claimed l : Int)) = false := by simpa using hlt
      have hp := claimed_pos h0
      have h9 : 9 ≤ claimed l := hp.1
      have hle : claimed l ≤ l.length := by omega
      obtain ⟨s, hs⟩ : ∃ s, s = claimed l := ⟨_, rfl⟩
      rw [← hs] at HCL hd1 hd2 h9 hle
      have HSZ := Lib.hid hs
      obtain ⟨b0, o0, rfl⟩ : ∃ b0 o0, A2 = some ⟨b0, o0, none⟩ := by
        obtain ⟨A', c', he, _, _, _, hby⟩ := HR.out
        obtain ⟨b0, o0, e, _⟩ := hby.at_ (i := 0) (by omega)
        injection he with x1
        exact ⟨b0, o0, by rw [x1, e]⟩
      have hsum := cut_some HR.out (k := 4) (j := 8) (by omega) (by omega)
      have hpay := cut_some HR.out (k := 8) (j := s) (by omega) hle
      have hlen := HR.out.head (k := 4) (by omega)
      have hd9 : 9 ≤ d := by omega
      have HSUM := Lib.hid hsum
      have HPAY := Lib.hid hpay
      have HLEN := Lib.hid hlen
      clear h0 hlt hl hp hs hlen hpay hsum
      go_enter Try.func41, Try.ntmps41
      go_wp2_with fail
      refine HCL.out.mono ?_
      rintro e w1 ⟨rfl, hb1⟩
      have HB := Lib.hid hb1
      have hsw : Bs w1 lo hi (.slice (some ⟨b0, o0 + 4, none⟩) (8 - 4) (d - 4)) (mid l 4 8) := HSUM.out.below hb1 hhi
      obtain ⟨As', cs', he, t1, t2, _, hby⟩ := hsw
      have hmid4 : (mid l 4 8).length = 4 := by rw [mid_length (by omega)]
      obtain ⟨b1, o1, x0, x1, x2, x3, hA1, hT, c0, c1, c2, c3⟩ := hby.four (by rw [hmid4]; omega)
      injection he with y1 y2 y3
      rw [hA1] at y1
      injection y1 with y1
      injection y1 with z1 z2
      subst z1 z2
      have hW4 : Hid (w4 (mid l 4 8) = #[.int .u8 (x0 : Int), .int .u8 (x1 : Int), .int .u8 (x2 : Int), .int .u8 (x3 : Int)]) := by
        rw [← List.take_of_length_le (Nat.le_of_eq hmid4), hT]; rfl
      have ha := run_arr b0 (o0 + 4) 4 (d - 4) (by omega)
      have hz : b0 < w1.heap.size := World.block_lt_of_cell? w1 ⟨b0, o0 + 4, none⟩ c0
      clear t1 t2 hby hT hb1 hA1 y2 y3
      go_wp2_with fail
      go_region
      obtain ⟨w2, hw2⟩ : ∃ w2, w2 = (w1.alloc (.cells #[.int .u8 (x0 : Int), .int .u8 (x1 : Int), .int .u8 (x2 : Int), .int .u8 (x3 : Int)] 45)).drew := ⟨_, rfl⟩
      rw [← hw2]
      have HX2 : Hid (Ext w1 w2) := by rw [hw2]; exact (ext_alloc _ _).trans (Ext.drew _)
      have HAB : Hid (Ab w2 w1.heap.size 45 (mid l 4 8)) := by rw [hw2]; unfold Hid Ab; rw [hW4.out]; exact heap_at w1 _ rfl
      have HCE : Hid (∀ u, Ext w2.drew u → u.cell? ⟨w1.heap.size, 0, none⟩ = some (.int .u8 (x0 : Int)) ∧ u.cell? ⟨w1.heap.size, 1, none⟩ = some (.int .u8 (x1 : Int)) ∧ u.cell? ⟨w1.heap.size, 2, none⟩ = some (.int .u8 (x2 : Int)) ∧ u.cell? ⟨w1.heap.size, 3, none⟩ = some (.int .u8 (x3 : Int))) := by
        intro u hu
        have hb := ext_heap ((Ext.drew w2).trans hu) HAB.out
        rw [hW4.out] at hb
        exact ⟨cell_of hb rfl, cell_of hb rfl, cell_of hb rfl, cell_of hb rfl⟩
      have HBY : Hid (∀ y ∈ [l.take 4, mid l 8 s], ∀ x ∈ y, x < 256) := fun y hy x hx => HL.out x (by simp at hy; rcases hy with rfl | rfl; exact List.mem_of_mem_take hx; exact List.mem_of_mem_drop (List.mem_of_mem_take hx))
      have HWU : Hid (∀ u, Ext w2.drew u → Below w.heap.size w u) := fun u hu => HB.out.trans ((HX2.out.trans ((Ext.drew w2).trans hu)).mono HB.out.size)
      have HNUM := Lib.hid (number_any (mid l 4 8) hmid4 (fun x hx => HL.out x (List.mem_of_mem_drop (List.mem_of_mem_take hx))))
      obtain ⟨z, hz⟩ : ∃ z : Bool, z = (((crc (l.take 4 ++ mid l 8 s) : Nat) : Int) == ((num4 (mid l 4 8) : Nat) : Int)) := ⟨_, rfl⟩
      have HZ := Lib.hid hz.symm
      clear hz hw2 c0 c1 c2 c3 ha
      go_upto_region 6 with (fail)
      refine flow (by kernel_rfl) [Is (.slice (some ⟨b0, o0 + 8, none⟩) (s - 8) (d - 8)), Is (.slice (some ⟨b0, o0, none⟩) 4 d), Is (.slice (some ⟨b0, o0 + 8, none⟩) (s - 8) (d - 8)), Rws 2 [l.take 4, mid l 8 s], Is (.int .u32 (crc (l.take 4 ++ mid l 8 s) : Nat)), Is (.agg (w4 (mid l 4 8))), Is (.int .u32 (num4 (mid l 4 8) : Nat)), Is (.bool z), Is (.slice (some ⟨b0, o0 + 8, none⟩) (s - 8) (d - 8)), Is (.bool z)] (by kernel_rfl) (by kernel_rfl) ?mono (fun f => ?obl) ?fin
      case mono =>
        simp only [List.forall_mem_cons, List.not_mem_nil, false_imp_iff, implies_true, and_true]
        exact ⟨.is _, .is _, .is _, .rws _ _, .is _, .is _, .is _, .is _, .is _, .is _⟩
      case fin =>
        intro g u hu hg
        simp only [puts, Act.put, List.setIfInBounds_toArray, List.set_cons_zero, List.set_cons_succ]
        have h8 : g 8 = .slice (some ⟨b0, o0 + 8, none⟩) (s - 8) (d - 8) := hg 8 (by decide)
        have h9 : g 9 = .bool z := hg 9 (by decide)
        rw [h8, h9]
        go_wp2_with fail
        go_ret2
        refine ⟨HWU.out u hu, ?_⟩
        have hwl : whole1 l = if z = true then some (mid l 8 s) else none := by
          unfold whole1
          rw [← HSZ.out, if_neg (by omega)]
          cases z
          · rw [if_neg (by have := HZ.out; simp at this; omega)]; rfl
          · rw [if_pos (by have := HZ.out; simp at this; omega)]; rfl
        have hml : (mid l 8 s).length = s - 8 := mid_length hle
        rw [hwl]
        cases z
        · exact .inr ⟨rfl, _, _, _, rfl⟩
        · exact .inl ⟨_, _, _, rfl, by rw [hml]; rfl, by rw [hml]; exact HPAY.out⟩
      case obl =>
        refine ⟨fun u hu hd => ?_, ?_⟩
        · try simp only [Act.put, List.setIfInBounds_toArray, List.set_cons_zero, List.set_cons_succ]
          go_simp
          exact ⟨Ext.refl _, rfl⟩
        refine ⟨fun u hu hd => ?_, ?_⟩
        · simp only [Act.put, List.setIfInBounds_toArray, List.set_cons_zero, List.set_cons_succ]
          go_simp
          exact ⟨Ext.refl _, rfl⟩
        refine ⟨fun u hu hd => ?_, ?_⟩
        · simp only [Act.put, List.setIfInBounds_toArray, List.set_cons_zero, List.set_cons_succ]
          go_simp
          exact ⟨Ext.refl _, rfl⟩
        refine ⟨fun u hu hd => ?_, ?_⟩
        · simp only [Act.put, List.setIfInBounds_toArray, List.set_cons_zero, List.set_cons_succ]
          have e1 : f 1 = (.slice (some ⟨b0, o0, none⟩) 4 d) := hd 1 (by kernel_rfl)
          have e2 : f 2 = (.slice (some ⟨b0, o0 + 8, none⟩) (s - 8) (d - 8)) := hd 2 (by kernel_rfl)
          have hx0 := Lib.hid (show Bs u lo hi (.slice (some ⟨b0, o0, none⟩) 4 d) (l.take 4) ∧ hi ≤ u.heap.size from ⟨HLEN.out.below (HWU.out u hu) hhi, Nat.le_trans hhi (HWU.out u hu).size⟩)
          have hx1 := Lib.hid (show Bs u lo hi (.slice (some ⟨b0, o0 + 8, none⟩) (s - 8) (d - 8)) (mid l 8 s) ∧ hi ≤ u.heap.size from ⟨HPAY.out.below (HWU.out u hu) hhi, Nat.le_trans hhi (HWU.out u hu).size⟩)
          have hr := Lib.hid (rws_lit u [.slice (some ⟨b0, o0, none⟩) 4 d, .slice (some ⟨b0, o0 + 8, none⟩) (s - 8) (d - 8)] [l.take 4, mid l 8 s] 2 rfl rfl (fun i v l hv hl => by
            match i with
            | 0 => simp at hv hl; subst hv hl; exact ⟨_, _, hx0.out⟩
            | 1 => simp at hv hl; subst hv hl; exact ⟨_, _, hx1.out⟩
            | i + 2 => simp at hv))
          go_simp
          exact ⟨below_new _ _, hr.out⟩
        refine ⟨fun u hu hd => ?_, ?_⟩
        · simp only [Act.put, List.setIfInBounds_toArray, List.set_cons_zero, List.set_cons_succ]
          obtain ⟨hn, g, h, e3, hh, x, hr⟩ := (show Rws 2 [l.take 4, mid l 8 s] (f 3) u from hd 3 (by kernel_rfl))
          have HR := Lib.hid hr
          clear hr hn
          go_simp
          refine (sum_any _ 2 _ _ _ [l.take 4, mid l 8 s] u HR.out hh (by simp [maxLen]) (by simp) HBY.out).mono ?_
          rintro e w9 ⟨rfl, hb9⟩
          exact ⟨_, rfl, hb9, by simp [fact, Is, kept]⟩
        refine ⟨fun u hu hd => ?_, ?_⟩
        · simp only [Act.put, List.setIfInBounds_toArray, List.set_cons_zero, List.set_cons_succ]
          have hc := HCE.out u hu
          obtain ⟨c0, c1, c2, c3⟩ := hc
          have hw4 := hW4.out
          go_simp
          rw [← hw4]
          exact ⟨Ext.refl _, rfl⟩
        refine ⟨fun u hu hd => ?_, ?_⟩
        · simp only [Act.put, List.setIfInBounds_toArray, List.set_cons_zero, List.set_cons_succ]
          have e5 : f 5 = (.agg (w4 (mid l 4 8))) := hd 5 (by kernel_rfl)
          go_simp
          refine (HNUM.out u).mono ?_
          rintro e w9 ⟨rfl, hb9⟩
          exact ⟨_, rfl, hb9, rfl⟩
        refine ⟨fun u hu hd => ?_, ?_⟩
        · simp only [Act.put, List.setIfInBounds_toArray, List.set_cons_zero, List.set_cons_succ]
          have e4 : f 4 = (.int .u32 (crc (l.take 4 ++ mid l 8 s) : Nat)) := hd 4 (by kernel_rfl)
          have e6 : f 6 = (.int .u32 (num4 (mid l 4 8) : Nat)) := hd 6 (by kernel_rfl)
          have hz := HZ.out
          go_simp
          exact ⟨Ext.refl _, rfl⟩
        refine ⟨fun u hu hd => ?_, ?_⟩
        · simp only [Act.put, List.setIfInBounds_toArray, List.set_cons_zero, List.set_cons_succ]
          have e0 : f 0 = (.slice (some ⟨b0, o0 + 8, none⟩) (s - 8) (d - 8)) := hd 0 (by kernel_rfl)
          go_simp
          exact ⟨Ext.refl _, rfl⟩
        refine ⟨fun u hu hd => ?_, ?_⟩
        · simp only [Act.put, List.setIfInBounds_toArray, List.set_cons_zero, List.set_cons_succ]
          have e7 : f 7 = (.bool z) := hd 7 (by kernel_rfl)
          go_simp
          exact ⟨Ext.refl _, rfl⟩
        trivial
end Go.Proofs.Ytkaammdekalgnaa
