/- FrameTorn: of frames, cut anywhere, just the whole ones are told; one bit turned, and it is not whole. -/
import Derived.Test.YtkaammdekalgnaaMknown
import Derived.Test.YtkaammdekalgnaaMends
import Derived.Test.YtkaammdekalgnaaFlow
import Derived.Deep.DeepCutAuto
namespace Go.Proofs.Ytkaammdekalgnaa.frameTorn
open Go.ChangeShapes Go.WideShapes Go.ChangeAt Go.RowKit

/-- A row stays while a row of unlike things grows. -/
theorem own_while0 {w w' : World} {B B' s' n n' : Nat} {e e' : TypeId} {v v' : Value} {xs xs' : List Value} (h : w.ownsRow B e 1 v n xs) (k : w.ownsRow B' e' s' v' n' xs') (hne : e ≠ e') (hg : w.grownBy w' v'.ownBlock) : w'.ownsRow B e 1 v n xs :=
  row_kept h fun g hv => hg.block g (row_lt h g hv).2 (own_apart h k hne g hv)
/-- 'append(s, x...)' of bytes: all else stays. -/
theorem wpList_addgrown {ops : Array Oper} {rest : List Oper} {o : Oper} {a : Act} {Q : Exit → Act → World → Prop} {wr : World} (hgd : o.guard = none) (s x : Operand)
    (ho : o.op = .call { callee := .builtin .append, args := #[s, x], argTypes := #[22, 22] }) (B : Nat) (v : Value) (l : List Nat) (hs : a.eval s = v) (hown : Own B l v wr)
    (lo hi : Nat) (u : Value) (r : List Nat) (hx : a.eval x = u) (hu : Bs wr lo hi u r) (L : List Nat) (N : Nat) (hL : l ++ r = L) (hN : L.length = N) (hlen : N ≤ 1099511627776) (hB : B ≤ wr.heap.size)
    (h : ∀ A' c' w', Own B L (.slice A' N c') w' → wr.grownBy w' v.ownBlock → wpList Try.prog ops Q rest (a.put o.dst (.slice A' N c')) w') :
    wpList Try.prog ops Q (o :: rest) a wr := by
  obtain ⟨i0, hi0, hz0, hz1, hz2⟩ := info_parts t5info
  subst hL hN
  rw [List.length_append] at hlen
  have fin : ∀ v' w', Own B (l ++ r) v' w' → wr.grownBy w' v.ownBlock → wpList Try.prog ops Q rest (a.put o.dst v') w' := fun v' w' h1 h2 => by
    have h3 := h1
    obtain ⟨A', c', rfl, _, _, _, _⟩ := Sl.of_own h3
    exact h A' c' w' h1 h2
  obtain ⟨A, c, rfl, q1, q2, q3, hby⟩ := hu
  rcases A with _ | ad
  · obtain rfl := q3 rfl
    obtain rfl : r = [] := List.eq_nil_of_length_eq_zero (by omega)
    exact wpList_append_own_none hgd s x 22 ho B 5 i0 1 Try.underlying22 hi0 v l.length (bv l) hs hown hx (fin v wr (by rw [List.append_nil]; exact hown) ⟨rfl, rfl, rfl, Nat.le_refl _, fun _ _ _ => rfl⟩)
  · refine wpList_append_own _ hgd s x 22 ho B 5 i0 (.int .u8 0) 1 1 Try.underlying22 hi0 hz0 hz1 hz2 rfl (by omega) v l.length (bv l) hs hown ad r.length c (bv r) hx (by simp [bv]) (fun j q hj => ?_) (bv_one r) (by unfold maxLen; omega) (by omega) hB
      (fun v' w' h2 h3 _ => fin v' w' (by unfold Own; rw [List.length_append, bv_append]; exact h2) h3)
    rcases hby with h0 | ⟨b, o, he, _, _, hc⟩
    · rw [h0] at hj; simp at hj
    · injection he with he
      subst he
      rw [addr_add]
      exact hc j q hj

/-- Where frames end, as cells. -/
def ev (l : List Nat) : List Value := l.map fun n : Nat => .int .i64 (n : Int)
/-- Between two rounds: the frames so far, and where they end. -/
structure Sofar (w1 wr : World) (ps : List (List Nat)) (b en : Value) : Prop where
  own : Own w1.heap.size (row ps) b wr
  ends : wr.ownsRow w1.heap.size 3 1 en ps.length (ev (ends ps))
  ext : Ext w1 wr
  may : ∀ p ∈ ps, mayP p
theorem Sofar.later {w1 wr w' : World} {ps : List (List Nat)} {b en : Value} (h : Sofar w1 wr ps b en) (hb : Ext wr w') : Sofar w1 w' ps b en := ⟨h.own.below hb, own_below h.ends hb (Nat.le_refl _), Ext.trans h.ext hb, h.may⟩
theorem grown_ext {w w' : World} {B : Nat} {v : Value} {n : Nat} {e : TypeId} {xs : List Value} (h : w.ownsRow B e 1 v n xs) (hg : w.grownBy w' v.ownBlock) (hB : B ≤ w.heap.size) : Below B w w' := (Below.refl B w).grown hg hB (fun g hg => (row_lt h g hg).1)

set_option maxRecDepth 100000 in
set_option maxHeartbeats 16000000 in
theorem walk (w : World) (A0 : Option Addr) (c0 : Nat) (us : List Value) (ls : List (List Nat)) (ya : ls.length ≤ c0) (yb : c0 ≤ maxLen) (yc : ∀ l ∈ ls, ∀ b ∈ l, b < 256) (yd : Rows2 w 0 w.heap.size A0 us ls) (ye : ∀ l ∈ ls, l.length ≤ 140737488351232) (at_ : Int) (hat : (Lit.int .i64 at_).wf = true) (bit : Int) (hbit : (Lit.int .i64 bit).wf = true) :
    Calls Try.prog 8 #[.slice A0 ls.length c0, .int .i64 at_, .int .i64 bit] w fun e w' => e = .returned (.bool true) ∧ Below w.heap.size w w' := by
  obtain ⟨i1, hi1, y1, y2, y3⟩ := info_parts tintinfo
  have HI1 := Lib.hid hi1
  have HYC := Lib.hid yc
  have HYE := Lib.hid ye
  have HR := Lib.hid yd
  have HAT := Lib.hid (i64_wf hat)
  have hl63 : ls.length ≤ 9223372036854775807 := by unfold maxLen at yb; omega
  have HL63 := Lib.hid hl63
  clear hi1 yc yd ye hat hbit ya yb
  go_enter Try.func8, Try.ntmps8
  go_wp2_with fail
  refine (known_any w).mono ?_
  rintro e w1 ⟨rfl, hb⟩
  have HX1 : Hid (Ext w w1) := hb
  clear hb
  go_wp2_with fail
  go_loopw [7, 8, 9, 10, 11] (fun b en i _ _ wr => ∃ (k N M : Nat) (Ab Ae : Option Addr) (cb ce : Nat), k ≤ ls.length ∧ k ≤ 201 ∧ N ≤ 60008 ∧ M ≤ 201 ∧ b = .slice Ab N cb ∧ en = .slice Ae M ce ∧ i = .int .i64 (k : Int) ∧ Hid (N = (row (nz ls k)).length) ∧ Hid (M = (nz ls k).length) ∧ Hid (M ≤ k) ∧ Hid (Sofar w1 wr (nz ls k) (.slice Ab N cb) (.slice Ae M ce)))
    (fun _ _ i _ _ _ => ls.length - (intOf i).toNat)
  case atStart => exact ⟨0, 0, 0, none, none, 0, 0, Nat.zero_le _, by omega, by omega, by omega, rfl, rfl, rfl, by rw [nz_zero]; rfl, by rw [nz_zero]; rfl, Nat.le_refl _, by rw [nz_zero]; exact ⟨Own.nil _ _, World.ownsRow_nil _ _ _ _, Ext.refl _, by simp⟩⟩
  case round =>
    obtain ⟨k, N, M, Ab, Ae, cb, ce, hk, hk201, hN, hM, rfl, rfl, rfl, HN, HM, HMK, HS⟩ := hrel
    by_cases hlt : k < ls.length
    · have t1 : decide ((k : Int) < (ls.length : Int)) = true := by simp; omega
      have t1n : decide (k < ls.length) = true := by simp; omega
      by_cases h201 : k < 201
      · have t2 : decide ((k : Int) < 201) = true := by simp; omega
        have t2n : decide (k < 201) = true := by simp; omega
        obtain ⟨bb, oo, Ap, cp, rfl, hnp, hlater⟩ := HR.out.later hlt
        have hcell := (hlater _ _ (Ext.trans HX1.out HS.out.ext) (Nat.le_refl _)).1
        obtain ⟨p, hp⟩ : ∃ p, p = ls[k] := ⟨_, rfl⟩
        rw [← hp] at hlater hcell
        have HNZ0 : Hid (p.length = 0 → nz ls (k + 1) = nz ls k) := fun e => nz_none hlt (by rw [← hp]; exact e)
        have HNZ1 : Hid (1 ≤ p.length → nz ls (k + 1) = nz ls k ++ [p]) := fun e => by rw [hp] at e ⊢; exact nz_some hlt e
        have HK1 : Hid (k + 1 ≤ ls.length) := hlt
        have HLATER := Lib.hid hlater
        have HPB : Hid (∀ x ∈ p, x < 256) := by rw [hp]; exact HYC.out _ (List.getElem_mem hlt)
        have H201 := Lib.hid h201
        have hki : (k : Int) < (ls.length : Int) := by omega
        have hpl : (p.length : Int) ≤ 140737488351232 := by have := HYE.out _ (List.getElem_mem hlt); rw [hp]; omega
        clear hp hlater hlt h201
        by_cases hbig : 60000 < N + p.length
        · have t3 : decide ((60000 : Int) < (N : Int) + (p.length : Int)) = true := by simp; omega
          clear hbig
          go_wp2_with fail
          go_ret
          exact ⟨rfl, Ext.trans HX1.out HS.out.ext⟩
        · have t3 : decide ((60000 : Int) < (N : Int) + (p.length : Int)) = false := by simp; omega
          have hpl6 : (p.length : Int) ≤ 60000 := by omega
          have HPL6 := Lib.hid (show p.length ≤ 60000 by omega)
          have HN6 := Lib.hid (show N + p.length ≤ 60000 by omega)
          clear hbig hpl
          go_wp2_with fail
          refine (put_any (HLATER.out _ _ (Ext.trans HX1.out HS.out.ext) (Nat.le_refl _)).2 (Nat.le_trans (Nat.le_refl _) (Ext.trans HX1.out HS.out.ext).size) HPB.out).mono ?_
          rintro e w2 ⟨hb, v2, ⟨h0, rfl, rfl⟩ | ⟨h0, _⟩ | ⟨h1, _, rfl, ho2⟩⟩
          · have HX2 : Hid (Ext wr w2) := hb
            have HP0 := Lib.hid h0
            have HCELL : Hid (∀ u, Ext w2.drew u → u.cell? ⟨bb, oo + k, none⟩ = some (.slice Ap p.length cp)) := fun u hu => (HLATER.out _ u (Ext.trans (Ext.trans HX1.out HS.out.ext) (Ext.trans HX2.out ((Ext.drew w2).trans hu))) (Nat.le_refl _)).1
            have hpz : ((p.length : Int)) = 0 := by omega
            have HPZ := Lib.hid hpz
            clear hb h0 hpz
            go_upto_region 11 with (fail)
            refine flow (by kernel_rfl) [Is (.int .i64 2), Is (.int .i64 2), Is (.bool false), Is (.slice (some ⟨bb, oo, none⟩) ls.length c0), Is (.int .i64 (k : Int)), Is (.pointer (some ⟨bb, oo + k, none⟩)), Is (.slice Ap p.length cp), Is (.int .i64 (p.length : Int)), Is (.bool false), Is (.bool false)] (by kernel_rfl) (by kernel_rfl) ?mono (fun f => ?obl) ?fin
            case mono =>
              simp only [List.forall_mem_cons, List.not_mem_nil, false_imp_iff, implies_true, and_true]
              exact ⟨.is _, .is _, .is _, .is _, .is _, .is _, .is _, .is _, .is _, .is _⟩
            case fin =>
              intro g u hu hg
              simp only [puts, Act.put, List.setIfInBounds_toArray, List.set_cons_zero, List.set_cons_succ]
              have h9 : g 9 = .bool false := hg 9 (by decide)
              rw [h9]
              have HXU : Hid (Ext wr u) := Ext.trans HX2.out ((Ext.drew w2).trans hu)
              have HSU := Lib.hid (HS.out.later HXU.out)
              clear hg hu
              go_wp2_with (at_builtin; refine wpList_addgrown rfl (.tmp 56) (.tmp 57) rfl w1.heap.size _ (row (nz ls k)) rfl HSU.out.own 0 0 _ [] rfl (Bs.nil u 0 0) (row (nz ls k)) N (List.append_nil _) HN.out.symm (by omega) HSU.out.ext.size ?_)
              intro A5 c5 w5 ho5 hg5
              have HB5 : Hid (Below w1.heap.size u w5) := grown_ext HSU.out.own hg5 HSU.out.ext.size
              have hen := own_while0 HSU.out.ends HSU.out.own (by decide) hg5
              have HS5 : Hid (Sofar w1 w5 (nz ls k) (.slice A5 N c5) (.slice Ae M ce)) := ⟨ho5, hen, Below.trans HSU.out.ext HB5.out, HSU.out.may⟩
              have hc5 : w5.cell? ⟨bb, oo + k, none⟩ = some (.slice Ap p.length cp) := (HLATER.out _ w5 (Ext.trans HX1.out HS5.out.ext) (Nat.le_refl _)).1
              have hq : decide ((0 : Int) < (p.length : Int)) = false := decide_eq_false (by have := HP0.out; omega)
              have hq2 : decide (0 < p.length) = false := decide_eq_false (by have := HP0.out; omega)
              clear ho5 hg5 hen
              go_wp2_with fail
              go_roundw
              case rel => exact ⟨k + 1, N, M, A5, Ae, c5, ce, HK1.out, by have := H201.out; omega, hN, hM, rfl, rfl, by simp, by rw [HNZ0.out HP0.out]; exact HN.out, by rw [HNZ0.out HP0.out]; exact HM.out, by have := HMK.out; unfold Hid; omega, by rw [HNZ0.out HP0.out]; exact HS5.out⟩
              case measure => have := HK1.out; simp [intOf]; omega
            case obl =>
              refine ⟨fun u hu hd => ?_, ?_⟩
              · try simp only [Act.put, List.setIfInBounds_toArray, List.set_cons_zero, List.set_cons_succ]
                go_simp
                exact ⟨Ext.refl _, rfl⟩
              refine ⟨fun u hu hd => ?_, ?_⟩
              · simp only [Act.put, List.setIfInBounds_toArray, List.set_cons_zero, List.set_cons_succ]
                have e0 : f 0 = (.int .i64 2) := hd 0 (by kernel_rfl)
                go_simp
                refine (num_any _ _).mono ?_
                rintro e w9 ⟨rfl, rfl⟩
                exact ⟨_, rfl, Ext.refl _, rfl⟩
              refine ⟨fun u hu hd => ?_, ?_⟩
              · simp only [Act.put, List.setIfInBounds_toArray, List.set_cons_zero, List.set_cons_succ]
                have e1 : f 1 = (.int .i64 2) := hd 1 (by kernel_rfl)
                go_simp
                exact ⟨Ext.refl _, rfl⟩
              refine ⟨fun u hu hd => ?_, ?_⟩
              · simp only [Act.put, List.setIfInBounds_toArray, List.set_cons_zero, List.set_cons_succ]
                go_simp
                exact ⟨Ext.refl _, rfl⟩
              refine ⟨fun u hu hd => ?_, ?_⟩
              · simp only [Act.put, List.setIfInBounds_toArray, List.set_cons_zero, List.set_cons_succ]
                go_simp
                exact ⟨Ext.refl _, rfl⟩
              refine ⟨fun u hu hd => ?_, ?_⟩
              · simp only [Act.put, List.setIfInBounds_toArray, List.set_cons_zero, List.set_cons_succ]
                have e3 : f 3 = (.slice (some ⟨bb, oo, none⟩) ls.length c0) := hd 3 (by kernel_rfl)
                have e4 : f 4 = (.int .i64 (k : Int)) := hd 4 (by kernel_rfl)
                go_simp
                exact ⟨Ext.refl _, rfl⟩
              refine ⟨fun u hu hd => ?_, ?_⟩
              · simp only [Act.put, List.setIfInBounds_toArray, List.set_cons_zero, List.set_cons_succ]
                have e5 : f 5 = (.pointer (some ⟨bb, oo + k, none⟩)) := hd 5 (by kernel_rfl)
                have hc := HCELL.out u hu
                go_simp
                exact ⟨Ext.refl _, rfl⟩
              refine ⟨fun u hu hd => ?_, ?_⟩
              · simp only [Act.put, List.setIfInBounds_toArray, List.set_cons_zero, List.set_cons_succ]
                have e6 : f 6 = (.slice Ap p.length cp) := hd 6 (by kernel_rfl)
                go_simp
                exact ⟨Ext.refl _, rfl⟩
              refine ⟨fun u hu hd => ?_, ?_⟩
              · simp only [Act.put, List.setIfInBounds_toArray, List.set_cons_zero, List.set_cons_succ]
                have e7 : f 7 = (.int .i64 (p.length : Int)) := hd 7 (by kernel_rfl)
                have hq : decide ((0 : Int) < (p.length : Int)) = false := decide_eq_false (by have := HP0.out; omega)
                have hq2 : decide (0 < p.length) = false := decide_eq_false (by have := HP0.out; omega)
                go_simp
                exact ⟨Ext.refl _, rfl⟩
              refine ⟨fun u hu hd => ?_, ?_⟩
              · simp only [Act.put, List.setIfInBounds_toArray, List.set_cons_zero, List.set_cons_succ]
                have e2 : f 2 = (.bool false) := hd 2 (by kernel_rfl)
                have e8 : f 8 = (.bool false) := hd 8 (by kernel_rfl)
                go_simp
                exact ⟨Ext.refl _, rfl⟩
              trivial

          · have := HPL6.out; omega
          · have HX2 : Hid (Ext wr w2) := hb
            have HP1 := Lib.hid h1
            have HO2 := Lib.hid ho2
            obtain ⟨A2, c2, rfl, _, _, _, _⟩ := Sl.of_own ho2
            have HCELL : Hid (∀ u, Ext w2.drew u → u.cell? ⟨bb, oo + k, none⟩ = some (.slice Ap p.length cp)) := fun u hu => (HLATER.out _ u (Ext.trans (Ext.trans HX1.out HS.out.ext) (Ext.trans HX2.out ((Ext.drew w2).trans hu))) (Nat.le_refl _)).1
            clear hb h1 ho2
            go_upto_region 11 with (fail)
            refine flow (by kernel_rfl) [Is (.int .i64 0), Is (.int .i64 0), Is (.bool true), Is (.slice (some ⟨bb, oo, none⟩) ls.length c0), Is (.int .i64 (k : Int)), Is (.pointer (some ⟨bb, oo + k, none⟩)), Is (.slice Ap p.length cp), Is (.int .i64 (p.length : Int)), Is (.bool true), Is (.bool false)] (by kernel_rfl) (by kernel_rfl) ?mono (fun f => ?obl) ?fin
            case mono =>
              simp only [List.forall_mem_cons, List.not_mem_nil, false_imp_iff, implies_true, and_true]
              exact ⟨.is _, .is _, .is _, .is _, .is _, .is _, .is _, .is _, .is _, .is _⟩
            case fin =>
              intro g u hu hg
              simp only [puts, Act.put, List.setIfInBounds_toArray, List.set_cons_zero, List.set_cons_succ]
              have h9 : g 9 = .bool false := hg 9 (by decide)
              rw [h9]
              have HXU : Hid (Ext wr u) := Ext.trans HX2.out ((Ext.drew w2).trans hu)
              have HOU : Hid (Own wr.heap.size (frame p) (.slice A2 (frame p).length c2) u) := HO2.out.below ((Ext.drew w2).trans hu)
              have HSU := Lib.hid (HS.out.later HXU.out)
              clear hg hu
              obtain ⟨N2, hN2⟩ : ∃ N2, N2 = N + (p.length + 8) := ⟨_, rfl⟩
              have HNN : Hid (N2 = N + (p.length + 8)) := hN2
              have HL2 : Hid ((row (nz ls k ++ [p])).length = N2) := by rw [row_snoc, List.length_append, frame_length, ← HN.out, hN2]; rfl
              clear hN2
              go_wp2_with (at_builtin; refine wpList_addgrown rfl (.tmp 56) (.tmp 57) rfl w1.heap.size _ (row (nz ls k)) rfl HSU.out.own _ _ _ (frame p) rfl HOU.out.bs (row (nz ls k ++ [p])) N2 (row_snoc _ _).symm HL2.out (by have := HNN.out; have := HN6.out; omega) HSU.out.ext.size ?_)
              intro A5 c5 w5 ho5 hg5
              have HB5 : Hid (Below w1.heap.size u w5) := grown_ext HSU.out.own hg5 HSU.out.ext.size
              have HX5 : Hid (Ext w1 w5) := Below.trans HSU.out.ext HB5.out
              have HEN5 := Lib.hid (own_while0 HSU.out.ends HSU.out.own (by decide) hg5)
              have HO5 := Lib.hid ho5
              have hc5 : w5.cell? ⟨bb, oo + k, none⟩ = some (.slice Ap p.length cp) := (HLATER.out _ w5 (Ext.trans HX1.out HX5.out) (Nat.le_refl _)).1
              have hq : decide ((0 : Int) < (p.length : Int)) = true := decide_eq_true (by have := HP1.out; omega)
              have hq2 : decide (0 < p.length) = true := decide_eq_true (by have := HP1.out; omega)
              have HENM : Hid (w5.ownsRow w1.heap.size 3 1 (.slice Ae M ce) M (ev (ends (nz ls k)))) := by rw [HM.out]; rw [← HM.out]; have := HEN5.out; rw [← HM.out] at this; exact this
              clear ho5 hg5
              go_wp2_with (at_builtin; refine wpList_pushrow rfl (.tmp 65) (.tmp 68) 32 rfl w1.heap.size 3 i1 (.int .i64 0) 8 Try.underlying32 HI1.out y1 y2 y3 rfl _ _ _ rfl HENM.out _ rfl _ rfl rfl (by unfold maxLen; omega) (by omega) HX5.out.size ?_)
              intro A6 c6 w6 ho6 hg6
              have hB6 : Below w1.heap.size w5 w6 := grown_below hg6 (fun g hg => (row_lt HENM.out g hg).1) HX5.out.size
              have hob := own_while HO5.out HENM.out (by decide) hg6
              have HS6 : Hid (Sofar w1 w6 (nz ls k ++ [p]) (.slice A5 N2 c5) (.slice A6 (M + 1) c6)) := by
                refine ⟨?_, ?_, Below.trans HX5.out hB6, ?_⟩
                · unfold Own; rw [HL2.out]; have h := hob; rw [HL2.out] at h; exact h
                · rw [List.length_append, ← HM.out, ends_snoc, HL2.out, ev, List.map_append]; exact ho6
                · intro q hq; rcases List.mem_append.1 hq with hq | hq
                  · exact HSU.out.may q hq
                  · rw [List.mem_singleton] at hq; subst hq; exact ⟨HP1.out, by have := HPL6.out; omega, HPB.out⟩
              clear ho6 hg6 hB6 hob
              go_wp2_with fail
              go_roundw
              case rel => exact ⟨k + 1, N2, M + 1, A5, A6, c5, c6, HK1.out, by have := H201.out; omega, by have := HNN.out; have := HN6.out; omega, by have := HMK.out; have := H201.out; omega, rfl, rfl, by simp, by rw [HNZ1.out HP1.out]; exact HL2.out.symm, by rw [HNZ1.out HP1.out, List.length_append, ← HM.out]; rfl, by have := HMK.out; unfold Hid; omega, by rw [HNZ1.out HP1.out]; exact HS6.out⟩
              case measure => have := HK1.out; simp [intOf]; omega
            case obl =>
              refine ⟨fun u hu hd => ?_, ?_⟩
              · try simp only [Act.put, List.setIfInBounds_toArray, List.set_cons_zero, List.set_cons_succ]
                go_simp
                exact ⟨Ext.refl _, rfl⟩
              refine ⟨fun u hu hd => ?_, ?_⟩
              · simp only [Act.put, List.setIfInBounds_toArray, List.set_cons_zero, List.set_cons_succ]
                have e0 : f 0 = (.int .i64 0) := hd 0 (by kernel_rfl)
                go_simp
                refine (num_any _ _).mono ?_
                rintro e w9 ⟨rfl, rfl⟩
                exact ⟨_, rfl, Ext.refl _, rfl⟩
              refine ⟨fun u hu hd => ?_, ?_⟩
              · simp only [Act.put, List.setIfInBounds_toArray, List.set_cons_zero, List.set_cons_succ]
                have e1 : f 1 = (.int .i64 0) := hd 1 (by kernel_rfl)
                go_simp
                exact ⟨Ext.refl _, rfl⟩
              refine ⟨fun u hu hd => ?_, ?_⟩
              · simp only [Act.put, List.setIfInBounds_toArray, List.set_cons_zero, List.set_cons_succ]
                go_simp
                exact ⟨Ext.refl _, rfl⟩
              refine ⟨fun u hu hd => ?_, ?_⟩
              · simp only [Act.put, List.setIfInBounds_toArray, List.set_cons_zero, List.set_cons_succ]
                go_simp
                exact ⟨Ext.refl _, rfl⟩
              refine ⟨fun u hu hd => ?_, ?_⟩
              · simp only [Act.put, List.setIfInBounds_toArray, List.set_cons_zero, List.set_cons_succ]
                have e3 : f 3 = (.slice (some ⟨bb, oo, none⟩) ls.length c0) := hd 3 (by kernel_rfl)
                have e4 : f 4 = (.int .i64 (k : Int)) := hd 4 (by kernel_rfl)
                go_simp
                exact ⟨Ext.refl _, rfl⟩
              refine ⟨fun u hu hd => ?_, ?_⟩
              · simp only [Act.put, List.setIfInBounds_toArray, List.set_cons_zero, List.set_cons_succ]
                have e5 : f 5 = (.pointer (some ⟨bb, oo + k, none⟩)) := hd 5 (by kernel_rfl)
                have hc := HCELL.out u hu
                go_simp
                exact ⟨Ext.refl _, rfl⟩
              refine ⟨fun u hu hd => ?_, ?_⟩
              · simp only [Act.put, List.setIfInBounds_toArray, List.set_cons_zero, List.set_cons_succ]
                have e6 : f 6 = (.slice Ap p.length cp) := hd 6 (by kernel_rfl)
                go_simp
                exact ⟨Ext.refl _, rfl⟩
              refine ⟨fun u hu hd => ?_, ?_⟩
              · simp only [Act.put, List.setIfInBounds_toArray, List.set_cons_zero, List.set_cons_succ]
                have e7 : f 7 = (.int .i64 (p.length : Int)) := hd 7 (by kernel_rfl)
                have hq : decide ((0 : Int) < (p.length : Int)) = true := decide_eq_true (by have := HP1.out; omega)
                have hq2 : decide (0 < p.length) = true := decide_eq_true (by have := HP1.out; omega)
                go_simp
                exact ⟨Ext.refl _, rfl⟩
              refine ⟨fun u hu hd => ?_, ?_⟩
              · simp only [Act.put, List.setIfInBounds_toArray, List.set_cons_zero, List.set_cons_succ]
                have e2 : f 2 = (.bool true) := hd 2 (by kernel_rfl)
                have e8 : f 8 = (.bool true) := hd 8 (by kernel_rfl)
                go_simp
                exact ⟨Ext.refl _, rfl⟩
              trivial

      · have t2 : decide ((k : Int) < 201) = false := by simp; omega
        have t2n : decide (k < 201) = false := by simp; omega
        have t5 : decide ((200 : Int) < (ls.length : Int)) = true := by simp; omega
        have t5n : decide (200 < ls.length) = true := by simp; omega
        have HCNT := Lib.hid (count_any (show Bs wr w1.heap.size wr.heap.size (.slice Ab N cb) (row (nz ls k)) from Own.bs HS.out.own) (Nat.le_refl _) (rows_lt HS.out.may))
        clear h201 hlt
        go_wp2_with fail
        refine HCNT.out.mono ?_
        rintro e w2 ⟨rfl, hb⟩
        have HX2 : Hid (Ext wr w2) := hb
        clear hb
        go_wp2_with fail
        go_ret
        exact ⟨rfl, Ext.trans HX1.out (Ext.trans HS.out.ext HX2.out)⟩
    · have t1 : decide ((k : Int) < (ls.length : Int)) = false := by simp; omega
      have t1n : decide (k < ls.length) = false := by simp; omega
      obtain ⟨ps, hps⟩ : ∃ ps, ps = nz ls k := ⟨_, rfl⟩
      rw [← hps] at HN HM HS
      have hall := row_all HS.out.may
      have hcnt := count_any (show Bs wr w1.heap.size wr.heap.size (.slice Ab N cb) (row ps) from Own.bs HS.out.own) (Nat.le_refl _) (rows_lt HS.out.may)
      unfold CountAns at hcnt
      rw [hall.1, hall.2, ← HM.out, ← HN.out] at hcnt
      have HCNT := Lib.hid hcnt
      have eN : ((N : Int) == (N : Int)) = true := by simp
      have eM : ((M : Int) == (M : Int)) = true := by simp
      clear hlt hps hall hcnt
      by_cases h200 : 200 < ls.length
      · have t5 : decide ((200 : Int) < (ls.length : Int)) = true := by simp; omega
        have t5n : decide (200 < ls.length) = true := by simp; omega
        clear h200
        go_wp2_with fail
        refine HCNT.out.mono ?_
        rintro e w2 ⟨rfl, hb⟩
        have HX2 : Hid (Ext wr w2) := hb
        clear hb
        go_wp2_with fail
        go_ret
        exact ⟨rfl, Ext.trans HX1.out (Ext.trans HS.out.ext HX2.out)⟩
      · have t5 : decide ((200 : Int) < (ls.length : Int)) = false := by simp; omega
        have t5n : decide (200 < ls.length) = false := by simp; omega
        clear h200
        by_cases hneg : at_ < 0
        · have t6 : decide (at_ < 0) = true := by simp [hneg]
          clear hneg
          go_wp2_with fail
          refine HCNT.out.mono ?_
          rintro e w2 ⟨rfl, hb⟩
          have HX2 : Hid (Ext wr w2) := hb
          clear hb
          go_wp2_with fail
          go_ret
          exact ⟨rfl, Ext.trans HX1.out (Ext.trans HS.out.ext HX2.out)⟩
        · have t6 : decide (at_ < 0) = false := by simp [hneg]
          by_cases hN0 : N = 0
          · have t7 : ((N : Int) == 0) = true := by simp [hN0]
            clear hneg hN0
            go_wp2_with fail
            refine HCNT.out.mono ?_
            rintro e w2 ⟨rfl, hb⟩
            have HX2 : Hid (Ext wr w2) := hb
            clear hb
            go_wp2_with fail
            go_ret
            exact ⟨rfl, Ext.trans HX1.out (Ext.trans HS.out.ext HX2.out)⟩
          · have t7 : ((N : Int) == 0) = false := by rw [beq_eq_false_iff_ne]; omega
            obtain ⟨a0, rfl⟩ : ∃ a0 : Nat, at_ = (a0 : Int) := ⟨at_.toNat, by omega⟩
            obtain ⟨a, ha⟩ : ∃ a, a = a0 % N := ⟨_, rfl⟩
            have haN : a < N := by rw [ha]; exact Nat.mod_lt _ (by omega)
            have hmod : ((a0 : Int)).tmod (N : Int) = (a : Int) := by rw [ha]; exact (Int.ofNat_tmod a0 N).symm
            have HAN := Lib.hid haN
            have HMOD := Lib.hid hmod
            have HNP := Lib.hid (show 0 < N by omega)
            have haNi : (a : Int) < (N : Int) := by omega
            clear hneg hN0 ha haN
            go_wp2_with fail
            refine HCNT.out.mono ?_
            rintro e w2 ⟨rfl, hb⟩
            have HX2 : Hid (Ext wr w2) := hb
            have HS2 := Lib.hid (HS.out.later hb)
            clear hb
            go_wp2_with fail
            have hMpos : 0 < M := by
              rcases Nat.eq_zero_or_pos M with h0 | h0
              · have h1 := HM.out
                have h2 := HN.out
                have h3 := HNP.out
                rw [h0] at h1
                rw [List.eq_nil_of_length_eq_zero h1.symm] at h2
                rw [h2] at h3
                simp [row] at h3
              · exact h0
            have hen := HS2.out.ends
            rw [← HM.out] at hen
            obtain ⟨g, rfl, _⟩ := row_at (k := 0) hen (by rw [ev, List.length_map, ends_length, ← HM.out]; exact hMpos)
            have HEN := Lib.hid hen
            clear hen
            go_loop [14, 15] (fun kk en => ∃ (j E : Nat), j ≤ M ∧ kk = .int .i64 (j : Int) ∧ en = .int .i64 (E : Int) ∧ Hid (E = (row (ps.take j)).length) ∧ E ≤ a) (fun kk _ => M - (intOf kk).toNat)
            case atStart => exact ⟨0, 0, Nat.zero_le _, rfl, rfl, by simp [Hid, row], Nat.zero_le _⟩
            case round =>
              obtain ⟨j, E, hj, rfl, rfl, HE, hEa⟩ := hrel
              by_cases hjM : j < M
              · have t8 : decide ((j : Int) < (M : Int)) = true := by simp; omega
                have t8n : decide (j < M) = true := by simp; omega
                have hjp : j < ps.length := by have := HM.out; omega
                obtain ⟨E2, hE2⟩ : ∃ E2, E2 = (row (ps.take (j + 1))).length := ⟨_, rfl⟩
                have hcell : w2.cell? ⟨g, j, none⟩ = some (.int .i64 (E2 : Int)) := by
                  have h := HEN.out.cellAt j (by omega)
                  rw [h, ev, List.getElem?_map, List.getElem?_eq_getElem (by rw [ends_length]; exact hjp), ends_get ps hjp, hE2]
                  rfl
                have HE2 := Lib.hid hE2
                have HJP := Lib.hid hjp
                have HJM := Lib.hid hjM
                have hji : (j : Int) < (M : Int) := by omega
                clear hE2 hjp hjM
                by_cases hle : E2 ≤ a
                · have t9 : decide ((E2 : Int) ≤ (a : Int)) = true := by simp; omega
                  have t9n : decide (E2 ≤ a) = true := by simp; omega
                  go_wp2_with fail
                  go_round
                  case rel => exact ⟨j + 1, E2, HJM.out, by go_num, rfl, HE2.out, hle⟩
                  case measure => have := HJM.out; simp [intOf]; omega
                · have t9 : decide ((E2 : Int) ≤ (a : Int)) = false := by simp; omega
                  have t9n : decide (E2 ≤ a) = false := by simp; omega
                  have hlt1 : (row (ps.take j)).length ≤ a := by rw [← HE.out]; exact hEa
                  have hlt2 : a < (row (ps.take (j + 1))).length := by rw [← HE2.out]; omega
                  have hcut := torn_cut HS2.out.may HJP.out hlt1 hlt2
                  rw [← HE.out] at hcut
                  have HCUT := Lib.hid hcut
                  have HLT2 := Lib.hid hlt2
                  have hbs : Bs w2 w1.heap.size w2.heap.size (.slice Ab N cb) (row ps) := Own.bs HS2.out.own
                  have hcbN : N ≤ cb := by obtain ⟨_, _, he, h1, _⟩ := hbs; injection he with _ x y; have := HN.out; omega
                  have hpre := hbs.head (k := a) (by have := HAN.out; omega)
                  have HPRE := Lib.hid hpre
                  have hcn2 := count_any hpre (Nat.le_refl _) (fun x hx => rows_lt HS2.out.may x (List.mem_of_mem_take hx))
                  unfold CountAns at hcn2
                  rw [hcut.1, hcut.2.1] at hcn2
                  have HCN2 := Lib.hid hcn2
                  have eJ : ((j : Int) != (j : Int)) = false := by simp
                  have eE : ((E : Int) != (E : Int)) = false := by simp
                  have eJ2 : ((j : Int) == (j : Int)) = true := by simp
                  have eE2 : ((E : Int) == (E : Int)) = true := by simp
                  clear hle hlt1 hlt2 hcut hbs hpre hcn2
                  go_wp2_with fail
                  refine HCN2.out.mono ?_
                  rintro e w3 ⟨rfl, hb⟩
                  have HX3 : Hid (Ext w2 w3) := hb
                  clear hb
                  go_wp2_with fail
                  refine (odd_is (HPRE.out.below HX3.out (Nat.le_refl _)) HX3.out.size (fun x hx => rows_lt HS2.out.may x (List.mem_of_mem_take hx)) false HCUT.out.2.2).mono ?_
                  rintro e w4 ⟨rfl, hb⟩
                  have HX4 : Hid (Ext w2 w4) := Ext.trans HX3.out hb
                  have HS4 := Lib.hid (HS2.out.later HX4.out)
                  clear hb
                  by_cases h4 : a < E + 4
                  · have t10 : decide ((a : Int) - (E : Int) < 4) = true := by simp; omega
                    clear h4
                    go_wp2_with fail
                    go_ret
                    exact ⟨rfl, Ext.trans HX1.out HS4.out.ext⟩
                  · have t10 : decide ((a : Int) - (E : Int) < 4) = false := by simp; omega
                    have HA4 := Lib.hid (show E + 4 ≤ a by omega)
                    clear h4
                    go_wp2_with (at_builtin; refine wpList_addgrown rfl (.const (.slice none 0 0)) (.tmp 149) rfl w4.heap.size _ [] rfl (Own.nil _ w4) _ _ _ (row ps) rfl (Own.bs HS4.out.own) (row ps) N rfl HN.out.symm (by omega) (Nat.le_refl _) ?_)
                    intro A5 c5 w5 ho5 hg5
                    have HX5 : Hid (Ext w4 w5) := (Below.refl _ _).grown hg5 (Nat.le_refl _) (fun k hk => by cases hk)
                    have HO5 := Lib.hid ho5
                    have hal : a < (row ps).length := by rw [← HN.out]; exact HAN.out
                    obtain ⟨g5, rfl⟩ : ∃ g5, A5 = some ⟨g5, 0, none⟩ := by
                      obtain ⟨g, hg, _⟩ := row_at (k := a) (show w5.ownsRow w4.heap.size 5 1 (.slice A5 N c5) N (bv (row ps)) by have h := ho5; unfold Own at h; rw [← HN.out] at h; exact h) (by rw [bv_length]; exact hal)
                      exact ⟨g, hg⟩
                    obtain ⟨x, hx⟩ : ∃ x, x = (row ps)[a] := ⟨_, rfl⟩
                    have q5 : w5.cell? ⟨g5, a, none⟩ = some (.int .u8 (x : Int)) := by
                      have h := World.ownsRow.cellAt (show w5.ownsRow w4.heap.size 5 1 (.slice (some ⟨g5, 0, none⟩) N c5) N (bv (row ps)) by have h := ho5; unfold Own at h; rw [← HN.out] at h; exact h) a (by have := HAN.out; omega)
                      rw [h, hx, bv, List.getElem?_map, List.getElem?_eq_getElem hal]
                      rfl
                    have f5 := World.ownsRow.frozenAt (show w5.ownsRow w4.heap.size 5 1 (.slice (some ⟨g5, 0, none⟩) N c5) N (bv (row ps)) by have h := ho5; unfold Own at h; rw [← HN.out] at h; exact h) a
                    have hg5b : w4.heap.size ≤ g5 := (row_lt ho5 g5 rfl).1
                    have hb7 := i64_and7 bit
                    obtain ⟨y, hy, hy8⟩ : ∃ y : Nat, bit % 8 = (y : Int) ∧ y < 8 := ⟨(bit % 8).toNat, by omega, by omega⟩
                    rw [hy] at hb7
                    have hx256 : x < 256 := by rw [hx]; exact rows_lt HS4.out.may _ (List.getElem_mem hal)
                    have hye : y % 8 = y := by omega
                    have hshl := shl8 y
                    rw [hye] at hshl
                    have hpw := pow_lt8 y
                    rw [hye] at hpw
                    have hxor := u8_xor_nat x (2 ^ y) hx256 hpw.2
                    obtain ⟨R, hR⟩ : ∃ R, R = (row ps).set a (x ^^^ 2 ^ y) := ⟨_, rfl⟩
                    have htt := torn_turned HS4.out.may HJP.out (a := a) (by rw [← HE.out]; exact HA4.out) HLT2.out hpw.1 hpw.2 hal
                    rw [← hx, ← hR, ← HE.out] at htt
                    have HTT := Lib.hid htt
                    have HRV : Hid (bv R = (bv (row ps)).set a (.int .u8 ((x ^^^ 2 ^ y : Nat) : Int))) := by rw [hR]; simp [Hid, bv, List.map_set]
                    have HRL : Hid (R.length = N) := by rw [hR]; unfold Hid; rw [List.length_set]; exact HN.out.symm
                    have HRB : Hid (∀ z ∈ R, z < 256) := by
                      rw [hR]
                      intro z hz
                      rcases List.mem_or_eq_of_mem_set hz with hz | rfl
                      · exact rows_lt HS4.out.may z hz
                      · exact Nat.xor_lt_two_pow (n := 8) hx256 hpw.2
                    have HSH := Lib.hid hshl
                    have HXO := Lib.hid hxor
                    have HG5 := Lib.hid hg5b
                    have hyi : (y : Int) < 8 := by omega
                    clear ho5 hg5 hy hR htt hx hx256 hye hshl hpw hxor hg5b hal
                    go_wp2_with fail
                    rw [HSH.out, HXO.out]
                    obtain ⟨w6, hw6⟩ : ∃ w6, w6 = w5.setCell ⟨g5, a, none⟩ (.int .u8 ((x ^^^ 2 ^ y : Nat) : Int)) := ⟨_, rfl⟩
                    have HO6 : Hid (Own w4.heap.size R (.slice (some ⟨g5, 0, none⟩) N c5) w6) := by
                      have h := (World.ownsRow.stored (show w5.ownsRow w4.heap.size 5 1 (.slice (some ⟨g5, 0, none⟩) N c5) N (bv (row ps)) by have h := HO5.out; unfold Own at h; rw [← HN.out] at h; exact h) a (.int .u8 ((x ^^^ 2 ^ y : Nat) : Int))).1
                      rw [← HRV.out] at h
                      rw [hw6]
                      unfold Hid Own
                      rw [HRL.out]
                      exact h
                    have HX6 : Hid (Ext w4 w6) := by rw [hw6]; exact Below.setCell HX5.out HG5.out _
                    rw [← hw6]
                    clear hw6 q5 f5
                    have hcn6 := count_any (Own.bs HO6.out) (Nat.le_refl _) HRB.out
                    unfold CountAns at hcn6
                    rw [HTT.out.1, HTT.out.2.1] at hcn6
                    have HCN6 := Lib.hid hcn6
                    clear hcn6
                    refine Calls.mono HCN6.out ?_
                    rintro e w7 ⟨rfl, hb⟩
                    have HX7 : Hid (Ext w4 w7) := Ext.trans HX6.out hb
                    have HO7 := Lib.hid (HO6.out.below hb)
                    clear hb
                    go_wp2_with fail
                    refine (odd_is (Own.bs HO7.out) (Nat.le_refl _) HRB.out true HTT.out.2.2).mono ?_
                    rintro e w8 ⟨rfl, hb⟩
                    have HX8 : Hid (Ext w4 w8) := Ext.trans HX7.out hb
                    clear hb
                    go_wp2_with fail
                    go_ret
                    exact ⟨rfl, Ext.trans HX1.out (Ext.trans HS4.out.ext HX8.out)⟩
              · exfalso
                obtain rfl : j = M := by omega
                have h1 := HE.out
                rw [HM.out, List.take_length, ← HN.out] at h1
                have := HAN.out
                omega
end Go.Proofs.Ytkaammdekalgnaa.frameTorn
