/- The document's own way behind many bytes 0. -/
import Derived.Test.YtppeomikmpahmaaCrun
import Derived.Test.YtppeomikmpahmaaCref
import Derived.Test.YtppeomikmpahmaaCzeros
import Derived.Test.YtppeomikmpahmaaFlow
import Derived.Deep.DeepCutAuto
namespace Go.Proofs.Ytppeomikmpahmaa
open Go.ChangeShapes Go.WideShapes Go.ChangeAt Go.RowKit

theorem Arr.lt {w : World} {b : Nat} {t : TypeId} {l : List Nat} (h : Arr w b t l) : b < w.heap.size := by
  rcases Nat.lt_or_ge b w.heap.size with h1 | h1
  · exact h1
  · unfold Arr at h; rw [Array.getElem?_eq_none h1] at h; cases h
/-- A whole array is loaded. -/
theorem gives_load_row {P : Program} {o : Oper} {a : Act} {u : World} {R : Value → World → Prop} (ty : TypeId) (x : Operand) (ho : o.op = .load ty x) (g : Nat) (hx : a.eval x = .pointer (some ⟨g, 0, none⟩)) (t : TypeId) (cs : Array Value) (fr : Nat × Nat) (d : TypeDesc) (hg : u.heap[g]? = some (.cells cs t fr))
    (hu : P.underlying ty = some d) (hd : (match d with | .struct _ | .array _ _ => true | _ => false) = true) (hi : (P.info? ty).map (·.size) = some cs.size) (h : R (.agg cs) u) : GivesR P ((execOp a.eval o).run P u) R := by
  unfold execOp
  simp only [ho, hx, Instr.loadAt, Instr.sureAddr, Sem.run_bind, Sem.run_pure, Result.andThen_ok, run_loadVar_row u g t ty cs fr d hg hu hd hi]
  exact h
theorem below_new' (w : World) (o : Obj) : Below w.heap.size w (w.alloc o) := (Below.refl _ _).alloc (Nat.le_refl _) o
theorem info45 : (Try.prog.info? 45).map (·.size) = some 32 := by kernel_rfl
theorem tmod_bit (x k : Nat) : (((x : Int) / 2 ^ k).tmod 2 == 1) = (x / 2 ^ k % 2 == 1) := by
  have e : (x : Int) / 2 ^ k = ((x / 2 ^ k : Nat) : Int) := by simp
  rw [e]
  generalize x / 2 ^ k = y
  rw [Int.tmod_eq_emod_of_nonneg (by omega), Bool.eq_iff_iff]
  simp
  omega
theorem rthrough_any (f : Nat → Nat) (hf : Lin f) (hk : Keeps f) (x : Nat) (hx : x < 4294967296) (w : World) :
    Calls Try.prog 24 #[.agg (rowv (wordsOf f)), .int .u32 (x : Int)] w fun e w' => e = .returned (.int .u32 (f x : Nat)) ∧ Below w.heap.size w w' := by
  have HX := Lib.hid hx
  have HF := Lib.hid hf
  have HK := Lib.hid hk
  obtain ⟨ws, hws⟩ : ∃ ws, ws = wordsOf f := ⟨_, rfl⟩
  have HW := Lib.hid hws
  have h32 : ws.length = 32 := by rw [hws]; exact wordsOf_length f
  have H32 := Lib.hid h32
  have hA : Arr (w.alloc (.cells (rowv ws) 45)) w.heap.size 45 ws := heap_alloc_new _ _
  have HA := Lib.hid hA
  have HB := Lib.hid ((Below.refl w.heap.size w).alloc (Nat.le_refl _) (.cells (rowv ws) 45))
  obtain ⟨W, hW⟩ : ∃ W, W = w.alloc (.cells (rowv ws) 45) := ⟨_, rfl⟩
  have HWW := Lib.hid hW
  rw [← hW] at HA HB
  rw [← hws]
  clear hx hf hk hws h32 hA hW
  go_enter Try.func24, Try.ntmps24
  go_wp2_with fail
  rw [← HWW.out]
  go_loop [5, 6] (fun b i => ∃ (k p : Nat), k ≤ 32 ∧ i = .int .i64 (k : Int) ∧ b = .int .u32 (p : Int) ∧ Hid (p = f (x % 2 ^ k))) (fun _ i => 32 - (intOf i).toNat)
  case atStart => exact ⟨0, 0, by omega, rfl, rfl, Lib.hid (by rw [Nat.pow_zero, Nat.mod_one, HF.out.zero])⟩
  case round =>
    obtain ⟨k, p, hk, rfl, rfl, hp⟩ := hrel
    by_cases hlt : k < 32
    · have hcell := HA.out.cell k (by rw [H32.out]; exact hlt)
      have hwk : ws[k]'(by rw [H32.out]; exact hlt) = f (2 ^ k) := by have := wordsOf_get f k (by rw [wordsOf_length]; exact hlt); simp only [HW.out]; exact this
      have hd1 : decide ((k : Int) < 32) = true := by simp; omega
      have hplt : p < 4294967296 := by rw [hp.out]; exact HK.out _ (Nat.lt_of_le_of_lt (Nat.mod_le _ _) HX.out)
      have HP2 := Lib.hid (xor_u32 hplt (HK.out _ (pow_lt hlt)))
      have HST := Lib.hid (HF.out.step x k)
      rw [hwk] at hcell
      clear hwk hplt
      rcases Nat.mod_two_eq_zero_or_one (x / 2 ^ k) with hbit | hbit
      · have hd := tmod_bit x k
        rw [hbit] at hd
        have hd2 : (((x : Int) / 2 ^ k).tmod 2 == 1) = false := hd
        have HBIT := Lib.hid hbit
        clear hbit hd
        go_wp2_with fail
        go_round
        case rel => exact ⟨k + 1, p, by omega, by go_num, rfl, Lib.hid (by rw [HST.out, if_neg (by rw [HBIT.out]; decide), Nat.xor_zero, hp.out])⟩
        case measure => simp [intOf]; omega
      · have hd := tmod_bit x k
        rw [hbit] at hd
        have hd2 : (((x : Int) / 2 ^ k).tmod 2 == 1) = true := hd
        have HBIT := Lib.hid hbit
        clear hbit hd
        go_wp2_with fail
        go_round
        case rel => exact ⟨k + 1, p ^^^ f (2 ^ k), by omega, by go_num, by rw [HP2.out], Lib.hid (by rw [HST.out, if_pos HBIT.out, hp.out])⟩
        case measure => simp [intOf]; omega
    · go_wp2_with fail
      go_ret
      obtain rfl : k = 32 := by omega
      have := HX.out
      exact ⟨by rw [hp.out, Nat.mod_eq_of_lt (by omega)]; rfl, HB.out⟩

set_option maxRecDepth 100000 in
set_option maxHeartbeats 4000000 in
theorem far_any (s n : Nat) (hs : s < 4294967296) (hn : n ≤ 9223372036854775807) (w : World) : Calls Try.prog 17 #[.int .u32 (s : Int), .int .i64 (n : Int)] w fun e w' => e = .returned (.int .u32 (shn (8 * n) s : Nat)) ∧ Below w.heap.size w w' := by
  have HS := Lib.hid hs
  have HN := Lib.hid hn
  have H0 := Lib.hid (thirtytwo fun i => shn 8 (2 ^ i))
  clear hs hn
  go_enter Try.func17, Try.ntmps17
  go_wp2_with fail
  rw [← H0.out]
  go_loopw [6] (fun i wr => ∃ k : Nat, k ≤ 32 ∧ i = .int .i64 (k : Int) ∧ Hid (Arr wr w.heap.size 45 (part (fun i => shn 8 (2 ^ i)) 32 k)) ∧ Hid (Below w.heap.size w wr)) (fun i _ => 32 - (intOf i).toNat)
  case atStart => exact ⟨0, by omega, rfl, heap_alloc_new _ _, (Below.refl _ _).alloc (Nat.le_refl _) _⟩
  case round =>
    obtain ⟨k, hk, rfl, HC, HB⟩ := hrel
    by_cases hlt : k < 32
    · have hcell := HC.out.cell k (by rw [part_length]; exact hlt)
      have hfree := HC.out.free k
      have hd : decide ((k : Int) < 32) = true := by simp; omega
      have HP := Lib.hid (shl_pow hlt)
      go_wp2_with fail
      rw [HP.out]
      refine (step_any (2 ^ k) (pow_lt hlt) _).mono ?_
      rintro e w1 ⟨rfl, rfl⟩
      go_wp2_with fail
      go_roundw
      case rel =>
        refine ⟨k + 1, by omega, by go_num, ?_, below_set HB.out (by omega) _ _⟩
        have := HC.out.set k (shn 8 (2 ^ k))
        rw [part_set (fun i => shn 8 (2 ^ i))] at this
        exact this
      case measure => simp [intOf]; omega
    · have HK0 := Lib.hid (show k = 32 by omega)
      have hd0 : decide ((k : Int) < 32) = false := by simp; omega
      have HA : Hid (Arr wr w.heap.size 45 (wordsOf (shn 8))) := by have := HC.out; rw [HK0.out, part_all] at this; exact this
      obtain ⟨k0, hk0⟩ : ∃ k0, k0 = k := ⟨_, rfl⟩
      subst hk0
      clear hlt hk
      have hz := HA.out.lt
      have HZ := Lib.hid hz
      clear hz HC
      go_wp2_with fail
      go_loopw [0, 1] (fun r x wr => ∃ (m q e : Nat), x = .int .i64 (m : Int) ∧ r = .int .u32 (q : Int) ∧ Hid (q < 4294967296) ∧ Hid (m ≤ 9223372036854775807) ∧ Hid (shn (8 * e * m) q = shn (8 * n) s) ∧ Hid (Arr wr w.heap.size 45 (wordsOf (shn (8 * e)))) ∧ Hid (Below w.heap.size w wr)) (fun _ x _ => (intOf x).toNat)
      case atStart => exact ⟨n, s, 1, rfl, rfl, HS, HN, Lib.hid rfl, HA, HB⟩
      case round =>
        clear HA HB HZ
        obtain ⟨m, q, e, rfl, rfl, hq, hm, he, HA, HB⟩ := hrel
        have HT := Lib.hid (twice_step e m q)
        have HZ := Lib.hid HA.out.lt
        have hm2 := hm.out
        by_cases h0 : m = 0
        · subst h0
          go_wp2_with fail
          go_ret
          exact ⟨by rw [← he.out]; rfl, HB.out⟩
        · have hd : decide (0 < (m : Int)) = true := by simp; omega
          have hd2 : decide (0 < m) = true := by simp; omega
          have HM0 := Lib.hid h0
          clear h0
          go_upto_if 24 with (fail)
          go_cut [0] (fun r wc => ∃ q' : Nat, r = .int .u32 (q' : Int) ∧ Hid (q' = if m % 2 = 1 then shn (8 * e) q else q) ∧ Hid (q' < 4294967296) ∧ Hid (Arr wc w.heap.size 45 (wordsOf (shn (8 * e)))) ∧ Hid (Below w.heap.size w wc))
          case first =>
            rcases Nat.mod_two_eq_zero_or_one m with hp | hp
            · have hodd : ((m : Int) % 2 == 1) = false := by simp; omega
              have HP := Lib.hid hp
              clear hp
              go_wp2_with fail
              go_meet
              case rel => exact ⟨q, rfl, Lib.hid (by rw [if_neg (by rw [HP.out]; decide)]), hq, HA, HB⟩
            · have hodd : ((m : Int) % 2 == 1) = true := by simp; omega
              have HP := Lib.hid hp
              clear hp
              go_wp2_with (refine wpList_load_row rfl 45 (.tmp 5) rfl w.heap.size rfl 45 _ (0, 0) _ HA.out Try.underlying45 rfl (by rw [rowv_size, wordsOf_length]; exact info45) ?_)
              refine (rthrough_any (shn (8 * e)) (Lin.shn _) (keeps_shn _) q hq.out _).mono ?_
              rintro e2 w2 ⟨rfl, hb2⟩
              have HBX := Lib.hid (HB.out.trans (hb2.mono (by have := HZ.out; omega)))
              have HAX := Lib.hid (HA.out.below hb2 HZ.out)
              clear hb2
              go_wp2_with fail
              go_meet
              case rel => exact ⟨shn (8 * e) q, rfl, Lib.hid (by rw [if_pos HP.out]), Lib.hid (shn_lt hq.out), HAX, HBX⟩
          case rest =>
            obtain ⟨q', rfl, hq', hql, HA2, HB2⟩ := hcut
            have HZC := Lib.hid HA2.out.lt
            have H0' := Lib.hid (thirtytwo (fun i => shn (8 * e) (shn (8 * e) (2 ^ i))))
            go_wp2_with fail
            rw [← H0'.out]
            go_loopw [8] (fun i wr => ∃ k : Nat, k ≤ 32 ∧ i = .int .i64 (k : Int) ∧ Hid (Arr wr w.heap.size 45 (wordsOf (shn (8 * e)))) ∧ Hid (Arr wr wc.heap.size 45 (part (fun i => shn (8 * e) (shn (8 * e) (2 ^ i))) 32 k)) ∧ Hid (Below w.heap.size w wr)) (fun i _ => 32 - (intOf i).toNat)
            case atStart => exact ⟨0, by omega, rfl, HA2.out.below (below_new' _ _) HZC.out, heap_alloc_new _ _, HB2.out.trans ((below_new' _ _).mono (by have := HZC.out; omega))⟩
            case round =>
              obtain ⟨k, hk, rfl, HA3, HC3, HB3⟩ := hrel
              have HZ3 := Lib.hid HC3.out.lt
              by_cases hlt : k < 32
              · have hd5 : decide ((k : Int) < 32) = true := by simp; omega
                have hki : (k : Int) < 32 := by omega
                have HAU : Hid (∀ u, Ext wr.drew u → Arr u w.heap.size 45 (wordsOf (shn (8 * e)))) := fun u hu => HA3.out.below ((Ext.drew wr).trans hu) HA3.out.lt
                have HCU : Hid (∀ u, Ext wr.drew u → Arr u wc.heap.size 45 (part (fun i => shn (8 * e) (shn (8 * e) (2 ^ i))) 32 k)) := fun u hu => HC3.out.below ((Ext.drew wr).trans hu) HC3.out.lt
                go_wp2_with fail
                refine flow_last (by kernel_rfl) [Is (.int .i64 (k : Int)), Is (.agg (rowv (wordsOf (shn (8 * e))))), Is (.int .i64 (k : Int)), Is (.pointer (some ⟨w.heap.size, k, none⟩)), Is (.int .u32 ((shn (8 * e) (2 ^ k) : Nat) : Int)), Is (.int .u32 ((shn (8 * e) (shn (8 * e) (2 ^ k)) : Nat) : Int)), Is (.pointer (some ⟨wc.heap.size, k, none⟩))] 7 _ (by kernel_rfl) (by kernel_rfl) rfl rfl (by kernel_rfl) ?mono (fun f => ?obl) ?fin
                case mono =>
                  simp only [List.forall_mem_cons, List.not_mem_nil, false_imp_iff, implies_true, and_true]
                  exact ⟨.is _, .is _, .is _, .is _, .is _, .is _, .is _⟩
                case obl =>
                  refine ⟨fun u hu hd => ?_, ?_⟩
                  · try simp only [Act.put, List.setIfInBounds_toArray, List.set_cons_zero, List.set_cons_succ]
                    go_simp
                    exact ⟨Ext.refl _, rfl⟩
                  refine ⟨fun u hu hd => ?_, ?_⟩
                  · simp only [Act.put, List.setIfInBounds_toArray, List.set_cons_zero, List.set_cons_succ]
                    rw [if_pos (by rfl)]
                    exact gives_load_row 45 (.tmp 5) rfl w.heap.size rfl 45 _ (0, 0) _ (HAU.out u hu) Try.underlying45 rfl (by rw [rowv_size, wordsOf_length]; exact info45) ⟨Ext.refl _, rfl⟩
                  refine ⟨fun u hu hd => ?_, ?_⟩
                  · simp only [Act.put, List.setIfInBounds_toArray, List.set_cons_zero, List.set_cons_succ]
                    go_simp
                    exact ⟨Ext.refl _, rfl⟩
                  refine ⟨fun u hu hd => ?_, ?_⟩
                  · simp only [Act.put, List.setIfInBounds_toArray, List.set_cons_zero, List.set_cons_succ]
                    have e2 : f 2 = (.int .i64 (k : Int)) := hd 2 (by kernel_rfl)
                    go_simp
                    exact ⟨Ext.refl _, rfl⟩
                  refine ⟨fun u hu hd => ?_, ?_⟩
                  · simp only [Act.put, List.setIfInBounds_toArray, List.set_cons_zero, List.set_cons_succ]
                    have e3 : f 3 = (.pointer (some ⟨w.heap.size, k, none⟩)) := hd 3 (by kernel_rfl)
                    have hcell := Arr.cell (HAU.out u hu) k (by rw [wordsOf_length]; exact hlt)
                    rw [wordsOf_get] at hcell
                    go_simp
                    exact ⟨Ext.refl _, rfl⟩
                  refine ⟨fun u hu hd => ?_, ?_⟩
                  · simp only [Act.put, List.setIfInBounds_toArray, List.set_cons_zero, List.set_cons_succ]
                    have e1 : f 1 = (.agg (rowv (wordsOf (shn (8 * e))))) := hd 1 (by kernel_rfl)
                    have e4 : f 4 = (.int .u32 ((shn (8 * e) (2 ^ k) : Nat) : Int)) := hd 4 (by kernel_rfl)
                    go_simp
                    refine (rthrough_any (shn (8 * e)) (Lin.shn _) (keeps_shn _) _ (shn_lt (pow_lt hlt)) u).mono ?_
                    rintro e9 w9 ⟨rfl, hb9⟩
                    exact ⟨_, rfl, hb9, rfl⟩
                  refine ⟨fun u hu hd => ?_, ?_⟩
                  · simp only [Act.put, List.setIfInBounds_toArray, List.set_cons_zero, List.set_cons_succ]
                    have e0 : f 0 = (.int .i64 (k : Int)) := hd 0 (by kernel_rfl)
                    go_simp
                    exact ⟨Ext.refl _, rfl⟩
                  trivial
                case fin =>
                  intro g u hu hg
                  have g0 : g 0 = (.int .i64 (k : Int)) := hg 0 (by decide)
                  have g1 : g 1 = (.agg (rowv (wordsOf (shn (8 * e))))) := hg 1 (by decide)
                  have g2 : g 2 = (.int .i64 (k : Int)) := hg 2 (by decide)
                  have g3 : g 3 = (.pointer (some ⟨w.heap.size, k, none⟩)) := hg 3 (by decide)
                  have g4 : g 4 = (.int .u32 ((shn (8 * e) (2 ^ k) : Nat) : Int)) := hg 4 (by decide)
                  have g5 : g 5 = (.int .u32 ((shn (8 * e) (shn (8 * e) (2 ^ k)) : Nat) : Int)) := hg 5 (by decide)
                  have g6 : g 6 = (.pointer (some ⟨wc.heap.size, k, none⟩)) := hg 6 (by decide)
                  have hcell := (HCU.out u hu).cell k (by rw [part_length]; exact hlt)
                  have hfree := (HCU.out u hu).free k
                  have hzu : wr.heap.size ≤ u.heap.size := by have := hu.size; simp at this; omega
                  simp only [List.take_succ_cons, List.take_zero, puts, Act.put, List.setIfInBounds_toArray, List.set_cons_zero, List.set_cons_succ]
                  go_simp
                  go_wp2_with fail
                  go_roundw
                  case rel =>
                    refine ⟨k + 1, by omega, by go_num, (HAU.out u hu).far (by simp; have := HZC.out; have := HA2.out.lt; omega) _, ?_, below_set (HB3.out.trans (((Ext.drew wr).trans hu).mono (by have := HB3.out.size; omega))) (by have := HB2.out.size; omega) _ _⟩
                    have := (HCU.out u hu).set k (shn (8 * e) (shn (8 * e) (2 ^ k)))
                    rw [part_set (fun i => shn (8 * e) (shn (8 * e) (2 ^ i)))] at this
                    exact this
                  case measure => simp [intOf]; omega
              · have hd5 : decide ((k : Int) < 32) = false := by simp; omega
                have HK5 := Lib.hid (show k = 32 by omega)
                have HW2 : Hid (rowv (part (fun i => shn (8 * e) (shn (8 * e) (2 ^ i))) 32 k) = rowv (wordsOf (shn (8 * (e + e))))) := by rw [HK5.out, part_all, Nat.mul_add, ← words_twice]; rfl
                have HQUO : Hid ((m : Int) / 2 = ((m / 2 : Nat) : Int)) := Lib.hid (by omega)
                clear hlt hk
                have HA4 := Lib.hid (HA3.out.setRow (wordsOf (shn (8 * (e + e)))))
                go_wp2_with (first | (refine wpList_load_row rfl 45 (.tmp 7) rfl wc.heap.size rfl 45 _ (0, 0) _ HC3.out Try.underlying45 rfl (by rw [rowv_size, part_length]; exact info45) ?_) | (refine wpList_store_row rfl 45 (.tmp 5) (.tmp 39) rfl w.heap.size (rowv (wordsOf (shn (8 * (e + e))))) rfl (by rw [← HW2.out]; rfl) 45 _ HA3.out (by rw [rowv_size, wordsOf_length]; exact info45) (by simp [rowv_size, wordsOf_length]) (rowv_one _) ?_))
                go_roundw
                case rel => exact ⟨m / 2, q', e + e, by rw [HQUO.out], rfl, hql, Lib.hid (by have := hm.out; omega), Lib.hid (by rw [← he.out, HT.out, ← hq'.out]), HA4, below_row HB3.out (Nat.le_refl _) _⟩
                case measure => simp [intOf]; have := HM0.out; omega

theorem rjoin_any (s t n : Nat) (hs : s < 4294967296) (ht : t < 4294967296) (hn : n ≤ 9223372036854775807) (w : World) : Calls Try.prog 15 #[.int .u32 (s : Int), .int .u32 (t : Int), .int .i64 (n : Int)] w fun e w' => e = .returned (.int .u32 (shn (8 * n) s ^^^ t : Nat)) ∧ Below w.heap.size w w' := by
  have H2 := Lib.hid (far_any s n hs hn w)
  have H3 := Lib.hid (xor_u32 (shn_lt (n := 8 * n) hs) ht)
  clear hs hn ht
  go_enter Try.func15, Try.ntmps15
  go_wp2_with fail
  refine Calls.mono H2.out ?_
  rintro e w1 ⟨rfl, hb1⟩
  have HB1 := Lib.hid hb1
  clear hb1
  go_wp2_with fail
  go_ret
  exact ⟨by rw [H3.out]; rfl, HB1.out⟩
end Go.Proofs.Ytppeomikmpahmaa
