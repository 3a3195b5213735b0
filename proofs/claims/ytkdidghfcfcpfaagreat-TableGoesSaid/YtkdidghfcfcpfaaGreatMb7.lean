import Derived.Test.YtkdidghfcfcpfaaGreatMb6
import Derived.RangeFuncLeaves
import Derived.Test.YtkdidghfcfcpfaaGreatMb3
import Derived.Lib.SmallJoins
import Derived.SizedLaws
import Derived.Deep.Slices
import Derived.Test.YtkdidghfcfcpfaaGreatMb5
import Derived.Test.YtkdidghfcfcpfaaGreatMb4
import Derived.Test.YtkdidghfcfcpfaaGreatMb0
namespace Go.Proofs.YtkdidghfcfcpfaaGreat
open Go.ChangeShapes Go.WideShapes Go.ChangeAt Go.RowKit Go.Shelf
attribute [local go_sem] Oper.semAt_some
theorem ats_four (L : List Ent) {k j : Nat} (h : k % 4 = 0) (h1 : 1 ≤ j) (h4 : j ≤ 4) : ats L (k + j) = ats L (k + 1) := by
 have a1 : ats L (k + 1 + 1) = ats L (k + 1) := ats_miss L (by omega)
 have a2 : ats L (k + 2 + 1) = ats L (k + 2) := ats_miss L (by omega)
 have a3 : ats L (k + 3 + 1) = ats L (k + 3) := ats_miss L (by omega)
 match j, h1, h4 with
 | 1, _, _ => rfl
 | 2, _, _ => exact a1
 | 3, _, _ => exact a2.trans a1
 | 4, _, _ => exact a3.trans (a2.trans a1)
structure SI (p q : Nat) (w0 : World) (V V' : Value) (seen : Nat → Bool) (f : Nat → Value) (u : World) : Prop where
 chg : Chg (fun i => i = p ∨ i = q) w0 u
 a : Boxed u p 22 V
 b : Boxed u q 79 V'
 h0 : seen 0 = true → f 0 = V
 h1 : seen 1 = true → f 1 = V'
section
variable {p q : Nat} {w0 u : World} {V V' v : Value} {seen : Nat → Bool} {f : Nat → Value}
theorem SI.s0 (h : SI p q w0 V V' seen f u) : SI p q w0 V V' (Fi.upd seen 0 true) (Fi.upd f 0 V) u := ⟨h.chg, h.a, h.b, fun _ => rfl, h.h1⟩
theorem SI.s1 (h : SI p q w0 V V' seen f u) : SI p q w0 V V' (Fi.upd seen 1 true) (Fi.upd f 1 V') u := ⟨h.chg, h.a, h.b, h.h0, fun _ => rfl⟩
theorem SI.s2 (h : SI p q w0 V V' seen f u) (hpq : p ≠ q) : SI p q w0 V V' (Fi.upd seen 2 true) (Fi.upd f 2 v) (u.setCell ⟨p, 0, none⟩ V) :=
 ⟨h.chg.trans (Chg.setCell _ _ _ (.inl rfl)), h.a.set _, (Below.heap_setCell _ _ _ _ (by exact fun e => hpq e.symm)).trans h.b, h.h0, h.h1⟩
theorem SI.s3 (h : SI p q w0 V V' seen f u) (hpq : p ≠ q) : SI p q w0 V V' (Fi.upd seen 3 true) (Fi.upd f 3 v) (u.setCell ⟨q, 0, none⟩ V') :=
 ⟨h.chg.trans (Chg.setCell _ _ _ (.inr rfl)), (Below.heap_setCell _ _ _ _ (by exact hpq)).trans h.a, h.b.set _, h.h0, h.h1⟩
end
theorem results_two {fn : Func} {p q : Tmp} (h : fn.results = #[.cell p 22, .cell q 79]) (tmps : Array Value) (w : World) (g k : Nat) (v v' : Value) (hp : tmps.getD p undef = .pointer (some ⟨g, 0, none⟩)) (hq : tmps.getD q undef = .pointer (some ⟨k, 0, none⟩)) (hc : w.cell? ⟨g, 0, none⟩ = some v) (hc' : w.cell? ⟨k, 0, none⟩ = some v') :
    (results fn tmps).run Tryz.prog w = .ok (.tuple #[v, v']) w := by
 simp only [results, h]
 have hp' : tmps[p]?.getD undef = .pointer (some ⟨g, 0, none⟩) := by simpa using hp
 have hq' : tmps[q]?.getD undef = .pointer (some ⟨k, 0, none⟩) := by simpa using hq
 simp [Sem.run_bind, hp', hq', go_sem, hc, hc']
def LaidAns (w : World) (Ls : List Ent) (x : Ending) (w' : World) : Prop :=
 Ext w w' ∧ ∃ FA fc RA rc, x = .returned (.tuple #[.slice FA (upto Ls Ls.length).length fc, .slice RA (ats Ls Ls.length).length rc]) ∧ Own w.heap.size (upto Ls Ls.length) (.slice FA (upto Ls Ls.length).length fc) w' ∧ OwnI w.heap.size (ats Ls Ls.length) (.slice RA (ats Ls Ls.length).length rc) w'
set_option maxRecDepth 100000 in
set_option maxHeartbeats 16000000 in
theorem laid_any {w : World} {lo hi c : Nat} {A : Option Addr} {L : List (Ent × Hd)} (h : Es w lo hi A L) (hhi : hi ≤ w.heap.size) (hlc : L.length ≤ c) (hn1 : 1 ≤ L.length) (hn : L.length ≤ 1024) (hm : ∀ p ∈ L, p.1.may = true) :
    Calls Tryz.prog 122 #[.slice A L.length c] w (LaidAns w (L.map Prod.fst)) := by
 obtain ⟨b, o, rfl⟩ := h.base (by omega)
 obtain ⟨n, hln⟩ : ∃ n, n = L.length := ⟨_, rfl⟩
 obtain ⟨Ls, hLs⟩ : ∃ Ls, Ls = L.map Prod.fst := ⟨_, rfl⟩
 have HNL : Hid (Ls.length = n) := by rw [hLs, hln]; exact List.length_map ..
 have HE := zHd h
 have HHI := zHd hhi
 have HN : Hid (1 ≤ n ∧ n ≤ 1024 ∧ n ≤ c) := ⟨by omega, by omega, by omega⟩
 have HM := zHd hm
 have HLS := zHd hLs
 have HLN := zHd hln
 rw [← hln, ← hLs]
 obtain ⟨w1, hw1⟩ : ∃ w1, w1 = (w.alloc (.cells #[.slice none 0 0] 22)).alloc (.cells #[.slice none 0 0] 79) := ⟨_, rfl⟩
 have HX1 : Hid (Ext w w1) := by rw [hw1]; exact zEt (ext_alloc _ _) (ext_alloc _ _)
 have HZ1 : Hid (w1.heap.size = w.heap.size + 2) := by rw [hw1]; simp [Hid]
 have HF1 : Hid (Boxed w1 w.heap.size 22 (.slice none 0 0)) := by rw [hw1]; exact ext_heap (ext_alloc _ _) (heap_at _ _ rfl)
 have HR1 : Hid (Boxed w1 (w.heap.size + 1) 79 (.slice none 0 0)) := by rw [hw1]; exact heap_at _ _ (by simp)
 have HCK := zHd (chunk_any (some ⟨b, o, none⟩) n c w1)
 clear h hhi hlc hn1 hn hm hLs hln
 refine (callsIn_wide (n := 6)).1 ?_
 refine callsIn_of_wp_marks Tryz.func122 rfl trivial ?_
 simp only [Tryz.ntmps122, List.size_toArray, List.length_cons, List.length_nil, Nat.reduceAdd, Nat.reduceSub, Array.replicate_succ, Array.replicate_zero, List.push_toArray, List.append_toArray, List.nil_append, List.cons_append]
 refine wpIn_wide.2 ?_
 go_wp2_with fail
 rw [← hw1]
 clear hw1
 refine HCK.out.mono ?_
 rintro x w2 ⟨rfl, hw2⟩
 rw [HZ1.out]
 have HX2 : Hid (Ext w1 w2) := by rw [hw2]; exact zEt (ext_alloc _ _) (ext_alloc _ _)
 have HZ2 : Hid (w2.heap.size = w.heap.size + 4) := by rw [hw2]; have := HZ1.out; unfold Hid; simp; omega
 have HC2 : Hid (ChunkC (w.heap.size + 2) (w.heap.size + 3) (some ⟨b, o, none⟩) n c w2) := by
  rw [hw2]
  refine ⟨cell_of (ext_heap (ext_alloc _ _) (heap_at _ _ HZ1.out.symm)) rfl, cell_of (heap_at _ _ (by have := HZ1.out; simp; omega)) rfl⟩
 have HXW : Hid (Ext w w2) := zEt HX1.out HX2.out
 clear hw2 HCK
 go_wp2_with fail
 rename_i ak
 refine (wpIn_wide (n := 6)).1 ?_
 refine wpIn_over rfl enters_chunk1 (chunk_iter HN.out.2.2 (by have := HN.out; omega)) (fun _ => rfl) (LdI w n c (some ⟨b, o, none⟩) Ls) (fun _ _ => False) (fun _ _ _ h => h.boxes) ?hI (fun _ _ _ h _ => h) ?h0 ?round ?done (fun _ _ _ _ h _ => h.elim)
 case hI =>
  intro n₁ k A1 A2 _ hi hc
  exact hi.chg (by rw [HZ2.out] at hc; exact hc)
 case h0 =>
  intro A1 hx
  have hx1 := zEt HX2.out hx
  refine ⟨zEt HXW.out hx, ⟨ext_cell hx HC2.out.1, ext_cell hx HC2.out.2⟩, ⟨none, 0, ?_, ?_⟩, ⟨none, 0, ?_, ?_⟩, zNr _⟩
  · rw [Nat.mul_zero, Nat.zero_min, upto_zero]; exact ext_heap hx1 HF1.out
  · rw [Nat.mul_zero, Nat.zero_min, upto_zero]; exact World.ownsRow_nil _ _ _ _
  · rw [Nat.mul_zero, Nat.zero_min, ats_zero]; exact ext_heap hx1 HR1.out
  · rw [Nat.mul_zero, Nat.zero_min, ats_zero]; exact OwnI.nil _ _
 case round =>
  rintro l2 n₁ k ⟨X, m'⟩ A1 hl1 hl2 hn1 hnA hi hk ⟨hkn, hx⟩
  obtain ⟨m, hm⟩ : ∃ m, m = min 4 (n - 4 * k) := ⟨_, rfl⟩
  obtain ⟨hX, hm'⟩ : X = (some (⟨b, o, none⟩ : Addr)).map (·.add (4 * k * 4)) ∧ m' = m := by injection hx with h1 h2; exact ⟨h1, h2.trans hm.symm⟩
  obtain ⟨k0, hk0⟩ : ∃ k0, k0 = 4 * k := ⟨_, rfl⟩
  have HMK : Hid (1 ≤ m ∧ m ≤ 4 ∧ k0 + m ≤ n ∧ k0 % 4 = 0 ∧ min (4 * (k + 1)) n = k0 + m ∧ min (4 * k) n = k0) := by unfold Hid; omega
  obtain ⟨o2, ho2⟩ : ∃ o2, o2 = o + k0 * 4 := ⟨_, rfl⟩
  have HO2 := zHd ho2
  have hXE : X = some ⟨b, o2, none⟩ := by rw [hX, ho2, hk0]; show some (Addr.add _ _) = _; rw [addr_add]
  rw [hXE, hm']
  have HN1 := zHd hn1
  have HL12 := zHd (And.intro hl1 hl2)
  have HI1 := zHd hi
  clear hl1 hl2 hn1 hnA hi hk hkn hx hX hXE hm' hm hk0 ho2
  dsimp only [chunkV]
  gi_wp2
  refine ⟨Step.refl _ _ _, fun A2 hc => ?_⟩
  have HI2 := zHd (HI1.out.chg (hc.mono fun i _ e => ⟨by have := HL12.out.1; have := HZ2.out; omega, by have := HL12.out.2; omega⟩))
  clear hc
  obtain ⟨FA, fc, hF, hFo⟩ := HI2.out.forms
  obtain ⟨RA, rc, hR, hRo⟩ := HI2.out.ats
  rw [HMK.out.2.2.2.2.2] at hF hFo hR hRo
  have HF := zHd hF
  have HFO := zHd hFo
  have HR := zHd hR
  have HRO := zHd hRo
  have q0 := hF.cell
  have q1 := hR.cell
  have q2 := hR.frozen
  have HZA := zHd HI2.out.z
  have HS4 : Hid (w.heap.size + 4 < n₁) := by have := HN1.out; have := HZ2.out; unfold Hid; omega
  have HAL : Hid ((ats Ls k0).length ≤ 1000000000000) := by have := ats_len Ls k0; have := HMK.out; have := HN.out; unfold Hid; omega
  clear hF hFo hR hRo
  gi_wp2_with (gi_at_builtin; refine wpListIn_pushint rfl (.tmp 11) (.tmp 14) rfl n₁ _ (ats Ls k0) rfl (HRO.out.wall fun g hg => (ext_alloc _ _).block g (row_lt HRO.out g hg).2) (upto Ls k0).length A2.heap.size rfl (heap_at _ _ rfl) HAL.out (zNt HZA.out (by simp)) ?_; intro R5 c5 w5 hown5 hgr5; have HO5 := zHd hown5; have HG5 := zHd hgr5; have hb5 : Boxed w5 (w.heap.size + 1) 79 (.slice RA (ats Ls k0).length rc) := (hgr5.block _ (by have := HR.out.lt; simp; omega) (fun e => by have := (row_lt HRO.out _ e.symm).1; have := HS4.out; omega)).trans (ext_heap (ext_alloc _ _) HR.out); have HB5 := zHd hb5; have z1 := hb5.cell; have z2 := hb5.frozen; clear hown5 hgr5 hb5)
  obtain ⟨w6, hw6⟩ : ∃ w6, w6 = w5.setCell ⟨w.heap.size + 1, 0, none⟩ (.slice R5 ((ats Ls k0).length + 1) c5) := ⟨_, rfl⟩
  rw [← hw6]
  have HC6 : Hid (Chg (fun i => i = w.heap.size ∨ i = w.heap.size + 1 ∨ n₁ ≤ i) A2 w6) := by
   rw [hw6]
   exact ((Chg.alloc (S := fun i => i = w.heap.size ∨ i = w.heap.size + 1 ∨ n₁ ≤ i) A2 _).trans (Chg.grown HG5.out fun g hg => .inr (.inr (row_lt HRO.out g hg).1))).trans (Chg.setCell _ _ _ (.inr (.inl rfl)))
  have HA6 : Hid (Boxed w6 (w.heap.size + 1) 79 (.slice R5 ((ats Ls k0).length + 1) c5)) := by rw [hw6]; exact HB5.out.set _
  have HO6 : Hid (OwnI n₁ (ats Ls k0 ++ [(upto Ls k0).length]) (.slice R5 ((ats Ls k0).length + 1) c5) w6) := by
   rw [hw6]; exact HO5.out.wall fun g hg => Below.heap_setCell _ _ _ _ (by have := (row_lt HO5.out g hg).1; have := HS4.out; show g ≠ w.heap.size + 1; omega)
  have HFO6 : Hid (Own n₁ (upto Ls k0) (.slice FA (upto Ls k0).length fc) w6) := by
   have h1 := HFO.out.below (ext_alloc A2 (.cells #[.int .i64 ((upto Ls k0).length : Int)] 3))
   have h2 : Own n₁ (upto Ls k0) (.slice FA (upto Ls k0).length fc) w5 := h1.wall fun g hg => HG5.out.block g (row_lt h1 g hg).2 (fun e => rows_apart (HRO.out.wall fun g' hg' => (ext_alloc A2 (.cells #[.int .i64 ((upto Ls k0).length : Int)] 3)).block g' (row_lt HRO.out g' hg').2) h1 (by decide) e.symm hg)
   rw [hw6]; exact h2.wall fun g hg => Below.heap_setCell _ _ _ _ (by have := (row_lt h2 g hg).1; have := HS4.out; show g ≠ w.heap.size + 1; omega)
  have HF6 : Hid (Boxed w6 w.heap.size 22 (.slice FA (upto Ls k0).length fc)) := by
   have h1 : Boxed w5 w.heap.size 22 (.slice FA (upto Ls k0).length fc) := (HG5.out.block _ (by have := HF.out.lt; simp; omega) (fun e => by have := (row_lt HRO.out _ e.symm).1; have := HS4.out; omega)).trans (ext_heap (ext_alloc _ _) HF.out)
   rw [hw6]; exact (Below.heap_setCell _ _ _ _ (by show w.heap.size ≠ w.heap.size + 1; omega)).trans h1
  have hats : ats Ls k0 ++ [(upto Ls k0).length] = ats Ls (k0 + 1) := (ats_hit Ls HMK.out.2.2.2.1).symm
  have hatl : (ats Ls k0).length + 1 = (ats Ls (k0 + 1)).length := by rw [← hats]; simp
  rw [hats, hatl] at HO6
  rw [hatl] at HA6
  clear hw6 hats hatl z1 z2
  refine ⟨trivial, (CallsIn.inRound l2 (callsIn_wide.2 (behind_any _))).mono ?_⟩
  rintro x w7 ⟨rfl, hw7⟩
  have HX7 : Hid (Ext w6 w7) := by rw [hw7]; exact ext_alloc _ _
  obtain ⟨bx, hbx⟩ : ∃ bx, bx = w6.heap.size := ⟨_, rfl⟩
  have HB7 : Hid (Boxed w7 bx 22 (.slice none 0 0)) := by rw [hw7, hbx]; exact heap_at _ _ rfl
  have HBX : Hid (n₁ ≤ bx) := by rw [hbx]; exact zNt HZA.out HC6.out.size
  have HF7 : Hid (Boxed w7 w.heap.size 22 (.slice FA (upto Ls k0).length fc)) := ext_heap HX7.out HF6.out
  have HFO7 : Hid (Own n₁ (upto Ls k0) (.slice FA (upto Ls k0).length fc) w7) := HFO6.out.below HX7.out
  have HA7 : Hid (Boxed w7 (w.heap.size + 1) 79 (.slice R5 (ats Ls (k0 + 1)).length c5)) := ext_heap HX7.out HA6.out
  have HO7 : Hid (OwnI n₁ (ats Ls (k0 + 1)) (.slice R5 (ats Ls (k0 + 1)).length c5) w7) := HO6.out.wall fun g hg => HX7.out.block g (row_lt HO6.out g hg).2
  have HC7 : Hid (Chg (fun i => i = w.heap.size ∨ i = w.heap.size + 1 ∨ n₁ ≤ i) A2 w7) := HC6.out.trans (Chg.of_ext HX7.out)
  have HBW : Hid (Below w.heap.size w A2) := HI2.out.below
  rw [← hbx]
  clear hw7 hbx q0 q1 q2 HI1 HC6 HA6 HO6 HFO6 HF6 HX7
  gi_wp2
  gi_loopw [19] (fun x wr => ∃ j : Nat, j ≤ m ∧ x = .int .i64 (j : Int) ∧ Hid (LdR w n₁ Ls k0 bx m A2 j wr)) (fun x _ => m - (intOf x).toNat)
  case atStart => exact ⟨0, Nat.zero_le _, rfl, ⟨HC7.out, ⟨_, _, HF7.out, HFO7.out⟩, ⟨_, _, HA7.out, HO7.out⟩, _, HB7.out, fun _ => ⟨0, 0, by
   have : ahOf Ls (k0 + 0) = [] := if_pos HMK.out.2.2.2.1
   rw [this]; exact Bs.nil _ _ _, Nat.zero_le _⟩⟩⟩
  case round =>
   obtain ⟨j, hj, rfl, HLR⟩ := hrel
   by_cases hlt : j < m
   · have d : decide ((j : Int) < (m : Int)) = true := by rw [decide_eq_true_eq]; exact Int.ofNat_lt.2 hlt
     have dn : decide (j < m) = true := by rw [decide_eq_true_eq]; exact hlt
     have HJ := zHd hlt
     have n1 : (0 : Int) ≤ (j : Int) := by omega
     have n2 : (j : Int) < (m : Int) := Int.ofNat_lt.2 hlt
     have hkj : k0 + j < L.length := by have := HMK.out; have := HLN.out; omega
     obtain ⟨p, hp⟩ : ∃ p, L[k0 + j]? = some p := ⟨_, List.getElem?_eq_getElem hkj⟩
     have HP := zHd hp
     have HBR : Hid (Below w.heap.size w wr) := HBW.out.trans (HLR.out.chg.below (fun i h => by have := HS4.out; omega) HBW.out.size)
     have HEr := zHd (HE.out.below HBR.out HHI.out)
     obtain ⟨c0, c1, c2, c3⟩ := HEr.out.get hp
     have hoff : o + (k0 + j) * 4 = o2 + j * 4 := by have := HO2.out; omega
     rw [hoff] at c0 c1 c2 c3
     have HEM := zHd (HEr.out.each p (List.mem_of_getElem? HP.out))
     have HMAY := zHd (HM.out p (List.mem_of_getElem? HP.out))
     obtain ⟨FA2, fc2, hf2, hfo2⟩ := HLR.out.forms
     obtain ⟨hv, hk2, hk3⟩ := HLR.out.key
     obtain ⟨lo2, hi2, hk4, hk5⟩ := hk3 HJ.out
     have HPC : Hid (pieceOf Ls (k0 + j) = kform (ahOf Ls (k0 + j)) p.1) := piece_at (by rw [HLS.out, List.getElem?_map, HP.out]; rfl)
     have HPT : Hid (upto Ls (k0 + j + 1) = upto Ls (k0 + j) ++ kform (ahOf Ls (k0 + j)) p.1) := by rw [← HPC.out]; exact upto_succ Ls (k0 + j)
     have HAHL : Hid ((ahOf Ls (k0 + j)).length ≤ 32) := by
      unfold ahOf Hid
      split
      · simp
      · cases hq : Ls[k0 + j - 1]? with
        | none => simp
        | some q =>
         have hq2 : q ∈ Ls := List.mem_of_getElem? hq
         rw [HLS.out] at hq2
         obtain ⟨p2, hp2, rfl⟩ := List.mem_map.1 hq2
         exact (mayN_iff.1 (HM.out p2 hp2)).2.1
     have HFL : Hid ((upto Ls (k0 + j)).length ≤ 100000000) := by
      have h1 := upto_le (L := Ls) (fun e he => by rw [HLS.out] at he; obtain ⟨p2, hp2, rfl⟩ := List.mem_map.1 he; exact HM.out p2 hp2) (k0 + j)
      have := HMK.out; have := HN.out; have := HJ.out
      unfold Hid; omega
     obtain ⟨w4, hw4⟩ : ∃ w4, w4 = wr.alloc (.cells #[.slice p.2.kA p.1.key.length p.2.kc, .int .i64 p.1.seq, .int .i64 p.1.kind, .slice p.2.vA p.1.val.length p.2.vc] 50) := ⟨_, rfl⟩
     have HX4 : Hid (Ext wr w4) := by rw [hw4]; exact ext_alloc _ _
     have HE4 : Hid (w4.heap[wr.heap.size]? = some (.cells #[.slice p.2.kA p.1.key.length p.2.kc, .int .i64 p.1.seq, .int .i64 p.1.kind, .slice p.2.vA p.1.val.length p.2.vc] 50 (0, 0))) := by rw [hw4]; exact heap_at _ _ rfl
     have HF4 : Hid (Boxed w4 w.heap.size 22 (.slice FA2 (upto Ls (k0 + j)).length fc2)) := ext_heap HX4.out hf2
     have HFO4 : Hid (Own n₁ (upto Ls (k0 + j)) (.slice FA2 (upto Ls (k0 + j)).length fc2) w4) := hfo2.below HX4.out
     have HBX4 : Hid (Boxed w4 bx 22 hv) := ext_heap HX4.out hk2
     have HBXR := zHd hk2
     have HFOR := zHd hfo2
     have HZR : Hid (n₁ ≤ wr.heap.size) := zNt HZA.out HLR.out.chg.size
     have HEB : Hid (wr.heap.size < w4.heap.size) := (zAg.1 HE4.out).1
     have HCL := zHd (clo_any (w := w4.drew) (lo := lo) (hi := hi) (bx := bx) (e := p.1) (g := p.2) (ah := ahOf Ls (k0 + j)) (HEM.out.below (zEt HX4.out (Ext.drew w4)) (zNt HHI.out HBR.out.size)) (zNt HHI.out (zNt HBR.out.size HX4.out.size)) HMAY.out (ext_heap HX4.out hk2) (hk4.below (zEt HX4.out (Ext.drew w4)) hk5) (zNt hk5 HX4.out.size) (by have := HAHL.out; omega) (.inr (by have := HHI.out; have := HS4.out; have := HBX.out; omega)))
     have HMIX : Tryz.prog.follows .mixedOrders = true := by kernel_rfl
     clear hf2 hfo2 hk2 hk3 hk4 hk5 hoff hp hkj
     gi_wp2
     rw [← hw4]
     clear hw4
     refine Fi.flow_tail_in HMIX (by kernel_rfl) (fun _ _ h => h) (FI w4.drew (.slice FA2 (upto Ls (k0 + j)).length fc2) (.func (.func 159) #[] #[.pointer (some ⟨bx, 0, none⟩)]) (p.1.at_ p.2) (fun v u => CloAns w4.drew bx (ahOf Ls (k0 + j)) p.1 p.2 (.returned v) u)) 4 (by kernel_rfl) (by kernel_rfl) (by kernel_rfl) (by kernel_rfl) (fun f => FI.start f) (fun f1 => ?obl) ?fin
     case fin =>
      intro g1 sn u hs _ hI
      simp only [List.take_succ_cons, List.take_zero, List.drop_succ_cons, List.drop_zero, puts, Act.put, zq]
      have e0 := hI.h0 (hs 0 (by decide))
      obtain ⟨⟨hg, hb, A9, c9, hx2, ho⟩, _, _⟩ := hI.y3 (hs 3 (by decide))
      have e3 : g1 3 = .slice A9 (kform (ahOf Ls (k0 + j)) p.1).length c9 := by injection hx2
      rw [e0, e3]
      have HG := zHd hg
      have HB := zHd hb
      have HO9 := zHd ho
      have HNR4 : Hid (some bx ≠ (Value.slice FA2 (upto Ls (k0 + j)).length fc2).ownBlock) := Boxed.not_row HBX4.out (by decide) HFO4.out
      have HOU : Hid (Own n₁ (upto Ls (k0 + j)) (.slice FA2 (upto Ls (k0 + j)).length fc2) u) := HFO4.out.wall fun g hg' => HG.out.block g (row_lt HFO4.out g hg').2 (fun e => HNR4.out (e.symm.trans hg'.symm))
      have HZU : Hid (n₁ ≤ u.heap.size ∧ wr.heap.size ≤ u.heap.size) := by have h1 := HG.out.size; have h2 := HX4.out.size; have h3 := HZR.out; have h4 : w4.drew.heap.size = w4.heap.size := rfl; unfold Hid; omega
      have hbw : bx ≠ w.heap.size := by have := HBX.out; have := HS4.out; omega
      have HFU : Hid (Boxed u w.heap.size 22 (.slice FA2 (upto Ls (k0 + j)).length fc2)) := (HG.out.block w.heap.size HF4.out.lt (fun e => by injection e with e; exact hbw e.symm)).trans HF4.out
      have HBW2 := zHd hbw
      clear e0 e3 hg hb hx2 ho hI hs hbw
      refine wpList_addrow rfl (.tmp 23) (.tmp 26) rfl n₁ _ (upto Ls (k0 + j)) rfl HOU.out _ _ _ _ rfl HO9.out.bs (kform_pos _ _) (by have := HFL.out; have := kform_len (ah := ahOf Ls (k0 + j)) HMAY.out; omega) HZU.out.1 ?_
      intro A5 c5 w5 ho5 hg5
      have HRL : Hid (∀ g, (Value.slice FA2 (upto Ls (k0 + j)).length fc2).ownBlock = some g → n₁ ≤ g) := fun g hg => (row_lt HOU.out g hg).1
      have hb5 : Boxed w5 w.heap.size 22 (.slice FA2 (upto Ls (k0 + j)).length fc2) := (hg5.block _ HFU.out.lt (fun e => by have := HRL.out _ e.symm; have := HS4.out; omega)).trans HFU.out
      have HB5 := zHd hb5
      have HO5 := zHd ho5
      have HG5 := zHd hg5
      have z1 := hb5.cell
      have z2 := hb5.frozen
      clear hb5 ho5 hg5
      go_wp2_with fail
      gi_wp2
      obtain ⟨w6, hw6⟩ : ∃ w6, w6 = w5.setCell ⟨w.heap.size, 0, none⟩ (.slice A5 ((upto Ls (k0 + j)).length + (kform (ahOf Ls (k0 + j)) p.1).length) c5) := ⟨_, rfl⟩
      have hset : ∀ g, g ≠ w.heap.size → w6.heap[g]? = w5.heap[g]? := fun g hg => by rw [hw6]; exact Below.heap_setCell _ _ _ _ hg
      have hc6 : Chg (fun i => i = w.heap.size ∨ i = w.heap.size + 1 ∨ n₁ ≤ i) A2 w6 := by
       rw [hw6]
       exact (((HLR.out.chg.trans (Chg.of_ext (zEt HX4.out (Ext.drew w4)))).trans (Chg.grown HG.out fun g hg => .inr (.inr (by injection hg with hg; rw [← hg]; exact HBX.out)))).trans (Chg.grown HG5.out fun g hg => .inr (.inr (HRL.out g hg)))).trans (Chg.setCell _ _ _ (.inl rfl))
      have hb6 : Boxed w6 w.heap.size 22 (.slice A5 (upto Ls (k0 + j) ++ kform (ahOf Ls (k0 + j)) p.1).length c5) := by rw [hw6, List.length_append]; exact HB5.out.set _
      have ho6 : Own n₁ (upto Ls (k0 + j) ++ kform (ahOf Ls (k0 + j)) p.1) (.slice A5 (upto Ls (k0 + j) ++ kform (ahOf Ls (k0 + j)) p.1).length c5) w6 := HO5.out.wall fun g hg => hset g (by have := (row_lt HO5.out g hg).1; have := HS4.out; omega)
      have hall : ∀ g, g < wr.heap.size → g ≠ w.heap.size → g ≠ bx → (∀ q, (Value.slice FA2 (upto Ls (k0 + j)).length fc2).ownBlock = some q → q ≠ g) → w6.heap[g]? = wr.heap[g]? := fun g h1 h2 h3 h4 => by
       rw [hset g h2, HG5.out.block g (Nat.lt_of_lt_of_le h1 HZU.out.2) (fun e => h4 g e.symm rfl), HG.out.block g (Nat.lt_of_lt_of_le h1 HX4.out.size) (fun e => by injection e with e; exact h3 e)]
       exact HX4.out.block g h1
      have hbelow : Below w.heap.size w w6 := HBW.out.trans (hc6.below (fun i h => by have := HS4.out; omega) HBW.out.size)
      rw [← hw6]
      clear hw6 z1 z2
      obtain ⟨RA2, rc2, hra, hro⟩ := HLR.out.ats
      have hrob : ∀ g, (Value.slice RA2 (ats Ls (k0 + 1)).length rc2).ownBlock = some g → w6.heap[g]? = wr.heap[g]? := fun g hg => by
       refine hall g (row_lt hro g hg).2 (by have := (row_lt hro g hg).1; have := HS4.out; omega) (fun e => ?_) (fun q hq e => ?_)
       · have := Boxed.not_row HBXR.out (show 22 ≠ 3 by decide) hro
         exact this (by rw [hg, e])
       · subst e
         exact rows_apart HFOR.out hro (by decide) hq hg
      have hbx6 : Boxed w6 bx 22 (.slice p.2.kA p.1.key.length p.2.kc) := by
       have h1 : Boxed w5 bx 22 (.slice p.2.kA p.1.key.length p.2.kc) := (HG5.out.block _ HB.out.lt (Boxed.not_row HB.out (by decide) HOU.out)).trans HB.out
       exact (hset bx HBW2.out).trans h1
      refine ⟨⟨j + 1, HJ.out, ?_, ⟨hc6, ⟨A5, c5, ?_, ?_⟩, ⟨RA2, rc2, ?_, hro.wall hrob⟩, _, hbx6, fun hjm => ⟨lo, hi, ?_, zNt HHI.out hbelow.size⟩⟩⟩, ?_⟩
      · rw [wrap_succ (by have := HJ.out; have := HMK.out; omega)]
      · show Boxed w6 w.heap.size _ (.slice A5 (upto Ls (k0 + j + 1)).length c5)
        rw [HPT.out]; exact hb6
      · show Own n₁ (upto Ls (k0 + j + 1)) (.slice A5 (upto Ls (k0 + j + 1)).length c5) w6
        rw [HPT.out]; exact ho6
      · refine (hall _ hra.lt (by omega) (by have := HBX.out; have := HS4.out; omega) (fun q hq e => ?_)).trans hra
        have := HRL.out q hq; have := HS4.out; omega
      · have e1 : ahOf Ls (k0 + (j + 1)) = p.1.key := by
          unfold ahOf
          rw [if_neg (by have := HMK.out; omega), show k0 + (j + 1) - 1 = k0 + j by omega, HLS.out, List.getElem?_map, HP.out]; rfl
        rw [e1]
        exact ((HE.out.below hbelow HHI.out).each p (List.mem_of_getElem? HP.out)).k
      · rw [wrap_succ (by have := HJ.out; have := HMK.out; omega)]
        have := HJ.out
        simp [intOf]; omega
     case obl =>
      have hfu : ∀ sn u', FI w4.drew (.slice FA2 (upto Ls (k0 + j)).length fc2) (.func (.func 159) #[] #[.pointer (some ⟨bx, 0, none⟩)]) (p.1.at_ p.2) (fun v u => CloAns w4.drew bx (ahOf Ls (k0 + j)) p.1 p.2 (.returned v) u) sn f1 u' → Boxed u' w.heap.size 22 (.slice FA2 (upto Ls (k0 + j)).length fc2) := fun sn u' hI => by
       cases h3 : sn 3 with
       | false => rw [hI.n3 h3]; exact HF4.out
       | true =>
        obtain ⟨⟨hg, _⟩, _⟩ := hI.y3 h3
        exact (hg.block w.heap.size HF4.out.lt (fun e => by injection e with e; have := HBX.out; have := HS4.out; omega)).trans HF4.out
      have HFU := zHd hfu
      clear hfu
      refine ⟨fun sn u' hI hn hd => ?_, ?_⟩
      · have q := (HFU.out sn u' hI).cell
        have HI := zHd hI
        clear hI hn hd
        go_simp
        exact HI.out.s0
      refine ⟨fun sn u' hI hn hd => ?_, ?_⟩
      · simp only [Act.put, zq]
        have HI := zHd hI
        clear hI hn hd
        go_simp
        exact HI.out.s1
      refine ⟨fun sn u' hI hn hd => ?_, ?_⟩
      · simp only [Act.put, zq]
        have h3 : sn 3 = false := by
         cases h3 : sn 3 with
         | false => rfl
         | true => rw [(hI.y3 h3).2.2] at hn; cases hn
        have hu := hI.n3 h3
        subst hu
        have q0 : w4.drew.cell? ⟨wr.heap.size, 0, none⟩ = _ := cell_of HE4.out (k := 0) rfl
        have q1 : w4.drew.cell? ⟨wr.heap.size, 1, none⟩ = _ := cell_of HE4.out (k := 1) rfl
        have q2 : w4.drew.cell? ⟨wr.heap.size, 2, none⟩ = _ := cell_of HE4.out (k := 2) rfl
        have q3 : w4.drew.cell? ⟨wr.heap.size, 3, none⟩ = _ := cell_of HE4.out (k := 3) rfl
        have HI := zHd hI
        clear hI hn hd h3
        go_simp
        exact HI.out.s2
      refine ⟨fun sn u' hI hn hd => ?_, ?_⟩
      · simp only [Act.put, zq]
        have k1 : sn 1 = true := hd 1 (by kernel_rfl)
        have k2 : sn 2 = true := hd 2 (by kernel_rfl)
        have e1 := hI.h1 k1
        have e2 := hI.h2 k2
        have hu := hI.n3 hn
        subst hu
        have HI := zHd hI
        have HK := zHd (And.intro k1 k2)
        clear hI hn hd k1 k2
        have hec := enters_clo
        go_simp
        refine HCL.out.mono ?_
        rintro x w9 ⟨hg, hb, A9, c9, rfl, ho⟩
        exact ⟨_, rfl, HI.out.s3 HK.out.1 HK.out.2 ⟨hg, hb, A9, c9, rfl, ho⟩⟩
      trivial
   · have d : decide ((j : Int) < (m : Int)) = false := by rw [decide_eq_false_iff_not]; exact fun h => hlt (Int.ofNat_lt.1 h)
     have dn : decide (j < m) = false := by rw [decide_eq_false_iff_not]; exact hlt
     have hjm : j = m := by omega
     have HJM := zHd hjm
     clear hlt hj hjm
     gi_wp2
     have hc := HLR.out.chg
     obtain ⟨FA3, fc3, h1, h2⟩ := HLR.out.forms
     obtain ⟨RA3, rc3, h3, h4⟩ := HLR.out.ats
     have hbelow : Below w.heap.size w wr := HBW.out.trans (hc.below (fun i h => by have := HS4.out; omega) HBW.out.size)
     refine ⟨Step.of_chg hc HZA.out (fun i h5 h6 h7 => by have := HZ2.out; omega), ⟨hbelow, ⟨cell_chg HI2.out.boxes.1 hc (fun hs => ?_), cell_chg HI2.out.boxes.2 hc (fun hs => ?_)⟩, ⟨FA3, fc3, ?_, ?_⟩, ⟨RA3, rc3, ?_, ?_⟩, zNt HZA.out hc.size⟩⟩
     · have hs' : w.heap.size + 2 = w.heap.size ∨ w.heap.size + 2 = w.heap.size + 1 ∨ n₁ ≤ w.heap.size + 2 := hs
       have := HS4.out; omega
     · have hs' : w.heap.size + 3 = w.heap.size ∨ w.heap.size + 3 = w.heap.size + 1 ∨ n₁ ≤ w.heap.size + 3 := hs
       have := HS4.out; omega
     · rw [HMK.out.2.2.2.2.1, ← HJM.out]; exact h1
     · rw [HMK.out.2.2.2.2.1, ← HJM.out]; exact h2
     · rw [HMK.out.2.2.2.2.1, ats_four Ls HMK.out.2.2.2.1 HMK.out.1 HMK.out.2.1]; exact h3
     · rw [HMK.out.2.2.2.2.1, ats_four Ls HMK.out.2.2.2.1 HMK.out.1 HMK.out.2.1]; exact h4
 case done =>
  rintro D n₁ W hDl hDn hn1 hi hD
  have hmn : min (4 * ((n + 3) / 4)) n = n := by omega
  obtain ⟨FA, fc, hF, hFo⟩ := hi.forms
  obtain ⟨RA, rc, hR, hRo⟩ := hi.ats
  rw [hmn] at hF hFo hR hRo
  have HF := zHd hF
  have HFO := zHd hFo
  have HR := zHd hR
  have HRO := zHd hRo
  have HDL := zHd (And.intro hDl hDn)
  have HDD := zHd hD
  have HIB := zHd hi.below
  have HN1 : Hid (w.heap.size + 6 ≤ n₁) := by have := HZ2.out; unfold Hid; omega
  have HMIX : Tryz.prog.follows .mixedOrders = true := by kernel_rfl
  clear hDl hDn hn1 hi hD hmn hF hFo hR hRo
  refine ak _ _ ?_
  go_upto_region 10 with (fail)
  refine Fi.flow HMIX (SI w.heap.size (w.heap.size + 1) W.drew (.slice FA (upto Ls n).length fc) (.slice RA (ats Ls n).length rc)) (by kernel_rfl) (by kernel_rfl) (fun f => ⟨Chg.refl _ _, HF.out, HR.out, fun h => (by cases h), fun h => (by cases h)⟩) (fun f1 => ?obl) ?fin
  case fin =>
   intro g1 sn u hs hI
   simp only [puts, Act.put, zq]
   have HI := zHd hI
   clear hI hs
   go_wp2_with fail
   refine ⟨by simp, .inl ⟨_, _, rfl, run_takeDeferred (by rw [HI.out.chg.block D (zAg.1 HDD.out).1 (fun e => by have := HDL.out; have := HZ2.out; omega)]; exact HDD.out), ?_⟩⟩
   have hp : Chg (fun i => i = w.heap.size ∨ i = w.heap.size + 1 ∨ i = D) W (u.putObj D (.deferred none)) := by
    have h1 := HI.out.chg
    exact ((Chg.drew W).trans (h1.mono fun i _ h => by rcases h with h | h; exact .inl h; exact .inr (.inl h))).trans ((putObj_chg u D _).mono fun i _ h => .inr (.inr h))
   have hne : ∀ i, i < D → (u.putObj D (.deferred none)).heap[i]? = u.heap[i]? := fun i h => World.putObj_heap_other (by omega)
   have hfa : Boxed (u.putObj D (.deferred none)) w.heap.size 22 (.slice FA (upto Ls n).length fc) := (hne _ (by have := HDL.out; have := HZ2.out; omega)).trans HI.out.a
   have hrb : Boxed (u.putObj D (.deferred none)) (w.heap.size + 1) 79 (.slice RA (ats Ls n).length rc) := (hne _ (by have := HDL.out; have := HZ2.out; omega)).trans HI.out.b
   refine ⟨_, results_two rfl _ _ _ _ _ _ rfl rfl hfa.cell hrb.cell, ?_⟩
   have hx : Ext w (u.putObj D (.deferred none)) := HIB.out.trans (hp.below (fun i h => by have := HDL.out; have := HZ2.out; omega) HIB.out.size)
   have hk : ∀ g, n₁ ≤ g → g < W.heap.size → (u.putObj D (.deferred none)).heap[g]? = W.heap[g]? := fun g h1 h2 => hp.block g h2 (fun h => by have := HDL.out; have := HN1.out; omega)
   refine ⟨hx, FA, fc, RA, rc, by rw [HNL.out], ?_, ?_⟩
   · rw [HNL.out]
     exact (HFO.out.wall fun g hg => hk g (row_lt HFO.out g hg).1 (row_lt HFO.out g hg).2).base (by have := HN1.out; omega)
   · rw [HNL.out]
     exact (HRO.out.wall fun g hg => hk g (row_lt HRO.out g hg).1 (row_lt HRO.out g hg).2).base (by have := HN1.out; omega)
  case obl =>
   refine ⟨fun sn u' hI hn hd => ?_, ?_⟩
   · have q := hI.a.cell
     have HI := zHd hI
     clear hI hn hd
     go_simp
     exact HI.out.s0
   refine ⟨fun sn u' hI hn hd => ?_, ?_⟩
   · simp only [Act.put, zq]
     have q := hI.b.cell
     have HI := zHd hI
     clear hI hn hd
     go_simp
     exact HI.out.s1
   refine ⟨fun sn u' hI hn hd => ?_, ?_⟩
   · simp only [Act.put, zq]
     have k0 : sn 0 = true := hd 0 (by kernel_rfl)
     have e0 := hI.h0 k0
     have q := hI.a.cell
     have z := hI.a.frozen
     have HI := zHd hI
     clear hI hn hd k0
     go_simp
     exact HI.out.s2 (by omega)
   refine ⟨fun sn u' hI hn hd => ?_, ?_⟩
   · simp only [Act.put, zq]
     have k0 : sn 1 = true := hd 1 (by kernel_rfl)
     have e0 := hI.h1 k0
     have q := hI.b.cell
     have z := hI.b.frozen
     have HI := zHd hI
     clear hI hn hd k0
     go_simp
     exact HI.out.s3 (by omega)
   trivial
end Go.Proofs.YtkdidghfcfcpfaaGreat
namespace Go.Proofs.YtkdidghfcfcpfaaGreat
open Go.ChangeShapes Go.WideShapes Go.ChangeAt Go.RowKit
theorem wpList_pushint {ops : Array Oper} {rest : List Oper} {o : Oper} {a : Act} {Q : Exit → Act → World → Prop} {u : World} (hgd : o.guard = none) (s x : Operand)
    (ho : o.op = .call { callee := .builtin .append, args := #[s, x], argTypes := #[79, 79] }) (B : Nat) (v : Value) (l : List Nat) (hs : a.eval s = v) (hown : OwnI B l v u)
    (n gb : Nat) (hx : a.eval x = .slice (some ⟨gb, 0, none⟩) 1 1) (hblk : u.heap[gb]? = some (.cells #[.int .i64 (n : Int)] 3 (0, 0))) (hlen : l.length ≤ 1000000000000) (hB : B ≤ u.heap.size)
    (h : ∀ A' c' w', OwnI B (l ++ [n]) (.slice A' (l.length + 1) c') w' → u.grownBy w' v.ownBlock → wpList Tryz.prog ops Q rest (a.put o.dst (.slice A' (l.length + 1) c')) w') :
    wpList Tryz.prog ops Q (o :: rest) a u := by
 obtain ⟨i0, hi0', ix0, ix1, ix2⟩ := info_parts iinfo
 refine wpList_append_own _ hgd s x 79 ho B 3 i0 _ 1 8 Tryz.underlying79 hi0' ix0 ix1 ix2 rfl (by decide) v l.length (iv l) hs hown ⟨gb, 0, none⟩ 1 1 [.int .i64 (n : Int)] hx rfl (fun j q hj => ?n1) (fun q hq => ?n2) ?n3 ?n4 hB (fun v' w5 ho hgr _ => ?rest)
 case n1 =>
  rcases j with _ | j
  · simp at hj; subst hj; rw [addr_add, Nat.zero_add]; exact cell_of hblk rfl
  · simp at hj
 case n2 => rw [List.mem_singleton] at hq; subst hq; rfl
 case n3 => unfold maxLen; omega
 case n4 => omega
 case rest =>
  have ho' : OwnI B (l ++ [n]) v' w5 := by unfold OwnI; rw [List.length_append, iv_append]; exact ho
  obtain ⟨A', c', e⟩ := ho'.slice
  rw [List.length_append] at e
  subst e
  exact h A' c' w5 ho' hgr
theorem bs_be4 (W : World) (x : Nat) : Bs (W.alloc (.cells #[.int .u8 ((x : Int) / 16777216 % 256), .int .u8 ((x : Int) / 65536 % 256), .int .u8 ((x : Int) / 256 % 256), .int .u8 ((x : Int) % 256)] 5)) W.heap.size (W.heap.size + 1) (.slice (some ⟨W.heap.size, 0, none⟩) 4 4) (be4 x) := by
 refine ⟨_, 4, rfl, zNr _, by unfold maxLen; omega, fun h => (by cases h), .inr ⟨_, 0, rfl, zNr _, by omega, fun i u hu => ?_⟩⟩
 rw [Nat.zero_add]
 refine cell_of (heap_at _ _ rfl) ?_
 rw [← hu]
 have e : bv (be4 x) = [.int .u8 ((x : Int) / 16777216 % 256), .int .u8 ((x : Int) / 65536 % 256), .int .u8 ((x : Int) / 256 % 256), .int .u8 ((x : Int) % 256)] := by simp [bv, be4]
 rw [e]
 exact (List.getElem?_toArray ..)
def WriteAns (w : World) (Ls : List Ent) (x : Ending) (w' : World) : Prop :=
 Ext w w' ∧ ((MayB Ls ∧ ∃ A c, x = .returned (.tuple #[.slice A (wr Ls).length c, .int .i64 0]) ∧ Own w.heap.size (wr Ls) (.slice A (wr Ls).length c) w') ∨ (¬ MayB Ls ∧ x = .returned (.tuple #[.slice none 0 0, .int .i64 2])))
theorem WriteAns.no {w w' : World} {Ls : List Ent} (hx : Ext w w') (h : ¬ MayB Ls) : WriteAns w Ls (.returned (.tuple #[.slice none 0 0, .int .i64 2])) w' := ⟨hx, .inr ⟨h, rfl⟩⟩
set_option maxRecDepth 100000 in
set_option maxHeartbeats 8000000 in
theorem write_any {w : World} {lo hi c : Nat} {A : Option Addr} {L : List (Ent × Hd)} (h : Es w lo hi A L) (hhi : hi ≤ w.heap.size) (hlc : L.length ≤ c) (hlen : L.length ≤ 1000000000000) :
    Calls Tryz.prog 102 #[.slice A L.length c] w (WriteAns w (L.map Prod.fst)) := by
 have HMB : Hid (MayB (L.map Prod.fst) ↔ 1 ≤ L.length ∧ L.length ≤ 1024 ∧ Rise (L.map Prod.fst) ∧ (L.all fun p => p.1.may) = true) := by
  unfold MayB Hid
  rw [List.length_map, List.all_eq_true]
  refine ⟨fun ⟨h1, h2, h3, h4⟩ => ⟨h1, h2, h3, fun p hp => h4 _ (List.mem_map_of_mem hp)⟩, fun ⟨h1, h2, h3, h4⟩ => ⟨h1, h2, h3, fun e he => ?_⟩⟩
  obtain ⟨p, hp, rfl⟩ := List.mem_map.1 he
  exact h4 p hp
 have HR := zHd (rises_any (c := c) h hhi hlen)
 have HE := zHd h
 have HHI := zHd hhi
 have HLC := zHd hlc
 clear h hhi hlc
 obtain ⟨n, hn⟩ : ∃ n, n = L.length := ⟨_, rfl⟩
 rw [← hn] at HMB HR ⊢
 have HN := zHd hn
 clear hlen
 by_cases h1 : n < 1
 · have d1 : decide ((n : Int) < 1) = true := by rw [decide_eq_true_eq]; omega
   have HF := zHd (WriteAns.no (w := w) (Ls := L.map Prod.fst) (Ext.refl _) (fun hm => by have := HMB.out.1 hm; omega))
   clear h1 hn
   go_enter Tryz.func102, Tryz.ntmps102
   go_wp2_with fail
   go_ret2
   exact HF.out
 have d1 : decide ((n : Int) < 1) = false := by rw [decide_eq_false_iff_not]; omega
 by_cases h2 : 1024 < n
 · have d2 : decide ((1024 : Int) < (n : Int)) = true := by rw [decide_eq_true_eq]; omega
   have HF := zHd (WriteAns.no (w := w) (Ls := L.map Prod.fst) (Ext.refl _) (fun hm => by have := HMB.out.1 hm; omega))
   clear h1 h2 hn
   go_enter Tryz.func102, Tryz.ntmps102
   go_wp2_with fail
   go_ret2
   exact HF.out
 have d2 : decide ((1024 : Int) < (n : Int)) = false := by rw [decide_eq_false_iff_not]; omega
 have H12 : Hid (1 ≤ n ∧ n ≤ 1024) := by unfold Hid; omega
 clear h1 h2 hn
 go_enter Tryz.func102, Tryz.ntmps102
 go_wp2_with fail
 refine HR.out.mono ?_
 rintro x w2 ⟨z, hz, rfl, hx2⟩
 have HZ := zHd hz
 have HX2 := zHd hx2
 clear hz hx2
 cases z with
 | false =>
  have HF := zHd (WriteAns.no (w := w) (Ls := L.map Prod.fst) HX2.out (fun hm => by have := HZ.out.2 ⟨(HMB.out.1 hm).2.2.1, (HMB.out.1 hm).2.2.2⟩; cases this))
  go_wp2_with fail
  go_ret2
  exact HF.out
 | true =>
  have HMAY := zHd (HMB.out.2 ⟨H12.out.1, H12.out.2, HZ.out.1 rfl⟩)
  have HAM : Hid (∀ p ∈ L, p.1.may = true) := fun p hp => by have := (HZ.out.1 rfl).2; rw [List.all_eq_true] at this; exact this p hp
  clear HZ
  go_wp2_with fail
  have HLD := laid_any (c := c) (HE.out.below HX2.out HHI.out) (zNt HHI.out HX2.out.size) HLC.out (by rw [← HN.out]; exact H12.out.1) (by rw [← HN.out]; exact H12.out.2) HAM.out
  rw [← HN.out] at HLD
  refine HLD.mono ?_
  clear HLD
  rintro x w3 ⟨hx3, FA, fc, RA, rc, rfl, hf, hr⟩
  obtain ⟨Ls, hLs⟩ : ∃ Ls, Ls = L.map Prod.fst := ⟨_, rfl⟩
  rw [← hLs] at hf hr HMAY ⊢
  have HX3 : Hid (Ext w w3) := zEt HX2.out hx3
  have HF := zHd (hf.base HX2.out.size)
  have HRO := zHd (hr.base HX2.out.size)
  have HLB : Hid ((ats Ls Ls.length).length ≤ 1000 ∧ (upto Ls Ls.length).length ≤ 100000000) := by
   have h1 := ats_len Ls Ls.length
   have h2 := upto_le HMAY.out.2.2.2 Ls.length
   have h3 := HMAY.out.2.1
   unfold Hid; omega
  obtain ⟨K, hK⟩ : ∃ K, K = (ats Ls Ls.length).length := ⟨_, rfl⟩
  have HKK := zHd hK
  rw [← hK]
  have HLSE := zHd hLs
  clear hx3 hf hr hLs hK
  have hatl : ∀ W : World, OwnI w.heap.size (ats Ls Ls.length) (.slice RA K rc) W → OwnI w.heap.size (ats Ls Ls.length) (.slice RA (ats Ls Ls.length).length rc) W := fun W h => by rw [← HKK.out]; exact h
  have HRK : Hid (OwnI w.heap.size (ats Ls Ls.length) (.slice RA K rc) w3) := by rw [HKK.out]; exact HRO.out
  clear hatl
  go_wp2_with (at_builtin; refine wpList_pushint rfl (.tmp 26) (.tmp 29) rfl w.heap.size _ (ats Ls Ls.length) rfl (HRK.out.wall fun g hg => (ext_alloc _ _).block g (row_lt HRK.out g hg).2) K w3.heap.size rfl (heap_at _ _ rfl) (by have := HLB.out; omega) (zNt HX3.out.size (ext_alloc _ _).size) ?_)
  intro R5 c5 w5 ho5 hg5
  have hro1 := HRK.out.wall fun g hg => (ext_alloc w3 (.cells #[.int .i64 (K : Int)] 3)).block g (row_lt HRK.out g hg).2
  have hfo1 := HF.out.below (ext_alloc w3 (.cells #[.int .i64 (K : Int)] 3))
  have HF5 : Hid (Own w.heap.size (upto Ls Ls.length) (.slice FA (upto Ls Ls.length).length fc) w5) := hfo1.wall fun g hg => hg5.block g (row_lt hfo1 g hg).2 (fun e => rows_apart hro1 hfo1 (by decide) e.symm hg)
  have HX5 : Hid (Ext w w5) := (zEt HX3.out (ext_alloc w3 (.cells #[.int .i64 (K : Int)] 3))).grown hg5 (zEt HX3.out (ext_alloc _ _)).size (fun k hk => (row_lt hro1 k hk).1)
  have HR5 := zHd ho5
  obtain ⟨R, hR⟩ : ∃ R, R = ats Ls Ls.length ++ [K] := ⟨_, rfl⟩
  rw [← hR] at HR5
  have HRL : Hid (R.length = K + 1 ∧ R.length ≤ 2000) := by have := HLB.out; have := HKK.out; rw [hR]; unfold Hid; simp; omega
  have HRB : Hid (∀ x ∈ R, x < 4294967296) := by
   intro x hx
   rw [hR] at hx
   rcases List.mem_append.1 hx with hx | hx
   · exact ats_lt HMAY.out.2.2.2 HMAY.out.2.1 x hx
   · rw [List.mem_singleton] at hx; have := HLB.out; have := HKK.out; omega
  have HWR : Hid (wr Ls = upto Ls Ls.length ++ R.flatMap be4) := by
   rw [hR, HKK.out]; unfold wr Hid; simp
  have hkl : (ats Ls Ls.length).length + 1 = R.length := by rw [hR]; simp
  rw [hkl] at HR5 ⊢
  clear hro1 hfo1 ho5 hg5 hR hkl
  obtain ⟨rb, rfl⟩ : ∃ rb, R5 = some ⟨rb, 0, none⟩ := by
   rcases HR5.out.2 with ⟨h1, _⟩ | ⟨g, cap, cur, hv, _⟩
   · injection h1 with _ h2 _; have := HRL.out; omega
   · injection hv with h1 _ _; exact ⟨g, h1⟩
  go_wp2_with fail
  go_loopw [4, 7, 32] (fun v _ x wr => ∃ (i : Nat) (BA : Option Addr) (bc : Nat), i ≤ R.length ∧ x = .int .i64 (i : Int) ∧ v = .slice BA (upto Ls Ls.length ++ (R.take i).flatMap be4).length bc ∧ Hid (Own w.heap.size (upto Ls Ls.length ++ (R.take i).flatMap be4) (.slice BA (upto Ls Ls.length ++ (R.take i).flatMap be4).length bc) wr) ∧ Hid (Ext w wr) ∧ Hid (OwnI w.heap.size R (.slice (some ⟨rb, 0, none⟩) R.length c5) wr))
   (fun _ _ x _ => R.length - (intOf x).toNat)
  case atStart => exact ⟨0, FA, fc, Nat.zero_le _, rfl, by simp, by simpa using HF5, HX5, HR5⟩
  case round =>
   obtain ⟨i, BA, bc, hi, rfl, rfl, HB, HX, HRR⟩ := hrel
   obtain ⟨T, hT⟩ : ∃ T, T = upto Ls Ls.length ++ (R.take i).flatMap be4 := ⟨_, rfl⟩
   have HT := zHd hT
   rw [← hT] at HB ⊢
   clear hT
   by_cases hlt : i < R.length
   · have d : decide ((i : Int) < (R.length : Int)) = true := by rw [decide_eq_true_eq]; exact Int.ofNat_lt.2 hlt
     have dn : decide (i < R.length) = true := by rw [decide_eq_true_eq]; exact hlt
     have HLT := zHd hlt
     have n1 : (0 : Int) ≤ (i : Int) := by omega
     have n2 : (i : Int) < (R.length : Int) := Int.ofNat_lt.2 hlt
     obtain ⟨x, hx⟩ : ∃ x, R[i]? = some x := ⟨_, List.getElem?_eq_getElem hlt⟩
     have HXI := zHd hx
     have HX32 := zHd (HRB.out x (List.mem_of_getElem? hx))
     have c0 := HRR.out.cells (g := rb) rfl i (.int .i64 (x : Int)) (by rw [iv, List.getElem?_map, hx]; rfl)
     rw [addr_add, Nat.zero_add] at c0
     clear hlt hx hi
     have HTL : Hid (T.length ≤ 200000000) := by
      have h1 := HLB.out.2
      have h2 := HRL.out.2
      have h3 := HLT.out
      rw [HT.out, List.length_append, flat4_len, List.length_take]
      unfold Hid; omega
     go_wp2_with (at_builtin; refine wpList_addrow rfl (.tmp 36) (.tmp 48) rfl w.heap.size _ T rfl (HB.out.below (ext_alloc _ _)) _ _ _ (be4 x) rfl (bs_be4 wr x) (by rw [be4_length]; omega) (by have := HTL.out; rw [be4_length]; omega) (zNt HX.out.size (ext_alloc _ _).size) ?_)
     intro A6 c6 w6 ho6 hg6
     have hb1 := HB.out.below (ext_alloc wr (.cells #[.int .u8 ((x : Int) / 16777216 % 256), .int .u8 ((x : Int) / 65536 % 256), .int .u8 ((x : Int) / 256 % 256), .int .u8 ((x : Int) % 256)] 5))
     have hr1 := HRR.out.wall fun g hg => (ext_alloc wr (.cells #[.int .u8 ((x : Int) / 16777216 % 256), .int .u8 ((x : Int) / 65536 % 256), .int .u8 ((x : Int) / 256 % 256), .int .u8 ((x : Int) % 256)] 5)).block g (row_lt HRR.out g hg).2
     have HR6 : Hid (OwnI w.heap.size R (.slice (some ⟨rb, 0, none⟩) R.length c5) w6) := hr1.wall fun g hg => hg6.block g (row_lt hr1 g hg).2 (fun e => rows_apart hr1 hb1 (by decide) hg e.symm)
     have HX6 : Hid (Ext w w6) := (zEt HX.out (ext_alloc wr (.cells #[.int .u8 ((x : Int) / 16777216 % 256), .int .u8 ((x : Int) / 65536 % 256), .int .u8 ((x : Int) / 256 % 256), .int .u8 ((x : Int) % 256)] 5))).grown hg6 (zEt HX.out (ext_alloc _ _)).size (fun k hk => (row_lt hb1 k hk).1)
     have hT2 : T ++ be4 x = upto Ls Ls.length ++ (R.take (i + 1)).flatMap be4 := by
      rw [HT.out, List.take_succ_eq_append_getElem HLT.out, List.flatMap_append, List.append_assoc]
      have e : R[i]'HLT.out = x := by have h1 := HXI.out; rw [List.getElem?_eq_getElem HLT.out] at h1; injection h1
      rw [e]; simp
     rw [hT2] at ho6
     have hln : T.length + (be4 x).length = (upto Ls Ls.length ++ (R.take (i + 1)).flatMap be4).length := by rw [← hT2, List.length_append]
     rw [hln] at ho6 ⊢
     clear hln
     have HO6 := zHd ho6
     clear hb1 hr1 hT2 ho6 hg6 c0
     go_wp2_with fail
     go_roundw
     case rel => exact ⟨i + 1, A6, c6, HLT.out, by rw [wrap_succ (by have := HLT.out; have := HRL.out; omega)], rfl, HO6, HX6, HR6⟩
     case measure =>
      rw [wrap_succ (by have := HLT.out; have := HRL.out; omega)]
      have := HLT.out
      simp [intOf]; omega
   · have hir : i = R.length := by omega
     have d : decide ((i : Int) < (R.length : Int)) = false := by rw [decide_eq_false_iff_not]; exact fun h => hlt (Int.ofNat_lt.1 h)
     have dn : decide (i < R.length) = false := by rw [decide_eq_false_iff_not]; exact hlt
     have hTW : T = _root_.Go.Proofs.YtkdidghfcfcpfaaGreat.wr Ls := by rw [HT.out, HWR.out, hir, List.take_length]
     rw [hTW] at HB ⊢
     clear hlt hi hTW hir
     go_wp2_with fail
     go_ret2
     have h := HLSE.out
     subst h
     exact ⟨HX.out, .inl ⟨HMAY.out, BA, bc, rfl, HB.out⟩⟩
theorem bsize_any {w : World} {lo hi c : Nat} {A : Option Addr} {L : List (Ent × Hd)} (h : Es w lo hi A L) (hhi : hi ≤ w.heap.size) (hlc : L.length ≤ c) (hlen : L.length ≤ 1000000000000) :
    Calls Tryz.prog 142 #[.slice A L.length c] w fun x w' => Ext w w' ∧ ((MayB (L.map Prod.fst) → x = .returned (.int .i64 ((wr (L.map Prod.fst)).length : Int))) ∧ (¬ MayB (L.map Prod.fst) → x = .returned (.int .i64 0))) := by
 have HW := zHd (write_any h hhi hlc hlen)
 obtain ⟨Ls, hLs⟩ : ∃ Ls, Ls = L.map Prod.fst := ⟨_, rfl⟩
 rw [← hLs] at HW ⊢
 clear h hhi hlc hlen hLs
 go_enter Tryz.func142, Tryz.ntmps142
 go_wp2_with fail
 refine HW.out.mono ?_
 rintro x w2 ⟨hx, (⟨hm, B, cb, rfl, _⟩ | ⟨hm, rfl⟩)⟩
 · have HX := zHd hx
   have HM := zHd hm
   clear hx hm
   go_wp2_with fail
   refine bodyPost_ret (results_tmp rfl _ _ _) rfl ?_
   exact ⟨HX.out, fun _ => rfl, fun h => absurd HM.out h⟩
 · have HX := zHd hx
   have HM := zHd hm
   clear hx hm
   go_wp2_with fail
   refine bodyPost_ret (results_tmp rfl _ _ _) rfl ?_
   exact ⟨HX.out, fun h => absurd h HM.out, fun _ => rfl⟩
end Go.Proofs.YtkdidghfcfcpfaaGreat
namespace Go.Proofs.YtkdidghfcfcpfaaGreat
open Go.ChangeShapes Go.WideShapes Go.ChangeAt Go.RowKit Go.Joins
theorem reach_is : reachBytes = 140737488351232 := by decide
section
variable {H : Type} {enc : TypeId × Value → H} {W : World}
set_option maxRecDepth 100000 in
theorem cell_bytes {fuel : Nat} {cs : List Value} {y : DataW H × List MemPlace} (h : DataW.trod enc Tryz.prog W 0 (fun _ => true) true fuel 22 cs = some y) :
    ∃ (A : Option Addr) (c : Nat) (l : List Nat), cs = [.slice A l.length c] ∧ (∀ b ∈ l, b < 256) ∧ Bs W 0 W.heap.size (.slice A l.length c) l ∧ ((∀ n ∈ y.1.weights Tryz.prog 22, n ≤ reachBytes) → l.length ≤ reachBytes) := by
 rcases open_ints Tryz.underlying22 Tryz.underlying5 (by kernel_rfl) h with ⟨hcs, _⟩ | ⟨x, l, c, zs, hcs, _, hl', hm', hz, hdx, hcell, hwz⟩
 · exact ⟨none, 0, [], hcs, by simp, Bs.nil _ _ _, fun _ => by simp⟩
 · obtain ⟨l', q1, q2, q3⟩ := bs_cells hl' hm' (by simpa using hz) hcell hwz
   refine ⟨some x, c, l', by rw [q1]; exact hcs, q2, by rw [q1]; exact q3, fun hw => ?_⟩
   have hb1 : Tryz.prog.bytesOf 5 = 1 := by kernel_rfl
   have h4 := hw (((zs.take l).length + (zs.drop l).length) * Tryz.prog.bytesOf 5) (by rw [hdx]; simp [DataW.weights, Tryz.underlying22, lits])
   rw [hb1, List.length_take, List.length_drop] at h4
   simp at hz
   omega
set_option maxRecDepth 100000 in
theorem cells_entry {fuel : Nat} {cs : List Value} {y : DataW H × List MemPlace} (h : DataW.trod enc Tryz.prog W 0 (fun _ => true) true fuel 50 cs = some y) :
    ∃ (e : Ent) (g : Hd), cs = ecells (e, g) ∧ Em W 0 W.heap.size e g ∧ ((∀ n ∈ y.1.weights Tryz.prog 50, n ≤ reachBytes) → e.key.length ≤ reachBytes ∧ e.val.length ≤ reachBytes) := by
 obtain ⟨y0, y1, y2, y3, n, hx, hl, h0, h1, h2, h3⟩ := trod_struct4 Tryz.underlying50 h
 have hC : Tryz.prog.cellsOf 50 = 4 := by kernel_rfl
 have hC0 : Tryz.prog.cellsOf 22 = 1 := by kernel_rfl
 have hC1 : Tryz.prog.cellsOf 2 = 1 := by kernel_rfl
 have hC2 : Tryz.prog.cellsOf 48 = 1 := by kernel_rfl
 rw [hC] at hl
 obtain ⟨a, b, c, d, rfl⟩ : ∃ a b c d, cs = [a, b, c, d] := by
  match cs, hl with
  | [a, b, c, d], _ => exact ⟨a, b, c, d, rfl⟩
 simp only [hC0, hC1, hC2, List.drop_zero, List.take_succ_cons, List.take_zero, List.drop_succ_cons] at h0 h1 h2 h3
 obtain ⟨A, c0, k, e0, bk, hk, wk⟩ := cell_bytes h0
 obtain ⟨s, e1, _, ws⟩ := DataW.trod_int Tryz.underlying2 h1
 obtain ⟨t, e2, _, wt⟩ := DataW.trod_int Tryz.underlying48 h2
 obtain ⟨A3, c3, v, e3, bv', hv, wv⟩ := cell_bytes h3
 injection e0 with e0
 injection e1 with e1
 injection e2 with e2
 injection e3 with e3
 subst e0 e1 e2 e3
 have hws := i64_wf ws
 have hwt := i64_wf wt
 refine ⟨⟨k, s, t, v⟩, ⟨A, c0, A3, c3⟩, rfl, ⟨hk, hv, bk, bv', hws.1, hws.2, hwt.1, hwt.2⟩, fun hw => ?_⟩
 have hwe : ∀ n ∈ DataW.weightsEach Tryz.prog [22, 2, 48, 22] [y0.1, y1.1, y2.1, y3.1], n ≤ reachBytes := fun n hn => hw n (by
  rw [hx]
  simp only [DataW.weights, Tryz.underlying50]
  exact hn)
 exact ⟨wk fun n hn => hwe n (DataW.weights_mem_each (j := 0) rfl rfl n hn), wv fun n hn => hwe n (DataW.weights_mem_each (j := 3) rfl rfl n hn)⟩
theorem weightsAll_at {P : Program} {e : TypeId} : ∀ {l : List (DataW H)} {d : DataW H}, d ∈ l → ∀ n ∈ d.weights P e, n ∈ DataW.weightsAll P e l
 | d' :: r, d, hd, n, hn => by
  simp only [DataW.weightsAll, List.mem_append]
  rcases List.mem_cons.1 hd with rfl | h
  · exact Or.inl hn
  · exact Or.inr (weightsAll_at h n hn)
set_option maxRecDepth 100000 in
theorem open_entries {v : Value} {d : DataW H} {p : List MemPlace} {b0 : Nat} (hv : Value.okWide Tryz.prog W .any b0 28 v) (h : DataW.Trod enc Tryz.prog W 0 (fun _ => true) true 28 v d p)
    {ts : List TypeId} {ds : List (DataW H)} (hsz : (DataW.weightsEach Tryz.prog ts ds).all (· ≤ reachBytes) = true) {jj : Nat} (hts : ts[jj]? = some 28) (hds : ds[jj]? = some d) :
    ∃ (A : Option Addr) (c : Nat) (L : List (Ent × Hd)), v = .slice A L.length c ∧ L.length ≤ c ∧ c ≤ maxLen ∧ Es W 0 W.heap.size A L ∧ (∀ p ∈ L, p.1.key.length ≤ 140737488351232 ∧ p.1.val.length ≤ 140737488351232) ∧ L.length ≤ 2199023255552 := by
 obtain ⟨a0, len0, cap0, rfl⟩ := okWide_slice Tryz.underlying28 hv
 obtain ⟨fuel, hf⟩ := h
 have hC : Tryz.prog.cellsOf 50 = 4 := by kernel_rfl
 rcases Go.Deep.open_slice Tryz.underlying28 hf with ⟨hcs, _⟩ | ⟨a, len, cap, m, n, D, Pl, hcs, _, hl, hm, hmm, hdd, hx⟩
 · simp [Value.cells] at hcs
   obtain ⟨rfl, rfl, rfl⟩ := hcs
   exact ⟨none, 0, [], rfl, by simp, by simp [maxLen], ⟨Sl.nil _ _ _ _, by simp⟩, by simp, by simp⟩
 · simp [Value.cells] at hcs
   obtain ⟨rfl, rfl, rfl⟩ := hcs
   have hmc : m = cap0 := by rw [hmm]; simp
   have hdd1 : d = .slice ((List.range len0).map D) ((List.range (m - len0)).map fun j => D (len0 + j)) := congrArg Prod.fst hdd
   have hwt : ∀ i, i < len0 → ∀ n ∈ (D i).weights Tryz.prog 50, n ≤ reachBytes := fun i hi n hn => by
    refine of_decide_eq_true (List.all_eq_true.1 hsz _ (DataW.weights_mem_each hts hds n ?_))
    rw [hdd1]
    simp only [DataW.weights, Tryz.underlying28, List.mem_cons, List.mem_append]
    exact Or.inr (Or.inl (weightsAll_at (List.mem_map.2 ⟨i, List.mem_range.2 hi, rfl⟩) n hn))
   have hlen : len0 ≤ 2199023255552 := by
    have h3 := sized_slice hsz hts (by rw [hds, hdd1]) Tryz.underlying28
    have hb1 : Tryz.prog.bytesOf 50 = 64 := by kernel_rfl
    rw [hb1, reach_is] at h3
    simp at h3
    omega
   have each : ∀ i : Nat, ∃ t : Ent × Hd, i < len0 → (∀ j v, j < 4 → (ecells t)[j]? = some v → W.cell? ((a.add (i * 4)).add j) = some v) ∧ Em W 0 W.heap.size t.1 t.2 ∧ t.1.key.length ≤ 140737488351232 ∧ t.1.val.length ≤ 140737488351232 := by
    intro i
    by_cases hi : i < len0
    · obtain ⟨cs', hc', ht'⟩ := hx i (by omega)
      rw [hC] at hc'
      obtain ⟨_, hcl, hat⟩ := World.cells?_some hc'
      obtain ⟨e, g, hcc, hem, hw⟩ := cells_entry ht'
      have hw2 := hw (hwt i hi)
      rw [reach_is] at hw2
      exact ⟨(e, g), fun _ => ⟨fun j v hj hv => by rw [hat j hj, hcc]; exact hv, hem, hw2⟩⟩
    · exact ⟨(⟨[], 0, 0, []⟩, ⟨none, 0, none, 0⟩), fun h => absurd h hi⟩
   obtain ⟨F, hF⟩ := Classical.axiomOfChoice each
   have hat : ∀ i u, (erow ((List.range len0).map F))[i]? = some u → W.cell? (a.add i) = some u := by
    intro i u hu
    have hi : i < len0 * 4 := by
     have := (zLg.1 hu).1
     rw [erow_length] at this
     simpa using this
    have hi4 : i / 4 < len0 := by omega
    have e1 : i = i / 4 * 4 + i % 4 := by omega
    rw [e1, erow_at _ (by simpa using hi4) (by omega)] at hu
    have h1 := (hF (i / 4) hi4).1 (i % 4) u (by omega) (by simpa using hu)
    have e2 : (a.add (i / 4 * 4)).add (i % 4) = a.add i := by
     obtain ⟨b, o, s⟩ := a
     have hc0 := (hF 0 (by omega)).1 0 _ (by omega) rfl
     have hs : s = none := by
      have := World.cell?_spot hc0
      simpa [Addr.add] using this
     subst hs
     rw [addr_add, addr_add, addr_add]
     congr 1; omega
    rw [← e2]; exact h1
   refine ⟨some a, cap0, (List.range len0).map F, by simp, by simpa using hl, hm, ⟨?_, ?_⟩, ?_, by simpa using hlen⟩
   · by_cases h0 : len0 = 0
     · exact .inl (by simp [h0, erow])
     · obtain ⟨b, o, spot⟩ := a
       have hc0 := (hF 0 (by omega)).1 0 _ (by omega) rfl
       have hspot : spot = none := by
        have := World.cell?_spot hc0
        simpa [Addr.add] using this
       subst hspot
       have hblt : b < W.heap.size := by
        have := World.block_lt_of_cell? W _ hc0
        rw [addr_add, addr_add] at this
        exact this
       exact .inr ⟨b, o, rfl, Nat.zero_le _, hblt, fun i u hu => by have := hat i u hu; rwa [addr_add] at this⟩
   · intro q hq
     simp only [List.mem_map, List.mem_range] at hq
     obtain ⟨i, hi, rfl⟩ := hq
     exact (hF i hi).2.1
   · intro q hq
     simp only [List.mem_map, List.mem_range] at hq
     obtain ⟨i, hi, rfl⟩ := hq
     exact (hF i hi).2.2
end
end Go.Proofs.YtkdidghfcfcpfaaGreat
namespace Go.Proofs.YtkdidghfcfcpfaaGreat
open Go.ChangeShapes Go.WideShapes Go.ChangeAt Go.RowKit
theorem Got.rs {B : Nat} {A : Option Addr} {c : Nat} {R : List (Ent × Hd)} {w : World} (h : Got B (.slice A R.length c) R w) : Es w 0 w.heap.size A R := by
 refine ⟨?_, fun p hp => (h.each p hp).em⟩
 rcases h.row.2 with ⟨h1, h2⟩ | ⟨g, cap, cur, hv, hg, hh, r⟩
 · injection h1 with e1 e2 _
   have : R = [] := List.eq_nil_of_length_eq_zero e2
   subst this; exact Sl.nil _ _ _ _
 · injection hv with e1 _ _
   subst e1
   refine .inr ⟨g, 0, rfl, Nat.zero_le _, (zAg.1 hh).1, fun i u hu => ?_⟩
   have := h.row.cells (g := g) rfl i u hu
   rwa [addr_add] at this
theorem Got.capd {B : Nat} {A : Option Addr} {c : Nat} {R : List (Ent × Hd)} {w : World} (h : Got B (.slice A R.length c) R w) : R.length ≤ c ∧ (A = none → c = 0) := by
 rcases h.row.2 with ⟨he, hx⟩ | ⟨g, cap, cur, hv, _, hh, _, hcs⟩
 · injection he with e1 e2 e3; subst e1 e3; exact ⟨by omega, fun _ => rfl⟩
 · injection hv with e1 e2 e3; subst e1 e3; exact ⟨by omega, fun e => by cases e⟩
theorem eslice_from (A : Option Addr) (n c k : Nat) (hkn : k ≤ n) (_hc : n ≤ c) (w : World) :
    (Instr.slice 28 (.slice A n c) (some (.int .i64 (k : Int))) none none).run Tryz.prog w = .ok (.slice (if c = k then A else A.map (·.add (k * 4))) (n - k) (c - k)) w := by
 have he : Tryz.prog.underlying 28 = some (.slice (Tryz.prog.elem 28)) := by kernel_rfl
 rw [run_slice_l w 28 A n c he .i64 (k : Int) (by omega) (by omega), esize w]
 simp [Result.andThen, sliced]
def Blk (v : Value) (R : List (Ent × Hd)) (b : Nat) : Prop := v.ownBlock = some b ∨ ∃ p ∈ R, (Value.slice p.2.kA p.1.key.length p.2.kc).ownBlock = some b ∨ (Value.slice p.2.vA p.1.val.length p.2.vc).ownBlock = some b
theorem Got.blk {B : Nat} {v : Value} {R : List (Ent × Hd)} {w : World} (h : Got B v R w) {b : Nat} (hb : Blk v R b) : B ≤ b ∧ b < w.heap.size := by
 rcases hb with hb | ⟨p, hp, hb | hb⟩
 · exact ⟨(rowN_lt h.row b hb).1, (rowN_lt h.row b hb).2.1⟩
 · exact row_lt (h.each p hp).k b hb
 · exact row_lt (h.each p hp).v b hb
theorem Got.keepS {B : Nat} {v : Value} {R : List (Ent × Hd)} {w w' : World} {S : Nat → Prop} (h : Got B v R w) (hc : Chg S w w') (hS : ∀ b, Blk v R b → ¬ S b) : Got B v R w' :=
 ⟨rowN_kept h.row fun g hg => hc.block g (rowN_lt h.row g hg).2.1 (hS g (.inl hg)), fun p hp => ⟨row_kept (h.each p hp).k fun g hg => hc.block g (row_lt (h.each p hp).k g hg).2 (hS g (.inr ⟨p, hp, .inl hg⟩)),
  row_kept (h.each p hp).v fun g hg => hc.block g (row_lt (h.each p hp).v g hg).2 (hS g (.inr ⟨p, hp, .inr hg⟩)), (h.each p hp).good⟩⟩
def Fit (L : List Ent) (n : Nat) : Prop := 1 ≤ n ∧ n ≤ L.length ∧ Piece (L.take n) ∧ ∀ e, L[n]? = some e → Link (L.take n) e
theorem piece_drop (L : List Ent) (k i : Nat) : pieceOf (L.drop (4 * k)) i = pieceOf L (4 * k + i) := by
 unfold pieceOf
 rw [List.getElem?_drop]
 have h : ahOf (L.drop (4 * k)) i = ahOf L (4 * k + i) := by
  unfold ahOf
  by_cases hi : i % 4 = 0
  · rw [if_pos hi, if_pos (by omega)]
  · rw [if_neg hi, if_neg (by omega), List.getElem?_drop, show 4 * k + (i - 1) = 4 * k + i - 1 by omega]
 rw [h]
theorem upto_drop (L : List Ent) (k : Nat) : ∀ j, upto L (4 * k + j) = upto L (4 * k) ++ upto (L.drop (4 * k)) j
 | 0 => by rw [upto_zero, List.append_nil]; rfl
 | j + 1 => by rw [show 4 * k + (j + 1) = 4 * k + j + 1 by omega, upto_succ, upto_drop L k j, upto_succ, piece_drop, List.append_assoc]
theorem piece_take {L : List Ent} {n i : Nat} (h : i < n) : pieceOf (L.take n) i = pieceOf L i := by
 unfold pieceOf
 rw [List.getElem?_take, if_pos h]
 have h2 : ahOf (L.take n) i = ahOf L i := by
  unfold ahOf
  split
  · rfl
  · rw [List.getElem?_take, if_pos (by omega)]
 rw [h2]
theorem upto_take (L : List Ent) (n : Nat) : ∀ j, j ≤ n → upto (L.take n) j = upto L j
 | 0, _ => rfl
 | j + 1, h => by rw [upto_succ, upto_succ, upto_take L n j (by omega), piece_take (by omega)]
theorem wr_take_len {L : List Ent} {n : Nat} (h : n ≤ L.length) : (wr (L.take n)).length = (upto L n).length + 4 * ((n + 3) / 4) + 4 := by
 have hl : (L.take n).length = n := by rw [List.length_take]; omega
 rw [wr_len, hl, upto_take L n n (zNr _), ats_len]
theorem wr_part {L : List Ent} {n : Nat} (h : n < L.length) : (wr (L.take (n + 1))).length = (upto L (4 * (n / 4))).length + 4 * (n / 4) + (wr ((L.take (n + 1)).drop (4 * (n / 4)))).length := by
 have hp : (L.take (n + 1)).drop (4 * (n / 4)) = (L.drop (4 * (n / 4))).take (n + 1 - 4 * (n / 4)) := List.drop_take
 rw [hp, wr_take_len (by omega), wr_take_len (by rw [List.length_drop]; omega)]
 have h1 := congrArg List.length (upto_drop L (n / 4) (n + 1 - 4 * (n / 4)))
 rw [List.length_append, show 4 * (n / 4) + (n + 1 - 4 * (n / 4)) = n + 1 by omega] at h1
 omega
theorem part_may {L : List Ent} {n : Nat} (hr : Rise L) (hm : ∀ e ∈ L, e.may = true) (h : n < L.length) : MayB ((L.take (n + 1)).drop (4 * (n / 4))) := by
 refine ⟨by simp only [List.length_drop, List.length_take]; omega, by simp only [List.length_drop, List.length_take]; omega, ?_, fun e he => hm e (List.mem_of_mem_take (List.mem_of_mem_drop he))⟩
 refine rise_part (A := L.take (4 * (n / 4))) (D := L.drop (n + 1)) hr ?_
 have e1 : (L.take (n + 1)).take (4 * (n / 4)) = L.take (4 * (n / 4)) := by rw [List.take_take]; congr 1; omega
 rw [← e1, ← List.append_assoc, List.take_append_drop, List.take_append_drop]
def wholeN (L : List Ent) (n : Nat) : Nat := (upto L (4 * (n / 4))).length + 4 * (n / 4)
theorem wholeN_part {L : List Ent} {n : Nat} (h : n < L.length) : (wr (L.take (n + 1))).length = wholeN L n + (wr ((L.take (n + 1)).drop (n / 4 * 4))).length := by
 rw [Nat.mul_comm (n / 4) 4]
 exact wr_part h
theorem wholeN_next {L : List Ent} {n : Nat} (h : n < L.length) (h3 : n % 4 = 3) : (wr (L.take (n + 1))).length = wholeN L (n + 1) + 4 := by
 rw [wr_take_len (by omega)]
 unfold wholeN
 rw [show 4 * ((n + 1) / 4) = n + 1 by omega]
 omega
theorem wholeN_stay {L : List Ent} {n : Nat} (h3 : n % 4 ≠ 3) : wholeN L (n + 1) = wholeN L n := by
 unfold wholeN
 rw [show (n + 1) / 4 = n / 4 by omega]
theorem wr_few {L : List Ent} {n : Nat} (hm : ∀ e ∈ L, e.may = true) (h : n ≤ L.length) (hl : L.length ≤ 4096) : (wr (L.take n)).length ≤ 300000000 := by
 rw [wr_take_len h]
 have := upto_le hm n
 omega
set_option maxRecDepth 100000 in
set_option maxHeartbeats 4000000 in
theorem fit_any {w : World} {lo hi c : Nat} {A : Option Addr} {L : List (Ent × Hd)} (h : Es w lo hi A L) (hhi : hi ≤ w.heap.size) (hlc : L.length ≤ c) (hlen : L.length ≤ 4096) (h1 : 1 ≤ L.length) (hr : Rise (L.map Prod.fst)) (hm : ∀ e ∈ L.map Prod.fst, e.may = true) :
    Calls Tryz.prog 121 #[.slice A L.length c] w fun x w' => ∃ n : Nat, x = .returned (.int .i64 (n : Int)) ∧ Fit (L.map Prod.fst) n ∧ Ext w w' := by
 have HE := zHd h
 have HHI := zHd hhi
 have HLC := zHd hlc
 obtain ⟨Ls, hLs⟩ : ∃ Ls, Ls = L.map Prod.fst := ⟨_, rfl⟩
 have HLS := zHd hLs
 have HN : Hid (Ls.length = L.length) := by rw [hLs]; simp [Hid]
 rw [← hLs] at hr hm ⊢
 have HR := zHd hr
 have HM := zHd hm
 have HL := zHd hlen
 have H1 := zHd h1
 have hlI : (L.length : Int) ≤ 4096 := by omega
 clear h hhi hlc hLs hr hm hlen h1
 go_enter Tryz.func121, Tryz.ntmps121
 go_wp2_with fail
 go_loopw [3, 4, 5, 6, 9] (fun whole _ _ _ i wr => ∃ k : Nat, k ≤ L.length ∧ i = .int .i64 (k : Int) ∧ whole = .int .i64 (wholeN Ls k : Int) ∧ Hid (∀ m, 1 ≤ m → m < k → (_root_.Go.Proofs.YtkdidghfcfcpfaaGreat.wr (Ls.take (m + 1))).length ≤ 512) ∧ Hid (Ext w wr)) (fun _ _ _ _ i _ => L.length - (intOf i).toNat)
 case atStart => exact ⟨0, Nat.zero_le _, rfl, rfl, fun m h1 h2 => absurd h2 (by omega), Ext.refl _⟩
 case round =>
  obtain ⟨k, hk, rfl, rfl, HP, HX⟩ := hrel
  by_cases hlt : k < L.length
  rotate_left
  · have d : decide ((k : Int) < (L.length : Int)) = false := decide_eq_false (by omega)
    have dn : decide (k < L.length) = false := decide_eq_false hlt
    have hkl : k = L.length := by omega
    have HF : Hid (Fit Ls L.length) := by
     have hT : Ls.take L.length = Ls := List.take_of_length_le (by rw [HN.out]; exact zNr _)
     refine ⟨H1.out, by rw [HN.out]; exact zNr _, ⟨fun e => ?_, fun m m1 m2 => ?_⟩, fun e he => ?_⟩
     · have h5 := congrArg List.length e
       rw [hT, HN.out] at h5
       have := H1.out
       have h6 : L.length = 0 := h5
       omega
     · rw [hT] at m2 ⊢
       rw [HN.out] at m2
       exact HP.out m m1 (by omega)
     · rw [List.getElem?_eq_none (by rw [HN.out]; exact zNr _)] at he; cases he
    clear hlt hk hkl
    go_wp2_with fail
    go_ret
    exact ⟨L.length, rfl, HF.out, HX.out⟩
  have d : decide ((k : Int) < (L.length : Int)) = true := decide_eq_true (by omega)
  have dn : decide (k < L.length) = true := decide_eq_true hlt
  have HLT := zHd hlt
  have kI : (k : Int) ≤ 4095 := by omega
  have k0 : (0 : Int) ≤ (k : Int) := by omega
  have hkc : (k : Int) + 1 ≤ (c : Int) := by have := HLC.out; omega
  have hkcN : k + 1 ≤ c := by have := HLC.out; omega
  have hne : ¬ c = k / 4 * 4 := by omega
  obtain ⟨S, hS⟩ : ∃ S, S = (_root_.Go.Proofs.YtkdidghfcfcpfaaGreat.wr ((Ls.take (k + 1)).drop (k / 4 * 4))).length := ⟨_, rfl⟩
  have HT : Hid ((_root_.Go.Proofs.YtkdidghfcfcpfaaGreat.wr (Ls.take (k + 1))).length = wholeN Ls k + S) := by rw [hS]; exact wholeN_part (by rw [HN.out]; exact hlt)
  have hT3 : wholeN Ls k + S ≤ 300000000 := by rw [← HT.out]; exact wr_few HM.out (by rw [HN.out]; omega) (by rw [HN.out]; exact HL.out)
  have HSZ : Hid (Calls Tryz.prog 142 #[.slice (Option.map (fun x => x.add (k / 4 * 4 * 4)) A) (k + 1 - k / 4 * 4) (c - k / 4 * 4)] wr fun x w' => Ext wr w' ∧ x = .returned (.int .i64 (S : Int))) := by
   have hE := (HE.out.below HX.out HHI.out).take (k := k + 1) (by omega)
   have hE2 := hE.drop (k := k / 4 * 4) (c := c) (by rw [List.length_take]; omega) (by rw [List.length_take]; omega)
   rw [if_neg hne] at hE2
   have hb := bsize_any (c := c - k / 4 * 4) hE2 (zNt HHI.out HX.out.size) (by rw [List.length_drop, List.length_take]; omega) (by rw [List.length_drop, List.length_take]; have := HL.out; omega)
   have e1 : ((L.take (k + 1)).drop (k / 4 * 4)).length = k + 1 - k / 4 * 4 := by rw [List.length_drop, List.length_take]; omega
   have e2 : ((L.take (k + 1)).drop (k / 4 * 4)).map Prod.fst = (Ls.take (k + 1)).drop (k / 4 * 4) := by rw [List.map_drop, List.map_take, HLS.out]
   rw [e1, e2, ← hS] at hb
   refine hb.mono fun x w' hx => ⟨hx.1, hx.2.1 ?_⟩
   rw [Nat.mul_comm (k / 4) 4]
   exact part_may HR.out HM.out (by rw [HN.out]; exact hlt)
  have hA : (wholeN Ls k : Int) ≤ 300000000 := by omega
  have hSI : (S : Int) ≤ 300000000 := by omega
  obtain ⟨a, ha⟩ : ∃ a, a = wholeN Ls k := ⟨_, rfl⟩
  rw [← ha] at hA hT3 HT ⊢
  have HA := zHd ha
  have HT3 := zHd hT3
  clear hlt hk hS ha hT3
  go_wp2_with fail
  refine HSZ.out.mono ?_
  rintro x w2 ⟨hx2, rfl⟩
  have HX2 : Hid (Ext w w2) := zEt HX.out hx2
  clear hx2 HSZ
  by_cases hk0 : k = 0
  · have HPN : Hid (∀ m, 1 ≤ m → m < k + 1 → (_root_.Go.Proofs.YtkdidghfcfcpfaaGreat.wr (Ls.take (m + 1))).length ≤ 512) := fun m m1 m2 => absurd m2 (by omega)
    have e0 : decide ((0 : Int) < (k : Int)) = false := decide_eq_false (by omega)
    have e0n : decide (0 < k) = false := decide_eq_false (by omega)
    clear hk0
    by_cases h4 : k % 4 = 3
    · have e4 : (((k + 1 - k / 4 * 4 : Nat) : Int) == 4) = true := by rw [beq_iff_eq]; omega
      have e4n : (k + 1 - k / 4 * 4 == 4) = true := by rw [beq_iff_eq]; omega
      have HW : Hid (a + S = wholeN Ls (k + 1) + 4) := by rw [← HT.out]; exact wholeN_next (by rw [HN.out]; exact HLT.out) h4
      clear h4
      go_wp2_with fail
      go_roundw
      case rel => exact ⟨k + 1, HLT.out, by go_num, by have := HW.out; congr 1; omega, HPN, HX2⟩
      case measure => have := HLT.out; simp [intOf]; omega
    · have e4 : (((k + 1 - k / 4 * 4 : Nat) : Int) == 4) = false := by rw [beq_eq_false_iff_ne]; omega
      have e4n : (k + 1 - k / 4 * 4 == 4) = false := by rw [beq_eq_false_iff_ne]; omega
      have HW : Hid (a = wholeN Ls (k + 1)) := by rw [HA.out]; exact (wholeN_stay h4).symm
      clear h4
      go_wp2_with fail
      go_roundw
      case rel => exact ⟨k + 1, HLT.out, by go_num, by rw [← HW.out], HPN, HX2⟩
      case measure => have := HLT.out; simp [intOf]; omega
  have e0 : decide ((0 : Int) < (k : Int)) = true := decide_eq_true (by omega)
  have e0n : decide (0 < k) = true := decide_eq_true (by omega)
  by_cases hbig : 512 < a + S
  · have e1 : decide ((512 : Int) < (a : Int) + (S : Int)) = true := decide_eq_true (by omega)
    have e1n : decide (512 < a + S) = true := decide_eq_true hbig
    have HF : Hid (Fit Ls k) := by
     have hle : k ≤ Ls.length := by rw [HN.out]; have := HLT.out; omega
     have hl : (Ls.take k).length = k := by rw [List.length_take]; omega
     refine ⟨by omega, hle, ⟨fun e => ?_, fun m m1 m2 => ?_⟩, fun e he => ?_⟩
     · rw [e] at hl; simp at hl; omega
     · rw [hl] at m2
       rw [List.take_take, Nat.min_eq_left (by omega)]
       exact HP.out m m1 (by omega)
     · unfold Link
       obtain ⟨h9, rfl⟩ := zLg.1 he
       rw [← List.take_succ_eq_append_getElem h9, HT.out]
       exact hbig
    clear hbig hk0
    go_wp2_with fail
    go_ret
    exact ⟨k, rfl, HF.out, HX2.out⟩
  · have e1 : decide ((512 : Int) < (a : Int) + (S : Int)) = false := decide_eq_false (by omega)
    have e1n : decide (512 < a + S) = false := decide_eq_false hbig
    have HPN : Hid (∀ m, 1 ≤ m → m < k + 1 → (_root_.Go.Proofs.YtkdidghfcfcpfaaGreat.wr (Ls.take (m + 1))).length ≤ 512) := fun m m1 m2 => by
     by_cases h5 : m < k
     · exact HP.out m m1 h5
     · rw [show m = k by omega, HT.out]; omega
    clear hbig hk0
    by_cases h4 : k % 4 = 3
    · have e4 : (((k + 1 - k / 4 * 4 : Nat) : Int) == 4) = true := by rw [beq_iff_eq]; omega
      have e4n : (k + 1 - k / 4 * 4 == 4) = true := by rw [beq_iff_eq]; omega
      have HW : Hid (a + S = wholeN Ls (k + 1) + 4) := by rw [← HT.out]; exact wholeN_next (by rw [HN.out]; exact HLT.out) h4
      clear h4
      go_wp2_with fail
      go_roundw
      case rel => exact ⟨k + 1, HLT.out, by go_num, by have := HW.out; congr 1; omega, HPN, HX2⟩
      case measure => have := HLT.out; simp [intOf]; omega
    · have e4 : (((k + 1 - k / 4 * 4 : Nat) : Int) == 4) = false := by rw [beq_eq_false_iff_ne]; omega
      have e4n : (k + 1 - k / 4 * 4 == 4) = false := by rw [beq_eq_false_iff_ne]; omega
      have HW : Hid (a = wholeN Ls (k + 1)) := by rw [HA.out]; exact (wholeN_stay h4).symm
      clear h4
      go_wp2_with fail
      go_roundw
      case rel => exact ⟨k + 1, HLT.out, by go_num, by rw [← HW.out], HPN, HX2⟩
      case measure => have := HLT.out; simp [intOf]; omega
theorem fit_exists {L : List Ent} (h : 1 ≤ L.length) : ∃ n, Fit L n := by
 have up : ∀ d n, n + d = L.length → 1 ≤ n → (∀ m, 1 ≤ m → m < n → (wr (L.take (m + 1))).length ≤ 512) → ∃ n, Fit L n := by
  intro d
  induction d with
  | zero =>
   intro n hn h1 hp
   refine ⟨n, h1, by omega, ⟨fun e => ?_, fun m m1 m2 => ?_⟩, fun e he => ?_⟩
   · have h6 : (L.take n).length = 0 := by rw [e]; rfl
     rw [List.length_take] at h6
     omega
   · rw [List.length_take] at m2
     rw [List.take_take, Nat.min_eq_left (by omega)]
     exact hp m m1 (by omega)
   · rw [List.getElem?_eq_none (by omega)] at he; cases he
  | succ d ih =>
   intro n hn h1 hp
   by_cases hb : (wr (L.take (n + 1))).length ≤ 512
   · exact ih (n + 1) (by omega) (by omega) fun m m1 m2 => by
       by_cases h5 : m < n
       · exact hp m m1 h5
       · rw [show m = n by omega]; exact hb
   · refine ⟨n, h1, by omega, ⟨fun e => ?_, fun m m1 m2 => ?_⟩, fun e he => ?_⟩
     · have h6 : (L.take n).length = 0 := by rw [e]; rfl
       rw [List.length_take] at h6
       omega
     · rw [List.length_take] at m2
       rw [List.take_take, Nat.min_eq_left (by omega)]
       exact hp m m1 (by omega)
     · obtain ⟨h9, rfl⟩ := zLg.1 he
       unfold Link
       rw [← List.take_succ_eq_append_getElem h9]
       omega
 exact up (L.length - 1) 1 (by omega) (zNr _) (fun m m1 m2 => by omega)
theorem fit_cons {L : List Ent} {n : Nat} {C : List (List Ent)} (h : Fit L n) (hc : Cuts C) (hf : C.flatten = L.drop n) : Cuts (L.take n :: C) ∧ (L.take n :: C).flatten = L := by
 refine ⟨⟨h.2.2.1, fun q C' e => ?_, hc⟩, by rw [List.flatten_cons, hf, List.take_append_drop]⟩
 subst e
 cases q with
 | nil => exact absurd rfl hc.1.1
 | cons a q' =>
  refine ⟨a, q', rfl, h.2.2.2 a ?_⟩
  have h2 := congrArg (fun l => l[0]?) hf
  simp only [List.flatten_cons, List.cons_append, List.getElem?_cons_zero, List.getElem?_drop, Nat.add_zero] at h2
  exact h2.symm
theorem cuts_exists : ∀ (d : Nat) (L : List Ent), L.length ≤ d → ∃ C, Cuts C ∧ C.flatten = L
 | _, [], _ => ⟨[], trivial, rfl⟩
 | 0, _ :: _, h => by simp at h
 | d + 1, a :: l, h => by
  obtain ⟨n, hn⟩ := fit_exists (L := a :: l) (by simp)
  obtain ⟨C, h1, h2⟩ := cuts_exists d ((a :: l).drop n) (by rw [List.length_drop]; have := hn.1; omega)
  exact ⟨_, fit_cons hn h1 h2⟩
theorem fit_head {p : List Ent} {C : List (List Ent)} {n : Nat} (hc : Cuts (p :: C)) (h : Fit (p :: C).flatten n) : n = p.length := by
 obtain ⟨D, h1, h2⟩ := cuts_exists _ ((p :: C).flatten.drop n) (zNr _)
 obtain ⟨h3, h4⟩ := fit_cons h h1 h2
 have h5 := cut_unique h3 hc h4
 injection h5 with h5 _
 have := congrArg List.length h5
 rw [List.length_take] at this
 have := h.2.1
 omega
theorem cuts_drop : ∀ {C : List (List Ent)} (k : Nat), Cuts C → Cuts (C.drop k)
 | _, 0, h => h
 | [], _ + 1, _ => trivial
 | _ :: _, k + 1, h => cuts_drop k h.2.2
def offK (C : List (List Ent)) (k : Nat) : Nat := (C.take k).flatten.length
theorem offK_zero (C : List (List Ent)) : offK C 0 = 0 := rfl
theorem offK_succ {C : List (List Ent)} {k : Nat} {p : List Ent} (h : C[k]? = some p) : offK C (k + 1) = offK C k + p.length := by
 unfold offK
 obtain ⟨h1, rfl⟩ := zLg.1 h
 rw [List.take_succ_eq_append_getElem h1, List.flatten_append, List.length_append]; simp
theorem offK_all (C : List (List Ent)) : offK C C.length = C.flatten.length := by unfold offK; rw [List.take_length]
theorem flat_split (C : List (List Ent)) (k : Nat) : C.flatten = (C.take k).flatten ++ (C.drop k).flatten := by rw [← List.flatten_append, List.take_append_drop]
theorem flat_drop (C : List (List Ent)) (k : Nat) : C.flatten.drop (offK C k) = (C.drop k).flatten := by
 rw [flat_split C k]
 unfold offK
 rw [List.drop_append_of_le_length (zNr _), List.drop_length, List.nil_append]
theorem offK_le (C : List (List Ent)) (k : Nat) : offK C k ≤ C.flatten.length := by
 rw [flat_split C k, List.length_append]
 unfold offK
 omega
theorem offK_lt {C : List (List Ent)} (hc : Cuts C) {k : Nat} (hk : k < C.length) : offK C k < C.flatten.length := by
 have h1 := offK_succ (List.getElem?_eq_getElem hk)
 have h2 := offK_le C (k + 1)
 have h3 : 0 < (C[k]).length := List.length_pos_iff.2 (cuts_piece hc _ (List.getElem_mem hk)).1
 omega
theorem enters_pieces1 : ∀ args w, (callFunc 120 args).run Tryz.prog w = .ok (.enter 120 args) w := enters_of Tryz.func120 (by kernel_rfl) rfl
theorem pieces_any (A : Option Addr) (n c : Nat) (w : World) : Calls Tryz.prog 101 #[.slice A n c] w fun x w' => x = .returned (.func (.func 120) #[] #[.pointer (some ⟨w.heap.size, 0, none⟩)]) ∧ w' = w.alloc (.cells #[.slice A n c] 28) := by
 have hmf := mkf
 go_enter Tryz.func101, Tryz.ntmps101
 go_wp2_with fail
 go_ret
 simp
def PcOk (C : List (List Ent)) (_n₁ k : Nat) (x : Nat × Nat) (_w : World) : Prop := ∃ p, C[k]? = some p ∧ x = (offK C k, p.length)
def pcV (b o c : Nat) (x : Nat × Nat) : Array Value := #[.slice (some ⟨b, o + x.1 * 4, none⟩) x.2 (c - x.1)]
def PcC (pb lo hi : Nat) (A : Option Addr) (L : List (Ent × Hd)) (c : Nat) (w : World) : Prop := w.cell? ⟨pb, 0, none⟩ = some (.slice A L.length c) ∧ Es w lo hi A L ∧ hi ≤ w.heap.size
theorem pc_tail (b o r cc m : Nat) (h : m ≤ r) (hc : r ≤ cc) : ∃ A2, (∀ w, (Instr.slice 28 (.slice (some ⟨b, o, none⟩) r cc) (some (.int .i64 (m : Int))) none none).run Tryz.prog w = .ok (.slice A2 (r - m) (cc - m)) w) ∧ (m < r → A2 = some ⟨b, o + m * 4, none⟩) := by
 refine ⟨if cc = m then some ⟨b, o, none⟩ else (some (⟨b, o, none⟩ : Addr)).map (·.add (m * 4)), fun w => ?_, fun hm => ?_⟩
 · have he : Tryz.prog.underlying 28 = some (.slice (Tryz.prog.elem 28)) := by kernel_rfl
   rw [run_slice_l w 28 (some ⟨b, o, none⟩) r cc he .i64 (m : Int) (by omega) (by omega), esize w]
   simp [Result.andThen, sliced]
 · rw [if_neg (by omega)]
   show some (Addr.add _ _) = _
   rw [addr_add]
set_option maxRecDepth 100000 in
set_option maxHeartbeats 8000000 in
theorem pieces_iter {w : World} {pb lo hi c b o : Nat} {L : List (Ent × Hd)} {C : List (List Ent)} (hcu : Cuts C) (hf : C.flatten = L.map Prod.fst) (hc : L.length ≤ c) (hl : L.length ≤ 4096) (hr : Rise (L.map Prod.fst)) (hm : ∀ e ∈ L.map Prod.fst, e.may = true) :
    Iter Tryz.prog 120 #[.pointer (some ⟨pb, 0, none⟩)] C.length (pcV b o c) (PcOk C) (PcC pb lo hi (some ⟨b, o, none⟩) L c) w := by
 intro mm lab J Jx W hx hC hJ hJx h0 hY
 have HCU := zHd hcu
 have HFL := zHd hf
 have HCC := zHd hc
 have HL := zHd hl
 have HRM := zHd (And.intro hr hm)
 have HC := zHd hC
 have HJ := zHd hJ
 have HJ0 := zHd (h0 W (Ext.refl _))
 have HY := zHd hY
 obtain ⟨n, hn⟩ : ∃ n, n = L.length := ⟨_, rfl⟩
 have HN := zHd hn
 have HLF : Hid (C.flatten.length = n) := by rw [hf, hn]; exact List.length_map ..
 clear hcu hf hc hl hr hm hC hJ hJx h0 hY hx
 have HC2 : Hid (∀ n₁ k A, J n₁ k A → A.cell? ⟨pb, 0, none⟩ = some (.slice (some ⟨b, o, none⟩) n c)) := fun n₁ k A h => by rw [HN.out]; exact (HC.out n₁ k A h).1
 clear hn
 refine (callsIn_wide (n := 6)).1 ?_
 refine callsIn_of_wp Tryz.func120 rfl trivial ?_ rfl
 simp only [Tryz.ntmps120, List.size_toArray, List.length_cons, List.length_nil, Nat.reduceAdd, Nat.reduceSub, Array.replicate_succ, Array.replicate_zero, List.push_toArray, List.append_toArray, List.nil_append, List.cons_append]
 have c0 := HC2.out _ _ _ HJ0.out
 gi_wp2
 clear c0
 gi_loopw [3, 4] (fun x _ wr => ∃ (k off : Nat) (A2 : Option Addr), off = offK C k ∧ k ≤ C.length ∧ x = .slice A2 (n - off) (c - off) ∧ Hid (off < n → A2 = some ⟨b, o + off * 4, none⟩) ∧ Hid (J W.heap.size k wr) ∧ Hid (Step W.heap.size W.heap.size W wr))
  (fun x _ _ => match x with | .slice _ r _ => r | _ => 0)
 case atStart => exact ⟨0, 0, some ⟨b, o, none⟩, (offK_zero C).symm, Nat.zero_le _, rfl, fun _ => rfl, HJ0, Step.refl _ _ _⟩
 case round =>
  obtain ⟨k, off, A2, ho, hk, rfl, HA2, HJK, HST⟩ := hrel
  have HO := zHd (And.intro ho hk)
  clear ho hk
  obtain ⟨r, hr⟩ : ∃ r, r = n - off := ⟨_, rfl⟩
  obtain ⟨cc, hcc⟩ : ∃ cc, cc = c - off := ⟨_, rfl⟩
  have HRC : Hid (r = n - off ∧ cc = c - off) := ⟨hr, hcc⟩
  rw [← hr, ← hcc]
  clear hr hcc
  by_cases hlt : off < n
  · have d : decide ((0 : Int) < (r : Int)) = true := decide_eq_true (by have := HRC.out; omega)
    have dn : decide (0 < r) = true := decide_eq_true (by have := HRC.out; omega)
    have HLT := zHd hlt
    rw [HA2.out hlt]
    have hkC : k < C.length := by
     rcases Nat.lt_or_ge k C.length with h | h
     · exact h
     · have h1 : k = C.length := by have := HO.out.2; omega
       have h2 := offK_all C
       rw [← h1, HLF.out, ← HO.out.1] at h2
       omega
    have HKC := zHd hkC
    obtain ⟨p, hp⟩ : ∃ p, C[k]? = some p := ⟨_, List.getElem?_eq_getElem hkC⟩
    have HP := zHd hp
    have HFIT : Hid (∀ u, Ext wr u → Calls Tryz.prog 121 #[.slice (some ⟨b, o + off * 4, none⟩) r cc] u fun x w' => x = .returned (.int .i64 (p.length : Int)) ∧ Ext u w') := fun u hu => by
     have hju := HJ.out _ _ _ _ (zNr _) HJK.out (Chg.of_ext hu)
     have hE := (HC.out _ _ _ hju).2
     have hE2 := hE.1.drop (k := off) (c := c) (by rw [← HN.out]; omega) HCC.out
     rw [if_neg (by have := HCC.out; have := HN.out; omega)] at hE2
     have e0 : (some (⟨b, o, none⟩ : Addr)).map (·.add (off * 4)) = some ⟨b, o + off * 4, none⟩ := by show some (Addr.add _ _) = _; rw [addr_add]
     rw [e0] at hE2
     have e1 : (L.drop off).length = r := by rw [List.length_drop, ← HN.out]; exact HRC.out.1.symm
     have e2 : (L.drop off).map Prod.fst = (C.drop k).flatten := by rw [List.map_drop, ← HFL.out, HO.out.1, flat_drop]
     have hsub : ∃ P, L.map Prod.fst = P ++ ((C.drop k).flatten ++ []) := ⟨(C.take k).flatten, by rw [List.append_nil, ← HFL.out]; exact flat_split C k⟩
     have h := fit_any (c := cc) hE2 hE.2 (by rw [e1]; have := HRC.out; have := HCC.out; have := HN.out; omega) (by rw [e1]; have := HRC.out; have := HL.out; have := HN.out; omega) (by rw [e1]; have := HRC.out; omega) (by rw [e2]; obtain ⟨P, hP⟩ := hsub; exact rise_part HRM.out.1 hP) (fun e he => HRM.out.2 e (by rw [e2] at he; obtain ⟨P, hP⟩ := hsub; rw [hP]; simp [he]))
     rw [e1, e2] at h
     refine h.mono ?_
     rintro x w' ⟨m, rfl, hm, hx⟩
     refine ⟨?_, hx⟩
     have hd : C.drop k = p :: C.drop (k + 1) := by obtain ⟨h8, rfl⟩ := zLg.1 HP.out; exact List.drop_eq_getElem_cons h8
     rw [hd] at hm
     have hcd := cuts_drop k HCU.out
     rw [hd] at hcd
     rw [fit_head hcd hm]
    have hoff := offK_succ hp
    have hole := offK_le C (k + 1)
    obtain ⟨m, hm⟩ : ∃ m, m = p.length := ⟨_, rfl⟩
    rw [← hm] at HFIT hoff
    have hm1 : 1 ≤ m := by rw [hm]; exact List.length_pos_iff.2 (cuts_piece HCU.out _ (List.mem_of_getElem? hp)).1
    have HMM : Hid (1 ≤ m ∧ off + m = offK C (k + 1) ∧ off + m ≤ n ∧ n ≤ c ∧ n ≤ 4096) := ⟨hm1, by rw [hoff, HO.out.1], by have := HLF.out; have := HO.out.1; omega, by rw [HN.out]; exact HCC.out, by rw [HN.out]; exact HL.out⟩
    have HME := zHd hm
    clear hlt hkC hoff hole hm hm1 hp
    refine wpIn_wide.2 ?_
    go_wp2_with fail
    refine (HFIT.out wr (Ext.refl _)).mono ?_
    rintro x u ⟨rfl, hu⟩
    have HXU : Hid (Ext wr u) := hu
    have hj1 := HJ.out _ _ _ _ (zNr _) HJK.out (Chg.of_ext hu)
    clear hu HFIT
    obtain ⟨fn, tmps, assign, body, hy, hR⟩ := HY.out W.heap.size k (off, m) u (zNr _) (zNt HST.out.size HXU.out.size) hj1 HKC.out ⟨p, HP.out, by rw [HO.out.1, ← HME.out]⟩
    dsimp only [pcV] at hy
    rw [← HRC.out.2] at hy
    obtain ⟨A3, hA3, hA4⟩ := pc_tail b (o + off * 4) r cc m (by have := HRC.out; have := HMM.out; omega) (by have := HRC.out; have := HMM.out; omega)
    have HA4 := zHd hA4
    have mI : (m : Int) ≤ (cc : Int) := by have := HRC.out; have := HMM.out; omega
    have mN : m ≤ cc := by have := HRC.out; have := HMM.out; omega
    have HR := zHd (roundIn_any (m' := 5) hR)
    clear hR hj1 hA4
    go_upto_region 3 with (fail)
    refine (wpIn_wide (n := 6)).1 ?_
    gi_wp2
    refine RoundIn.mono HR.out ?_
    rintro e W3 ⟨hst, (⟨rfl, hj⟩ | ⟨rfl, hjx⟩)⟩
    · have HST3 := zHd ((HST.out.trans (Step.of_chg (S := fun _ => False) (Chg.of_ext HXU.out) HST.out.size (fun _ _ _ h => h))).trans hst)
      have HJ3 := zHd hj
      clear hst hj hy
      gi_wp2
      go_wp2_with fail
      refine ⟨⟨k + 1, off + m, A3, HMM.out.2.1, HKC.out, ?_, fun h => ?_, HJ3, HST3⟩, ?_⟩
      · rw [HRC.out.1, HRC.out.2, Nat.sub_sub, Nat.sub_sub]
      · rw [HA4.out (by have := HRC.out; omega), Nat.add_mul, Nat.add_assoc]
      · have := HRC.out; have := HMM.out; have := HLT.out
        simp
        try omega
    · have HX3 := zHd hjx
      clear hst hjx hy
      gi_wp2
      go_wp2_with fail
      refine bodyPost_ret (results_none rfl _ _ _) rfl ?_
      exact ⟨⟨_, rfl⟩, .inr HX3.out⟩
  · have d : decide ((0 : Int) < (r : Int)) = false := decide_eq_false (by have := HRC.out; omega)
    have dn : decide (0 < r) = false := decide_eq_false (by have := HRC.out; omega)
    have HLT := zHd hlt
    clear hlt
    gi_wp2
    refine ⟨rfl, _, results_none rfl _ _ _, ⟨_, rfl⟩, .inl ⟨W.heap.size, zNr _, ?_⟩⟩
    have h1 : k = C.length := by
     rcases Nat.lt_or_ge k C.length with h | h
     · have h2 := offK_lt HCU.out h
       rw [HLF.out, ← HO.out.1] at h2
       exact absurd h2 HLT.out
     · have := HO.out.2; omega
    rw [← h1]
    exact HJK.out
end Go.Proofs.YtkdidghfcfcpfaaGreat
