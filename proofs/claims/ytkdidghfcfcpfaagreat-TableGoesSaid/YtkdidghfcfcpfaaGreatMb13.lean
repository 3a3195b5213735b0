import Derived.Test.YtkdidghfcfcpfaaGreatMb12
import Derived.BigQuiet
import Derived.BigRegion
import Derived.Test.YtkdidghfcfcpfaaGreatMb2
import Derived.Lib.TrailingZeros
import Derived.Test.YtkdidghfcfcpfaaGreatMb3
import Derived.Test.YtkdidghfcfcpfaaGreatMb7
import Derived.Test.YtkdidghfcfcpfaaGreatMb4
import Derived.Laws.ResultCell
import Derived.Test.YtkdidghfcfcpfaaGreatMb0
namespace Go.Proofs.YtkdidghfcfcpfaaGreat
open Go.ChangeShapes Go.WideShapes Go.ChangeAt Go.RowKit
def endsV (tt : List Nat) (en : Bool) (k : List Nat) : Bool := en && decide (cmpK tt k ≤ 0)
def hasV (fr tt : List Nat) (en : Bool) (k : List Nat) : Bool := decide (cmpK fr k ≤ 0) && !endsV tt en k
structure TV (w : World) (g : Nat) (C : List (List Ent)) (L : List Ent) (fr tt : List Nat) (en : Bool) : Prop where
 may : MayT L
 cuts : Cuts C
 flat : C.flatten = L
 at_ : ∃ (fA : Option Addr) (fc : Nat) (tA : Option Addr) (tc : Nat), TAt w 0 g C L (.slice fA fr.length fc) (.slice tA tt.length tc) en ∧ Bs w 0 w.heap.size (.slice fA fr.length fc) fr ∧ Bs w 0 w.heap.size (.slice tA tt.length tc) tt
 bf : ∀ x ∈ fr, x < 256
 bt : ∀ x ∈ tt, x < 256
 good : ∀ e ∈ L, (∀ x ∈ e.key, x < 256) ∧ ∀ x ∈ e.val, x < 256
theorem TV.ext {w w' : World} {g : Nat} {C : List (List Ent)} {L : List Ent} {fr tt : List Nat} {en : Bool} (h : TV w g C L fr tt en) (hx : Ext w w') : TV w' g C L fr tt en := by
 obtain ⟨fA, fc, tA, tc, h1, h2, h3⟩ := h.at_
 exact ⟨h.may, h.cuts, h.flat, ⟨fA, fc, tA, tc, h1.ext hx, bs_next h2 hx, bs_next h3 hx⟩, h.bf, h.bt, h.good⟩
theorem TV.whole {w : World} {lo g : Nat} {C : List (List Ent)} {L : List Ent} (hm : MayT L) (hc : Cuts C) (hf : C.flatten = L) (hb : ∀ e ∈ L, (∀ x ∈ e.key, x < 256) ∧ ∀ x ∈ e.val, x < 256) (h : TAt w lo g C L (.slice none 0 0) (.slice none 0 0) false) : TV w g C L [] [] false :=
 ⟨hm, hc, hf, ⟨none, 0, none, 0, h.low (Nat.zero_le _), Bs.nil _ _ _, Bs.nil _ _ _⟩, (fun x hx => by cases hx), (fun x hx => by cases hx), hb⟩
theorem TV.some_ {w : World} {g : Nat} {C : List (List Ent)} {L : List Ent} {fr tt : List Nat} {en : Bool} (h : TV w g C L fr tt en) : 1 ≤ C.length ∧ C.length ≤ 4096 := by
 refine ⟨?_, (few h.may h.cuts h.flat).c⟩
 rcases C with _ | ⟨p, C⟩
 · have := h.may.1; rw [← h.flat] at this; simp at this
 · simp
set_option maxRecDepth 100000 in
theorem tnone_any {w : World} {g : Nat} {C : List (List Ent)} {L : List Ent} {fr tt : List Nat} {en : Bool} (h : TV w g C L fr tt en) :
    Calls Tryz.prog 41 #[.pointer (some ⟨g, 0, none⟩)] w fun x w' => x = .returned (.bool false) ∧ w' = w := by
 obtain ⟨fA, fc, tA, tc, ⟨bv_, fv_, PA, pc, P, h1, _, _, _, _, h6⟩, _, _⟩ := h.at_
 have hl := congrArg List.length h6
 rw [List.length_map, pls_length] at hl
 unfold tbcells at h1
 have c1 := cell_of h1 (k := 1) rfl
 have dz : ((P.length : Int) == 0) = false := by rw [beq_eq_false_iff_ne]; have := h.some_.1; omega
 have dz2 : (P.length == 0) = false := by rw [beq_eq_false_iff_ne]; have := h.some_.1; omega
 have hz : ¬ P = [] := fun e => by rw [e] at hl; have := h.some_.1; simp at hl; omega
 clear h h1 h6 hl
 go_enter Tryz.func41, Tryz.ntmps41
 go_wp2_with fail
 go_ret
 exact ⟨rfl, rfl⟩
set_option maxRecDepth 100000 in
theorem tblocks_any {w : World} {g : Nat} {C : List (List Ent)} {L : List Ent} {fr tt : List Nat} {en : Bool} (h : TV w g C L fr tt en) :
    Calls Tryz.prog 13 #[.pointer (some ⟨g, 0, none⟩)] w fun x w' => x = .returned (.int .i64 (C.length : Int)) ∧ w' = w := by
 have HN := zHd (tnone_any h)
 obtain ⟨fA, fc, tA, tc, ⟨bv_, fv_, PA, pc, P, h1, _, _, _, _, h6⟩, _, _⟩ := h.at_
 have hl := congrArg List.length h6
 rw [List.length_map, pls_length] at hl
 unfold tbcells at h1
 have c1 := cell_of h1 (k := 1) rfl
 rw [hl] at c1
 clear h h1 h6 hl
 go_enter Tryz.func13, Tryz.ntmps13
 go_wp2_with fail
 refine HN.out.mono ?_
 rintro x w1 ⟨rfl, rfl⟩
 go_wp2_with fail
 go_ret
 exact ⟨rfl, rfl⟩
set_option maxRecDepth 100000 in
theorem tbytes_any {w : World} {g : Nat} {C : List (List Ent)} {L : List Ent} {fr tt : List Nat} {en : Bool} (h : TV w g C L fr tt en) :
    Calls Tryz.prog 15 #[.pointer (some ⟨g, 0, none⟩)] w (NewBy w (tb C L)) := by
 have HN := zHd (tnone_any h)
 have hf := few h.may h.cuts h.flat
 obtain ⟨fA, fc, tA, tc, ⟨bv_, fv_, PA, pc, P, h1, h2, _, _, _, _⟩, _, _⟩ := h.at_
 unfold tbcells at h1
 have c0 := cell_of h1 (k := 0) rfl
 have HC := zHd (clone_any _ _ _ _ _ h2 (zNr _) (by rw [tb_len]; have := hf.a; omega))
 obtain ⟨A, c, rfl, _⟩ := h2
 clear h h1 hf
 go_enter Tryz.func15, Tryz.ntmps15
 go_wp2_with fail
 refine HN.out.mono ?_
 rintro x w1 ⟨rfl, rfl⟩
 go_wp2_with fail
 refine HC.out.mono ?_
 rintro x w1 ⟨v, rfl, ho, hb⟩
 have HF := zHd (And.intro ho hb)
 clear ho hb
 go_wp2_with fail
 go_ret
 exact ⟨v, rfl, HF.out.1, HF.out.2⟩
set_option maxHeartbeats 1000000 in
theorem tends_any {w : World} {lo hi lo2 hi2 fc tc kc fn : Nat} {fA tA kA : Option Addr} {tt key : List Nat} {en : Bool} (ht : Bs w lo hi (.slice tA tt.length tc) tt) (hhi : hi ≤ w.heap.size) (bt : ∀ x ∈ tt, x < 256) (hk : Bs w lo2 hi2 (.slice kA key.length kc) key) (hhi2 : hi2 ≤ w.heap.size) (bk : ∀ x ∈ key, x < 256) :
    Calls Tryz.prog 45 #[.agg #[.slice fA fn fc, .slice tA tt.length tc, .bool en], .slice kA key.length kc] w fun x w' => x = .returned (.bool (endsV tt en key)) ∧ Ext w w' := by
 obtain ⟨w1, hw1⟩ : ∃ w1, w1 = w.alloc (.cells #[.slice fA fn fc, .slice tA tt.length tc, .bool en] 85) := ⟨_, rfl⟩
 have HX1 : Hid (Ext w w1) := by rw [hw1]; exact ext_alloc _ _
 have HB1 : Hid (w1.heap[w.heap.size]? = some (.cells #[.slice fA fn fc, .slice tA tt.length tc, .bool en] 85 (0, 0))) := by rw [hw1]; exact heap_at _ _ rfl
 have HK := zHd (keys_any (ht.below HX1.out hhi) (hk.below HX1.out hhi2) bt bk)
 have c1 := cell_of HB1.out (k := 1) rfl
 have c2 := cell_of HB1.out (k := 2) rfl
 clear ht hhi bt hk hhi2 bk
 cases en with
 | false =>
  go_enter Tryz.func45, Tryz.ntmps45
  go_upto_region 1 with (fail)
  rw [← hw1]
  clear hw1
  go_wp2_with fail
  go_ret
  exact ⟨rfl, HX1.out⟩
 | true =>
  obtain ⟨z, hz⟩ : ∃ z, z = cmpK tt key := ⟨_, rfl⟩
  have he : endsV tt true key = decide (z ≤ 0) := by unfold endsV; rw [hz]; rfl
  rw [he]
  rw [← hz] at HK
  obtain ⟨y, hy⟩ : ∃ y, y = decide (z ≤ 0) := ⟨_, rfl⟩
  have hy2 := hy.symm
  rw [hy2]
  clear hz he hy
  go_enter Tryz.func45, Tryz.ntmps45
  go_upto_region 1 with (fail)
  rw [← hw1]
  clear hw1
  go_wp2_with fail
  refine HK.out.mono ?_
  rintro x w2 ⟨rfl, rfl⟩
  go_wp2_with fail
  go_ret
  exact ⟨rfl, HX1.out⟩
set_option maxHeartbeats 1000000 in
theorem thas_any {w : World} {lo hi lo2 hi2 lo3 hi3 fc tc kc : Nat} {fA tA kA : Option Addr} {fr tt key : List Nat} {en : Bool} (hf : Bs w lo3 hi3 (.slice fA fr.length fc) fr) (hhi3 : hi3 ≤ w.heap.size) (bf : ∀ x ∈ fr, x < 256) (ht : Bs w lo hi (.slice tA tt.length tc) tt) (hhi : hi ≤ w.heap.size) (bt : ∀ x ∈ tt, x < 256) (hk : Bs w lo2 hi2 (.slice kA key.length kc) key) (hhi2 : hi2 ≤ w.heap.size) (bk : ∀ x ∈ key, x < 256) :
    Calls Tryz.prog 54 #[.agg #[.slice fA fr.length fc, .slice tA tt.length tc, .bool en], .slice kA key.length kc] w fun x w' => x = .returned (.bool (hasV fr tt en key)) ∧ Ext w w' := by
 obtain ⟨w1, hw1⟩ : ∃ w1, w1 = w.alloc (.cells #[.slice fA fr.length fc, .slice tA tt.length tc, .bool en] 85) := ⟨_, rfl⟩
 have HX1 : Hid (Ext w w1) := by rw [hw1]; exact ext_alloc _ _
 have HB1 : Hid (w1.heap[w.heap.size]? = some (.cells #[.slice fA fr.length fc, .slice tA tt.length tc, .bool en] 85 (0, 0))) := by rw [hw1]; exact heap_at _ _ rfl
 have HK := zHd (keys_any (hf.below HX1.out hhi3) (hk.below HX1.out hhi2) bf bk)
 have HE := zHd (tends_any (fA := fA) (fn := fr.length) (fc := fc) (en := en) (ht.below HX1.out hhi) (zNt hhi HX1.out.size) bt (hk.below HX1.out hhi2) (zNt hhi2 HX1.out.size) bk)
 have c0 := cell_of HB1.out (k := 0) rfl
 have c1 := cell_of HB1.out (k := 1) rfl
 have c2 := cell_of HB1.out (k := 2) rfl
 obtain ⟨z, hz⟩ : ∃ z, z = cmpK fr key := ⟨_, rfl⟩
 obtain ⟨q, hq⟩ : ∃ q, q = endsV tt en key := ⟨_, rfl⟩
 have he : hasV fr tt en key = (decide (z ≤ 0) && !q) := by unfold hasV; rw [hz, hq]
 rw [he]
 rw [← hz] at HK
 rw [← hq] at HE
 clear hz hq he hf hhi3 bf ht hhi bt hk hhi2 bk
 by_cases hle : z ≤ 0
 · have d : decide (z ≤ 0) = true := decide_eq_true hle
   rw [d]
   go_enter Tryz.func54, Tryz.ntmps54
   go_upto_region 1 with (fail)
   rw [← hw1]
   clear hw1
   go_wp2_with fail
   refine HK.out.mono ?_
   rintro x w2 ⟨rfl, rfl⟩
   go_wp2_with fail
   refine HE.out.mono ?_
   rintro x w3 ⟨rfl, hx3⟩
   have HX3 := zHd (zEt HX1.out hx3)
   clear hx3
   go_wp2_with fail
   go_ret
   exact ⟨by cases q <;> rfl, HX3.out⟩
 · have d : decide (z ≤ 0) = false := decide_eq_false hle
   rw [d]
   go_enter Tryz.func54, Tryz.ntmps54
   go_upto_region 1 with (fail)
   rw [← hw1]
   clear hw1
   go_wp2_with fail
   refine HK.out.mono ?_
   rintro x w2 ⟨rfl, rfl⟩
   go_wp2_with fail
   go_ret
   exact ⟨rfl, HX1.out⟩
set_option maxRecDepth 100000 in
set_option maxHeartbeats 2000000 in
theorem tmay_any {w : World} {g : Nat} {C : List (List Ent)} {L : List Ent} {fr tt : List Nat} {en : Bool} {lo hi kc : Nat} {kA : Option Addr} {key : List Nat} (h : TV w g C L fr tt en) (hk : Bs w lo hi (.slice kA key.length kc) key) (hhi : hi ≤ w.heap.size) (bk : ∀ x ∈ key, x < 256) :
    Calls Tryz.prog 23 #[.pointer (some ⟨g, 0, none⟩), .slice kA key.length kc] w fun x w' => x = .returned (.bool (hasV fr tt en key && Bl.mayB (Bl.mk (keysT L)) key)) ∧ Ext w w' := by
 have HN := zHd (tnone_any h)
 have hFl : ∀ x ∈ Bl.mk (keysT L), x < 256 := Bl.mk_lt _
 have hok : Bl.okF (Bl.mk (keysT L)).length = true := by rw [Bl.mk_length]; exact Bl.okF_iff.2 ⟨by have := Bl.bsize_pos (keysT L).length; omega, Bl.bsize_mod _, zNt (Bl.bsize_le (zNt (keysTo_len L L.length) (by have := h.may.2.1; omega))) (by omega)⟩
 obtain ⟨fA, fc, tA, tc, ⟨bv_, fv_, PA, pc, P, h1, _, h3, _, _, _⟩, hbf, hbt⟩ := h.at_
 have HH := zHd (thas_any (en := en) hbf (zNr _) h.bf hbt (zNr _) h.bt hk hhi bk)
 have HM : Hid (∀ w', Ext w w' → Calls Tryz.prog 55 #[fv_, .slice kA key.length kc] w' fun e w'' => e = .returned (.bool (!Bl.okF (Bl.mk (keysT L)).length || Bl.mayB (Bl.mk (keysT L)) key)) ∧ Ext w' w'') := fun w' hx => Bl.may_any (h3.below hx (zNr _)) hx.size hFl (hk.below hx hhi) (zNt hhi hx.size) bk
 rw [hok] at HM
 obtain ⟨A, c, rfl, _⟩ := h3
 unfold tbcells at h1
 have c2 := cell_of h1 (k := 2) rfl
 have c3 := cell_of h1 (k := 3) rfl
 have c4 := cell_of h1 (k := 4) rfl
 have c5 := cell_of h1 (k := 5) rfl
 have HB := zHd h1
 obtain ⟨q, hq⟩ : ∃ q, q = hasV fr tt en key := ⟨_, rfl⟩
 obtain ⟨m, hm⟩ : ∃ m, m = Bl.mayB (Bl.mk (keysT L)) key := ⟨_, rfl⟩
 rw [← hq] at HH ⊢
 rw [← hm] at HM ⊢
 clear h h1 hbf hbt hk hhi bk hFl hok hq hm
 go_enter Tryz.func23, Tryz.ntmps23
 go_wp2_with fail
 refine HN.out.mono ?_
 rintro x w1 ⟨rfl, rfl⟩
 go_wp2_with fail
 refine HH.out.mono ?_
 rintro x w2 ⟨rfl, hx2⟩
 have HX2 := zHd hx2
 have d2 := cell_of (ext_heap hx2 HB.out) (k := 2) rfl
 have HM2 := zHd (HM.out w2 hx2)
 clear hx2 c2 c3 c4 c5
 cases q with
 | false =>
  go_wp2_with fail
  go_ret
  exact ⟨rfl, HX2.out⟩
 | true =>
  go_wp2_with fail
  refine HM2.out.mono ?_
  rintro x w3 ⟨rfl, hx3⟩
  have HX3 := zHd (zEt HX2.out hx3)
  clear hx3
  go_wp2_with fail
  go_ret
  exact ⟨by cases m <;> rfl, HX3.out⟩
theorem rise_lt {L : List Ent} (h : Rise L) : ∀ (d i : Nat) (a b : Ent), L[i]? = some a → L[i + d + 1]? = some b → cmpE a b < 0 := by
 intro d
 induction d with
 | zero => intro i a b ha hb; exact h i a b ha hb
 | succ d ih =>
  intro i a b ha hb
  have hlt := (zLg.1 hb).1
  obtain ⟨m, hm⟩ : ∃ m, L[i + d + 1]? = some m := ⟨_, List.getElem?_eq_getElem (by omega)⟩
  have h1 := ih i a m ha hm
  have h2 := h (i + d + 1) m b hm hb
  have r1 := cmpE_range a m
  have r2 := cmpE_range m b
  have := cmpE_lt_trans (a := a) (b := m) (c := b) (by omega) (by omega)
  omega
theorem rise_at {L : List Ent} (h : Rise L) {i j : Nat} {a b : Ent} (hij : i < j) (ha : L[i]? = some a) (hb : L[j]? = some b) : cmpE a b < 0 := by
 obtain ⟨d, rfl⟩ : ∃ d, j = i + d + 1 := ⟨j - i - 1, by omega⟩
 exact rise_lt h d i a b ha hb
structure Cut (L : List Ent) (x : Ent) (n : Nat) : Prop where
 le : n ≤ L.length
 lo : ∀ j a, j < n → L[j]? = some a → cmpE a x < 0
 hi : ∀ j a, n ≤ j → L[j]? = some a → 0 ≤ cmpE a x
theorem cut_lo {L : List Ent} (h : Rise L) {x a : Ent} {m : Nat} (hm : L[m]? = some a) (hc : cmpE a x < 0) : ∀ j b, j < m + 1 → L[j]? = some b → cmpE b x < 0 := by
 intro j b hj hb
 rcases Nat.lt_or_ge j m with h1 | h1
 · have h2 := rise_at h h1 hb hm
   have r1 := cmpE_range b a
   have r2 := cmpE_range a x
   have := cmpE_lt_trans (a := b) (b := a) (c := x) (by omega) (by omega)
   omega
 · have : j = m := by omega
   subst this
   rw [hm] at hb; injection hb with hb; subst hb; exact hc
theorem cut_hi {L : List Ent} (h : Rise L) {x a : Ent} {m : Nat} (hm : L[m]? = some a) (hc : 0 ≤ cmpE a x) : ∀ j b, m ≤ j → L[j]? = some b → 0 ≤ cmpE b x := by
 intro j b hj hb
 rcases Nat.lt_or_ge m j with h1 | h1
 · have h2 := rise_at h h1 hm hb
   rcases Int.lt_or_le (cmpE b x) 0 with h3 | h3
   · have r1 := cmpE_range a b
     have r2 := cmpE_range b x
     have := cmpE_lt_trans (a := a) (b := b) (c := x) (by omega) (by omega)
     omega
   · exact h3
 · have : j = m := by omega
   subst this
   rw [hm] at hb; injection hb with hb; subst hb; exact hc
theorem wrap_sum {l h : Nat} (k : l + h < 1000000) : wrap64 ((l : Int) + (h : Int)) = ((l + h : Nat) : Int) := by unfold wrap64; omega
theorem wrap_div {m : Nat} (k : m < 1000000) : wrap64 ((m : Int) / 2) = ((m / 2 : Nat) : Int) := by unfold wrap64; omega
set_option maxRecDepth 100000 in
set_option maxHeartbeats 8000000 in
theorem first_any {w : World} {lo hi lo2 hi2 c : Nat} {A : Option Addr} {L : List (Ent × Hd)} {x : Ent} {g : Hd} (h : Es w lo hi A L) (hhi : hi ≤ w.heap.size) (hn : L.length ≤ 1024) (hr : Rise (L.map Prod.fst)) (hx : Em w lo2 hi2 x g) (hhi2 : hi2 ≤ w.heap.size) :
    Calls Tryz.prog 81 #[.slice A L.length c, x.at_ g] w fun e w' => ∃ n : Nat, Cut (L.map Prod.fst) x n ∧ e = .returned (.int .i64 (n : Int)) ∧ Ext w w' := by
 obtain ⟨w1, hw1⟩ : ∃ w1, w1 = w.alloc (.cells #[.slice g.kA x.key.length g.kc, .int .i64 x.seq, .int .i64 x.kind, .slice g.vA x.val.length g.vc] 50) := ⟨_, rfl⟩
 have HX1 : Hid (Ext w w1) := by rw [hw1]; exact ext_alloc _ _
 have HB1 : Hid (w1.heap[w.heap.size]? = some (.cells #[.slice g.kA x.key.length g.kc, .int .i64 x.seq, .int .i64 x.kind, .slice g.vA x.val.length g.vc] 50 (0, 0))) := by rw [hw1]; exact heap_at _ _ rfl
 have HE := zHd (h.below HX1.out hhi)
 have HM := zHd (hx.below HX1.out hhi2)
 have HH : Hid (hi ≤ w1.heap.size ∧ hi2 ≤ w1.heap.size) := ⟨zNt hhi HX1.out.size, zNt hhi2 HX1.out.size⟩
 have HR := zHd hr
 have HN := zHd hn
 clear h hhi hn hr hx hhi2
 unfold Ent.at_
 go_enter Tryz.func81, Tryz.ntmps81
 go_upto_region 1 with (fail)
 rw [← hw1]
 clear hw1
 go_step3
 go_wp2_with fail
 go_step3
 go_wp2_with fail
 go_loopw [5, 6, 7] (fun a b _ wr => ∃ l k : Nat, l ≤ k ∧ k ≤ L.length ∧ a = .int .i64 (l : Int) ∧ b = .int .i64 (k : Int) ∧ Hid (∀ j y, j < l → (L.map Prod.fst)[j]? = some y → cmpE y x < 0) ∧ Hid (∀ j y, k ≤ j → (L.map Prod.fst)[j]? = some y → 0 ≤ cmpE y x) ∧ Hid (Ext w1 wr))
  (fun a b _ _ => (intOf b).toNat - (intOf a).toNat)
 case atStart => exact ⟨0, L.length, Nat.zero_le _, zNr _, rfl, rfl, fun j y h => absurd h (Nat.not_lt_zero _), fun j y h hy => by have := (zLg.1 hy).1; rw [List.length_map] at this; omega, Ext.refl _⟩
 case round =>
  obtain ⟨l, k, hlk, hkn, rfl, rfl, HLO, HHI, HX⟩ := hrel
  by_cases hlt : l < k
  · have d : decide ((l : Int) < (k : Int)) = true := by rw [decide_eq_true_eq]; exact Int.ofNat_lt.2 hlt
    have dn : decide (l < k) = true := by rw [decide_eq_true_eq]; exact hlt
    obtain ⟨m, hm⟩ : ∃ m, m = (l + k) / 2 := ⟨_, rfl⟩
    have HMM : Hid (l ≤ m ∧ m < k ∧ k ≤ L.length ∧ L.length ≤ 1024) := by have := HN.out; unfold Hid; omega
    have hs1 := wrap_sum (l := l) (h := k) (by have := HN.out; omega)
    obtain ⟨s, hs⟩ : ∃ s, s = l + k := ⟨_, rfl⟩
    rw [← hs] at hs1 hm
    have hs2 := wrap_div (m := s) (by have := HN.out; omega)
    rw [← hm] at hs2
    have HS2 := zHd hs2
    have hml : m < L.length := by have := HMM.out; omega
    obtain ⟨p, hp⟩ : ∃ p, L[m]? = some p := ⟨_, List.getElem?_eq_getElem hml⟩
    have HP := zHd hp
    obtain ⟨bb, oo, rfl⟩ := HE.out.base (by omega)
    have HEr := zHd (HE.out.below HX.out HH.out.1)
    obtain ⟨c0, c1, c2, c3⟩ := HEr.out.get hp
    have HBr : Hid (wr.heap[w.heap.size]? = some (.cells #[.slice g.kA x.key.length g.kc, .int .i64 x.seq, .int .i64 x.kind, .slice g.vA x.val.length g.vc] 50 (0, 0))) := ext_heap HX.out HB1.out
    have e0 := cell_of HBr.out (k := 0) rfl
    have e1 := cell_of HBr.out (k := 1) rfl
    have e2 := cell_of HBr.out (k := 2) rfl
    have e3 := cell_of HBr.out (k := 3) rfl
    have n1 : (0 : Int) ≤ (m : Int) := Int.natCast_nonneg _
    have n2 : (m : Int) < (L.length : Int) := Int.ofNat_lt.2 hml
    have HCK : Hid (∀ u, Ext wr u → Calls Tryz.prog 79 #[p.1.at_ p.2, x.at_ g] u fun y w' => y = .returned (.int .i64 (cmpE p.1 x)) ∧ Ext u w') := fun u hu => by
     have hz := HX.out.size
     exact compare_any ((HEr.out.each p (List.mem_of_getElem? HP.out)).below hu (zNt HH.out.1 hz)) (HM.out.below (zEt HX.out hu) HH.out.2) (zNt HH.out.1 (zNt hz hu.size)) (zNt HH.out.2 (zNt hz hu.size))
    obtain ⟨z, hz⟩ : ∃ z, z = cmpE p.1 x := ⟨_, rfl⟩
    have HZ := zHd hz
    rw [← hz] at HCK
    have HPM : Hid ((L.map Prod.fst)[m]? = some p.1) := by rw [List.getElem?_map, HP.out]; exact rfl
    unfold Ent.at_ at HCK
    clear hlt hp hml hm hs hlk hkn hz
    by_cases hneg : z < 0
    · have dz : decide (z < 0) = true := decide_eq_true hneg
      have HNG := zHd hneg
      clear hneg
      go_upto_region 4 with (fail)
      refine flow (by kernel_rfl) [Is (.slice (some ⟨bb, oo, none⟩) L.length c), Is (.int .i64 (m : Int)), Is (.pointer (some ⟨bb, oo + m * 4, none⟩)), Is (.agg #[.slice p.2.kA p.1.key.length p.2.kc, .int .i64 p.1.seq, .int .i64 p.1.kind, .slice p.2.vA p.1.val.length p.2.vc]), Is (.agg #[.slice g.kA x.key.length g.kc, .int .i64 x.seq, .int .i64 x.kind, .slice g.vA x.val.length g.vc]), Is (.int .i64 z), Is (.bool true)] (by kernel_rfl) (by kernel_rfl) ?mono (fun f1 => ?obl) ?fin
      case mono =>
       simp only [List.forall_mem_cons, List.not_mem_nil, false_imp_iff, implies_true, and_true]
       and_intros <;> exact .is _
      case fin =>
       intro g1 u hu hg
       simp only [puts, Act.put, zq]
       have hxu := zEt (Ext.drew wr) hu
       have HXU : Hid (Ext w1 u) := zEt HX.out hxu
       have e6 : g1 6 = _ := hg 6 (by decide)
       rw [e6]
       clear hxu hu hg e6 hs1 hs2 e0 e1 e2 e3 c0 c1 c2 c3
       go_wp2_with fail
       go_roundw
       case rel =>
        have hmm := HMM.out
        refine ⟨m + 1, k, by omega, by omega, ?_, rfl, ?_, HHI, HXU⟩
        · rw [HS2.out, wrap_succ (by omega)]
        · exact cut_lo HR.out HPM.out (by rw [← HZ.out]; exact HNG.out)
       case measure =>
        have hmm := HMM.out
        rw [HS2.out, wrap_succ (by omega)]
        simp [intOf]; omega
      case obl =>
       refine ⟨fun u hu hd => ?_, fun u hu hd => ?_, fun u hu hd => ?_, fun u hu hd => ?_, fun u hu hd => ?_, fun u hu hd => ?_, fun u hu hd => ?_, trivial⟩
       all_goals try simp only [Act.put, zq]
       · go_simp
         exact zEr
       · go_simp
         exact zEr
       · have e0 : f1 0 = _ := hd 0 (by kernel_rfl)
         have e1 : f1 1 = _ := hd 1 (by kernel_rfl)
         go_simp
         exact zEr
       · have e2 : f1 2 = _ := hd 2 (by kernel_rfl)
         have hu2 := zEt (Ext.drew wr) hu
         have q0 := ext_cell hu2 c0
         have q1 := ext_cell hu2 c1
         have q2 := ext_cell hu2 c2
         have q3 := ext_cell hu2 c3
         go_simp
         exact zEr
       · have hu2 := zEt (Ext.drew wr) hu
         have q0 := ext_cell hu2 e0
         have q1 := ext_cell hu2 e1
         have q2 := ext_cell hu2 e2
         have q3 := ext_cell hu2 e3
         go_simp
         exact zEr
       · have e3 : f1 3 = _ := hd 3 (by kernel_rfl)
         have e4 : f1 4 = _ := hd 4 (by kernel_rfl)
         have hu2 := zEt (Ext.drew wr) hu
         go_simp
         refine (HCK.out _ hu2).mono ?_
         rintro y w9 ⟨rfl, hx9⟩
         exact ⟨_, rfl, hx9, rfl⟩
       · have e5 : f1 5 = _ := hd 5 (by kernel_rfl)
         go_simp
         exact zEr
    · have dz : decide (z < 0) = false := decide_eq_false hneg
      have HNG := zHd hneg
      clear hneg
      go_upto_region 4 with (fail)
      refine flow (by kernel_rfl) [Is (.slice (some ⟨bb, oo, none⟩) L.length c), Is (.int .i64 (m : Int)), Is (.pointer (some ⟨bb, oo + m * 4, none⟩)), Is (.agg #[.slice p.2.kA p.1.key.length p.2.kc, .int .i64 p.1.seq, .int .i64 p.1.kind, .slice p.2.vA p.1.val.length p.2.vc]), Is (.agg #[.slice g.kA x.key.length g.kc, .int .i64 x.seq, .int .i64 x.kind, .slice g.vA x.val.length g.vc]), Is (.int .i64 z), Is (.bool false)] (by kernel_rfl) (by kernel_rfl) ?mono (fun f1 => ?obl) ?fin
      case mono =>
       simp only [List.forall_mem_cons, List.not_mem_nil, false_imp_iff, implies_true, and_true]
       and_intros <;> exact .is _
      case fin =>
       intro g1 u hu hg
       simp only [puts, Act.put, zq]
       have hxu := zEt (Ext.drew wr) hu
       have HXU : Hid (Ext w1 u) := zEt HX.out hxu
       have e6 : g1 6 = _ := hg 6 (by decide)
       rw [e6]
       clear hxu hu hg e6 hs1 hs2 e0 e1 e2 e3 c0 c1 c2 c3
       go_wp2_with fail
       go_roundw
       case rel =>
        have hmm := HMM.out
        refine ⟨l, m, by omega, by omega, rfl, by rw [HS2.out], HLO, ?_, HXU⟩
        exact cut_hi HR.out HPM.out (by rw [← HZ.out]; have := HNG.out; omega)
       case measure =>
        have hmm := HMM.out
        rw [HS2.out]
        simp [intOf]; omega
      case obl =>
       refine ⟨fun u hu hd => ?_, fun u hu hd => ?_, fun u hu hd => ?_, fun u hu hd => ?_, fun u hu hd => ?_, fun u hu hd => ?_, fun u hu hd => ?_, trivial⟩
       all_goals try simp only [Act.put, zq]
       · go_simp
         exact zEr
       · go_simp
         exact zEr
       · have e0 : f1 0 = _ := hd 0 (by kernel_rfl)
         have e1 : f1 1 = _ := hd 1 (by kernel_rfl)
         go_simp
         exact zEr
       · have e2 : f1 2 = _ := hd 2 (by kernel_rfl)
         have hu2 := zEt (Ext.drew wr) hu
         have q0 := ext_cell hu2 c0
         have q1 := ext_cell hu2 c1
         have q2 := ext_cell hu2 c2
         have q3 := ext_cell hu2 c3
         go_simp
         exact zEr
       · have hu2 := zEt (Ext.drew wr) hu
         have q0 := ext_cell hu2 e0
         have q1 := ext_cell hu2 e1
         have q2 := ext_cell hu2 e2
         have q3 := ext_cell hu2 e3
         go_simp
         exact zEr
       · have e3 : f1 3 = _ := hd 3 (by kernel_rfl)
         have e4 : f1 4 = _ := hd 4 (by kernel_rfl)
         have hu2 := zEt (Ext.drew wr) hu
         go_simp
         refine (HCK.out _ hu2).mono ?_
         rintro y w9 ⟨rfl, hx9⟩
         exact ⟨_, rfl, hx9, rfl⟩
       · have e5 : f1 5 = _ := hd 5 (by kernel_rfl)
         go_simp
         exact zEr
  · have d : decide ((l : Int) < (k : Int)) = false := by rw [decide_eq_false_iff_not]; exact fun h => hlt (Int.ofNat_lt.1 h)
    have dn : decide (l < k) = false := by rw [decide_eq_false_iff_not]; exact hlt
    have HLK : Hid (l = k ∧ k ≤ L.length) := ⟨by omega, hkn⟩
    clear hlt hlk hkn
    go_wp2_with fail
    rw [Exit.noGoto_ret]
    go_ret
    exact ⟨l, ⟨by rw [List.length_map]; have := HLK.out; omega, HLO.out, by rw [HLK.out.1]; exact HHI.out⟩, rfl, zEt HX1.out HX.out⟩
def lastE (p : Pl) : Ent := ⟨p.key, (p.n : Int), 0, []⟩
def lastH (g : PHd) : Hd := ⟨g.1, g.2, none, 0⟩
theorem last_em {w : World} {lo hi : Nat} {p : Pl × PHd} (h : PEm w lo hi p) (hb : ∀ x ∈ p.1.key, x < 256) (hn : p.1.n ≤ 2147483647) : Em w lo hi (lastE p.1) (lastH p.2) :=
 ⟨h, Bs.nil _ _ _, hb, fun x hx => (by cases hx), by show _ ≤ (p.1.n : Int); omega, by show (p.1.n : Int) ≤ _; omega, by show _ ≤ (0 : Int); omega, by show (0 : Int) ≤ _; omega⟩
theorem enters_first1 : ∀ args w, (callFunc 78 args).run Tryz.prog w = .ok (.enter 78 args) w := enters_of Tryz.func78 (by kernel_rfl) rfl
set_option maxHeartbeats 1000000 in
theorem tfirst1_any {w : World} {lo hi lo2 hi2 : Nat} {p : Pl × PHd} {x : Ent} {g : Hd} (h : PEm w lo hi p) (hb : ∀ x ∈ p.1.key, x < 256) (hn : p.1.n ≤ 2147483647) (hhi : hi ≤ w.heap.size) (hx : Em w lo2 hi2 x g) (hhi2 : hi2 ≤ w.heap.size) :
    Calls Tryz.prog 78 #[.agg #[.slice p.2.1 p.1.key.length p.2.2, .int .i64 (p.1.n : Int), .int .i64 0, .slice none 0 0, .int .i64 (p.1.b : Int), .int .i64 (p.1.z : Int)], .agg #[.slice g.kA x.key.length g.kc, .int .i64 x.seq, .int .i64 x.kind, .slice g.vA x.val.length g.vc]] w fun y w' => y = .returned (.int .i64 (cmpE (lastE p.1) x)) ∧ Ext w w' := by
 obtain ⟨w1, hw1⟩ : ∃ w1, w1 = (w.alloc (.cells #[.slice p.2.1 p.1.key.length p.2.2, .int .i64 (p.1.n : Int), .int .i64 0, .slice none 0 0, .int .i64 (p.1.b : Int), .int .i64 (p.1.z : Int)] 90)).alloc (.cells #[.slice g.kA x.key.length g.kc, .int .i64 x.seq, .int .i64 x.kind, .slice g.vA x.val.length g.vc] 50) := ⟨_, rfl⟩
 have HX1 : Hid (Ext w w1) := by rw [hw1]; exact zEt (ext_alloc _ _) (ext_alloc _ _)
 have HB1 : Hid (w1.heap[w.heap.size]? = some (.cells #[.slice p.2.1 p.1.key.length p.2.2, .int .i64 (p.1.n : Int), .int .i64 0, .slice none 0 0, .int .i64 (p.1.b : Int), .int .i64 (p.1.z : Int)] 90 (0, 0))) := by rw [hw1]; exact ext_heap (ext_alloc _ _) (heap_at _ _ rfl)
 have HB2 : Hid (w1.heap[w.heap.size + 1]? = some (.cells #[.slice g.kA x.key.length g.kc, .int .i64 x.seq, .int .i64 x.kind, .slice g.vA x.val.length g.vc] 50 (0, 0))) := by rw [hw1]; exact heap_at _ _ (by simp)
 have HC := zHd (compare_any ((last_em h hb hn).below HX1.out hhi) (hx.below HX1.out hhi2) (zNt hhi HX1.out.size) (zNt hhi2 HX1.out.size))
 have c0 := cell_of HB1.out (k := 0) rfl
 have c1 := cell_of HB1.out (k := 1) rfl
 have c2 := cell_of HB1.out (k := 2) rfl
 have c3 := cell_of HB1.out (k := 3) rfl
 have e0 := cell_of HB2.out (k := 0) rfl
 have e1 := cell_of HB2.out (k := 1) rfl
 have e2 := cell_of HB2.out (k := 2) rfl
 have e3 := cell_of HB2.out (k := 3) rfl
 obtain ⟨z, hz⟩ : ∃ z, z = cmpE (lastE p.1) x := ⟨_, rfl⟩
 rw [← hz] at HC ⊢
 unfold Ent.at_ at HC
 have HC2 : Hid (Calls Tryz.prog 79 #[.agg #[.slice p.2.1 p.1.key.length p.2.2, .int .i64 (p.1.n : Int), .int .i64 0, .slice none 0 0], .agg #[.slice g.kA x.key.length g.kc, .int .i64 x.seq, .int .i64 x.kind, .slice g.vA x.val.length g.vc]] w1 fun e w' => e = .returned (.int .i64 z) ∧ Ext w1 w') := HC.out
 clear HC hz h hb hn hhi hx hhi2
 go_enter Tryz.func78, Tryz.ntmps78
 go_upto_region 1 with (fail)
 rw [← hw1]
 clear hw1
 go_wp2_with fail
 refine HC2.out.mono ?_
 rintro y w2 ⟨rfl, hx2⟩
 have HX2 := zHd (zEt HX1.out hx2)
 clear hx2
 go_wp2_with fail
 go_ret
 exact ⟨rfl, HX2.out⟩
set_option maxRecDepth 100000 in
set_option maxHeartbeats 8000000 in
theorem search_any {w : World} {lo hi lo2 hi2 c : Nat} {A : Option Addr} {L : List (Pl × PHd)} {x : Ent} {g : Hd} (h : Ps w lo hi A L) (hhi : hi ≤ w.heap.size) (hn : L.length ≤ 4096) (hr : Rise (L.map fun p => lastE p.1)) (hg : ∀ p ∈ L, (∀ y ∈ p.1.key, y < 256) ∧ p.1.n ≤ 2147483647) (hx : Em w lo2 hi2 x g) (hhi2 : hi2 ≤ w.heap.size) :
    Calls Tryz.prog 77 #[.slice A L.length c, .agg #[.slice g.kA x.key.length g.kc, .int .i64 x.seq, .int .i64 x.kind, .slice g.vA x.val.length g.vc], .func (.func 78) #[] #[]] w fun e w' => ∃ (n : Nat) (y : Bool), Cut (L.map fun p => lastE p.1) x n ∧ e = .returned (.tuple #[.int .i64 (n : Int), .bool y]) ∧ Ext w w' := by
 obtain ⟨w1, hw1⟩ : ∃ w1, w1 = w.alloc (.cells #[.slice g.kA x.key.length g.kc, .int .i64 x.seq, .int .i64 x.kind, .slice g.vA x.val.length g.vc] 50) := ⟨_, rfl⟩
 have HX1 : Hid (Ext w w1) := by rw [hw1]; exact ext_alloc _ _
 have HB1 : Hid (w1.heap[w.heap.size]? = some (.cells #[.slice g.kA x.key.length g.kc, .int .i64 x.seq, .int .i64 x.kind, .slice g.vA x.val.length g.vc] 50 (0, 0))) := by rw [hw1]; exact heap_at _ _ rfl
 have HE := zHd (h.below HX1.out hhi)
 have HM := zHd (hx.below HX1.out hhi2)
 have HH : Hid (hi ≤ w1.heap.size ∧ hi2 ≤ w1.heap.size) := ⟨zNt hhi HX1.out.size, zNt hhi2 HX1.out.size⟩
 have HR := zHd hr
 have HN := zHd hn
 have HG := zHd hg
 have hen := enters_first1
 clear h hhi hn hr hx hhi2 hg
 go_enter Tryz.func77, Tryz.ntmps77
 go_upto_region 1 with (fail)
 rw [← hw1]
 clear hw1
 go_wp2_with fail
 go_loopw [9, 10, 11] (fun a b _ wr => ∃ l k : Nat, l ≤ k ∧ k ≤ L.length ∧ a = .int .i64 (l : Int) ∧ b = .int .i64 (k : Int) ∧ Hid (∀ j y, j < l → (L.map fun p => lastE p.1)[j]? = some y → cmpE y x < 0) ∧ Hid (∀ j y, k ≤ j → (L.map fun p => lastE p.1)[j]? = some y → 0 ≤ cmpE y x) ∧ Hid (Ext w1 wr))
  (fun a b _ _ => (intOf b).toNat - (intOf a).toNat)
 case atStart => exact ⟨0, L.length, Nat.zero_le _, zNr _, rfl, rfl, fun j y h => absurd h (Nat.not_lt_zero _), fun j y h hy => by have := (zLg.1 hy).1; rw [List.length_map] at this; omega, Ext.refl _⟩
 case round =>
  obtain ⟨l, k, hlk, hkn, rfl, rfl, HLO, HHI, HX⟩ := hrel
  by_cases hlt : l < k
  · have d : decide ((l : Int) < (k : Int)) = true := by rw [decide_eq_true_eq]; exact Int.ofNat_lt.2 hlt
    have dn : decide (l < k) = true := by rw [decide_eq_true_eq]; exact hlt
    obtain ⟨m, hm⟩ : ∃ m, m = (l + k) / 2 := ⟨_, rfl⟩
    have HMM : Hid (l ≤ m ∧ m < k ∧ k ≤ L.length ∧ L.length ≤ 4096) := by have := HN.out; unfold Hid; omega
    have hs1 := wrap_sum (l := l) (h := k) (by have := HN.out; omega)
    have hm2 : wrap64 (IntKind.u64.wrap ((l : Int) + (k : Int)) / 2) = (m : Int) := by
     have e : IntKind.u64.wrap ((l : Int) + (k : Int)) = ((l + k : Nat) : Int) := by rw [IntKind.wrap_u64]; have := HMM.out; omega
     have := HMM.out
     rw [e, hm]; unfold wrap64; omega
    have hml : m < L.length := by have := HMM.out; omega
    obtain ⟨p, hp⟩ : ∃ p, L[m]? = some p := ⟨_, List.getElem?_eq_getElem hml⟩
    have HP := zHd hp
    obtain ⟨bb, oo, rfl⟩ := HE.out.base (by omega)
    have HEr := zHd (HE.out.below HX.out HH.out.1)
    obtain ⟨c0, c1, c2, c3, c4, c5⟩ := HEr.out.get hp
    have HBr : Hid (wr.heap[w.heap.size]? = some (.cells #[.slice g.kA x.key.length g.kc, .int .i64 x.seq, .int .i64 x.kind, .slice g.vA x.val.length g.vc] 50 (0, 0))) := ext_heap HX.out HB1.out
    have e0 := cell_of HBr.out (k := 0) rfl
    have e1 := cell_of HBr.out (k := 1) rfl
    have e2 := cell_of HBr.out (k := 2) rfl
    have e3 := cell_of HBr.out (k := 3) rfl
    have n1 : (0 : Int) ≤ (m : Int) := Int.natCast_nonneg _
    have n2 : (m : Int) < (L.length : Int) := Int.ofNat_lt.2 hml
    have HCK : Hid (∀ u, Ext wr u → Calls Tryz.prog 78 #[.agg #[.slice p.2.1 p.1.key.length p.2.2, .int .i64 (p.1.n : Int), .int .i64 0, .slice none 0 0, .int .i64 (p.1.b : Int), .int .i64 (p.1.z : Int)], .agg #[.slice g.kA x.key.length g.kc, .int .i64 x.seq, .int .i64 x.kind, .slice g.vA x.val.length g.vc]] u fun y w' => y = .returned (.int .i64 (cmpE (lastE p.1) x)) ∧ Ext u w') := fun u hu => by
     have hz := HX.out.size
     have hgp := HG.out p (List.mem_of_getElem? HP.out)
     exact tfirst1_any ((HEr.out.each p (List.mem_of_getElem? HP.out)).below hu (zNt HH.out.1 hz)) hgp.1 hgp.2 (zNt HH.out.1 (zNt hz hu.size)) (HM.out.below (zEt HX.out hu) HH.out.2) (zNt HH.out.2 (zNt hz hu.size))
    obtain ⟨z, hz⟩ : ∃ z, z = cmpE (lastE p.1) x := ⟨_, rfl⟩
    have HZ := zHd hz
    rw [← hz] at HCK
    have HPM : Hid ((L.map fun p => lastE p.1)[m]? = some (lastE p.1)) := by rw [List.getElem?_map, HP.out]; exact rfl
    clear hlt hp hml hm hlk hkn hz
    by_cases hneg : z < 0
    · have dz : decide (z < 0) = true := decide_eq_true hneg
      have HNG := zHd hneg
      clear hneg
      go_upto_region 5 with (fail)
      rw [hm2]
      refine flow (by kernel_rfl) [Is (.func (.func 78) #[] #[]), Is (.slice (some ⟨bb, oo, none⟩) L.length c), Is (.int .i64 (m : Int)), Is (.pointer (some ⟨bb, oo + m * 6, none⟩)), Is (.agg #[.slice p.2.1 p.1.key.length p.2.2, .int .i64 (p.1.n : Int), .int .i64 0, .slice none 0 0, .int .i64 (p.1.b : Int), .int .i64 (p.1.z : Int)]), Is (.agg #[.slice g.kA x.key.length g.kc, .int .i64 x.seq, .int .i64 x.kind, .slice g.vA x.val.length g.vc]), Is (.int .i64 z), Is (.bool true)] (by kernel_rfl) (by kernel_rfl) ?mono (fun f1 => ?obl) ?fin
      case mono =>
       simp only [List.forall_mem_cons, List.not_mem_nil, false_imp_iff, implies_true, and_true]
       and_intros <;> exact .is _
      case fin =>
       intro g1 u hu hg
       simp only [puts, Act.put, zq]
       have hxu := zEt (Ext.drew wr) hu
       have HXU : Hid (Ext w1 u) := zEt HX.out hxu
       have e7 : g1 7 = _ := hg 7 (by decide)
       rw [e7]
       clear hxu hu hg e7 hs1 hm2 e0 e1 e2 e3 c0 c1 c2 c3 c4 c5
       go_wp2_with fail
       go_roundw
       case rel =>
        have hmm := HMM.out
        refine ⟨m + 1, k, by omega, by omega, ?_, rfl, ?_, HHI, HXU⟩
        · rw [wrap_succ (by omega)]
        · exact cut_lo HR.out HPM.out (by rw [← HZ.out]; exact HNG.out)
       case measure =>
        have hmm := HMM.out
        rw [wrap_succ (by omega)]
        simp [intOf]; omega
      case obl =>
       refine ⟨fun u hu hd => ?_, fun u hu hd => ?_, fun u hu hd => ?_, fun u hu hd => ?_, fun u hu hd => ?_, fun u hu hd => ?_, fun u hu hd => ?_, fun u hu hd => ?_, trivial⟩
       all_goals try simp only [Act.put, zq]
       · go_simp
         exact zEr
       · go_simp
         exact zEr
       · go_simp
         exact zEr
       · have e1 : f1 1 = _ := hd 1 (by kernel_rfl)
         have e2 : f1 2 = _ := hd 2 (by kernel_rfl)
         go_simp
         exact zEr
       · have e3 : f1 3 = _ := hd 3 (by kernel_rfl)
         have hu2 := zEt (Ext.drew wr) hu
         have q0 := ext_cell hu2 c0
         have q1 := ext_cell hu2 c1
         have q2 := ext_cell hu2 c2
         have q3 := ext_cell hu2 c3
         have q4 := ext_cell hu2 c4
         have q5 := ext_cell hu2 c5
         go_simp
         exact zEr
       · have hu2 := zEt (Ext.drew wr) hu
         have q0 := ext_cell hu2 e0
         have q1 := ext_cell hu2 e1
         have q2 := ext_cell hu2 e2
         have q3 := ext_cell hu2 e3
         go_simp
         exact zEr
       · have e0 : f1 0 = _ := hd 0 (by kernel_rfl)
         have e4 : f1 4 = _ := hd 4 (by kernel_rfl)
         have e5 : f1 5 = _ := hd 5 (by kernel_rfl)
         have hu2 := zEt (Ext.drew wr) hu
         go_simp
         refine (HCK.out _ hu2).mono ?_
         rintro y w9 ⟨rfl, hx9⟩
         exact ⟨_, rfl, hx9, rfl⟩
       · have e6 : f1 6 = _ := hd 6 (by kernel_rfl)
         go_simp
         exact zEr
    · have dz : decide (z < 0) = false := decide_eq_false hneg
      have HNG := zHd hneg
      clear hneg
      go_upto_region 5 with (fail)
      rw [hm2]
      refine flow (by kernel_rfl) [Is (.func (.func 78) #[] #[]), Is (.slice (some ⟨bb, oo, none⟩) L.length c), Is (.int .i64 (m : Int)), Is (.pointer (some ⟨bb, oo + m * 6, none⟩)), Is (.agg #[.slice p.2.1 p.1.key.length p.2.2, .int .i64 (p.1.n : Int), .int .i64 0, .slice none 0 0, .int .i64 (p.1.b : Int), .int .i64 (p.1.z : Int)]), Is (.agg #[.slice g.kA x.key.length g.kc, .int .i64 x.seq, .int .i64 x.kind, .slice g.vA x.val.length g.vc]), Is (.int .i64 z), Is (.bool false)] (by kernel_rfl) (by kernel_rfl) ?mono (fun f1 => ?obl) ?fin
      case mono =>
       simp only [List.forall_mem_cons, List.not_mem_nil, false_imp_iff, implies_true, and_true]
       and_intros <;> exact .is _
      case fin =>
       intro g1 u hu hg
       simp only [puts, Act.put, zq]
       have hxu := zEt (Ext.drew wr) hu
       have HXU : Hid (Ext w1 u) := zEt HX.out hxu
       have e7 : g1 7 = _ := hg 7 (by decide)
       rw [e7]
       clear hxu hu hg e7 hs1 hm2 e0 e1 e2 e3 c0 c1 c2 c3 c4 c5
       go_wp2_with fail
       go_roundw
       case rel =>
        have hmm := HMM.out
        refine ⟨l, m, by omega, by omega, rfl, rfl, HLO, ?_, HXU⟩
        exact cut_hi HR.out HPM.out (by rw [← HZ.out]; have := HNG.out; omega)
       case measure =>
        have hmm := HMM.out
        simp [intOf]; omega
      case obl =>
       refine ⟨fun u hu hd => ?_, fun u hu hd => ?_, fun u hu hd => ?_, fun u hu hd => ?_, fun u hu hd => ?_, fun u hu hd => ?_, fun u hu hd => ?_, fun u hu hd => ?_, trivial⟩
       all_goals try simp only [Act.put, zq]
       · go_simp
         exact zEr
       · go_simp
         exact zEr
       · go_simp
         exact zEr
       · have e1 : f1 1 = _ := hd 1 (by kernel_rfl)
         have e2 : f1 2 = _ := hd 2 (by kernel_rfl)
         go_simp
         exact zEr
       · have e3 : f1 3 = _ := hd 3 (by kernel_rfl)
         have hu2 := zEt (Ext.drew wr) hu
         have q0 := ext_cell hu2 c0
         have q1 := ext_cell hu2 c1
         have q2 := ext_cell hu2 c2
         have q3 := ext_cell hu2 c3
         have q4 := ext_cell hu2 c4
         have q5 := ext_cell hu2 c5
         go_simp
         exact zEr
       · have hu2 := zEt (Ext.drew wr) hu
         have q0 := ext_cell hu2 e0
         have q1 := ext_cell hu2 e1
         have q2 := ext_cell hu2 e2
         have q3 := ext_cell hu2 e3
         go_simp
         exact zEr
       · have e0 : f1 0 = _ := hd 0 (by kernel_rfl)
         have e4 : f1 4 = _ := hd 4 (by kernel_rfl)
         have e5 : f1 5 = _ := hd 5 (by kernel_rfl)
         have hu2 := zEt (Ext.drew wr) hu
         go_simp
         refine (HCK.out _ hu2).mono ?_
         rintro y w9 ⟨rfl, hx9⟩
         exact ⟨_, rfl, hx9, rfl⟩
       · have e6 : f1 6 = _ := hd 6 (by kernel_rfl)
         go_simp
         exact zEr
  · have d : decide ((l : Int) < (k : Int)) = false := by rw [decide_eq_false_iff_not]; exact fun h => hlt (Int.ofNat_lt.1 h)
    have dn : decide (l < k) = false := by rw [decide_eq_false_iff_not]; exact hlt
    have HLK : Hid (l = k ∧ k ≤ L.length) := ⟨by omega, hkn⟩
    clear hlt hlk hkn
    have HFIN : Hid (Cut (L.map fun p => lastE p.1) x l) := ⟨by rw [List.length_map]; have := HLK.out; omega, HLO.out, by rw [HLK.out.1]; exact HHI.out⟩
    by_cases hin : l < L.length
    · have d8 : decide ((l : Int) < (L.length : Int)) = true := by rw [decide_eq_true_eq]; omega
      have d8n : decide (l < L.length) = true := by rw [decide_eq_true_eq]; exact hin
      obtain ⟨p, hp⟩ : ∃ p, L[l]? = some p := ⟨_, List.getElem?_eq_getElem hin⟩
      have HP := zHd hp
      obtain ⟨bb, oo, rfl⟩ := HE.out.base (by omega)
      have HEr := zHd (HE.out.below HX.out HH.out.1)
      obtain ⟨c0, c1, c2, c3, c4, c5⟩ := HEr.out.get hp
      have HBr : Hid (wr.heap[w.heap.size]? = some (.cells #[.slice g.kA x.key.length g.kc, .int .i64 x.seq, .int .i64 x.kind, .slice g.vA x.val.length g.vc] 50 (0, 0))) := ext_heap HX.out HB1.out
      have e0 := cell_of HBr.out (k := 0) rfl
      have e1 := cell_of HBr.out (k := 1) rfl
      have e2 := cell_of HBr.out (k := 2) rfl
      have e3 := cell_of HBr.out (k := 3) rfl
      have n1 : (0 : Int) ≤ (l : Int) := Int.natCast_nonneg _
      have n2 : (l : Int) < (L.length : Int) := Int.ofNat_lt.2 hin
      have HCK : Hid (∀ u, Ext wr u → Calls Tryz.prog 78 #[.agg #[.slice p.2.1 p.1.key.length p.2.2, .int .i64 (p.1.n : Int), .int .i64 0, .slice none 0 0, .int .i64 (p.1.b : Int), .int .i64 (p.1.z : Int)], .agg #[.slice g.kA x.key.length g.kc, .int .i64 x.seq, .int .i64 x.kind, .slice g.vA x.val.length g.vc]] u fun y w' => y = .returned (.int .i64 (cmpE (lastE p.1) x)) ∧ Ext u w') := fun u hu => by
       have hz := HX.out.size
       have hgp := HG.out p (List.mem_of_getElem? HP.out)
       exact tfirst1_any ((HEr.out.each p (List.mem_of_getElem? HP.out)).below hu (zNt HH.out.1 hz)) hgp.1 hgp.2 (zNt HH.out.1 (zNt hz hu.size)) (HM.out.below (zEt HX.out hu) HH.out.2) (zNt HH.out.2 (zNt hz hu.size))
      obtain ⟨z, hz⟩ : ∃ z, z = cmpE (lastE p.1) x := ⟨_, rfl⟩
      rw [← hz] at HCK
      obtain ⟨y, hy⟩ : ∃ y, y = (z == 0) := ⟨_, rfl⟩
      have hy2 := hy.symm
      clear hp hin hz hy
      go_upto_region 8 with (fail)
      refine flow (by kernel_rfl) [Is (.int .i64 (l : Int)), Is (.int .i64 (l : Int)), Is (.int .i64 (L.length : Int)), Is (.bool true), Is (.bool true), Is (.func (.func 78) #[] #[]), Is (.slice (some ⟨bb, oo, none⟩) L.length c), Is (.int .i64 (l : Int)), Is (.pointer (some ⟨bb, oo + l * 6, none⟩)), Is (.agg #[.slice p.2.1 p.1.key.length p.2.2, .int .i64 (p.1.n : Int), .int .i64 0, .slice none 0 0, .int .i64 (p.1.b : Int), .int .i64 (p.1.z : Int)]), Is (.agg #[.slice g.kA x.key.length g.kc, .int .i64 x.seq, .int .i64 x.kind, .slice g.vA x.val.length g.vc]), Is (.int .i64 z), Is (.bool y), Is (.bool y), Is (.int .i64 (l : Int)), Is (.bool y)] (by kernel_rfl) (by kernel_rfl) ?mono (fun f1 => ?obl) ?fin
      case mono =>
       simp only [List.forall_mem_cons, List.not_mem_nil, false_imp_iff, implies_true, and_true]
       and_intros <;> exact .is _
      case fin =>
       intro g1 u hu hg
       simp only [puts, Act.put, zq]
       have hxu := zEt (Ext.drew wr) hu
       have HXU : Hid (Ext w u) := zEt HX1.out (zEt HX.out hxu)
       have e14 : g1 14 = _ := hg 14 (by decide)
       have e15 : g1 15 = _ := hg 15 (by decide)
       rw [e14, e15]
       clear hxu hu hg e14 e15 e0 e1 e2 e3 c0 c1 c2 c3 c4 c5 hy2
       go_wp2_with fail
       go_ret2
       exact ⟨l, y, HFIN.out, rfl, HXU.out⟩
      case obl =>
       refine ⟨fun u hu hd => ?_, fun u hu hd => ?_, fun u hu hd => ?_, fun u hu hd => ?_, fun u hu hd => ?_, fun u hu hd => ?_, fun u hu hd => ?_, fun u hu hd => ?_, fun u hu hd => ?_, fun u hu hd => ?_, fun u hu hd => ?_, fun u hu hd => ?_, fun u hu hd => ?_, fun u hu hd => ?_, fun u hu hd => ?_, fun u hu hd => ?_, trivial⟩
       all_goals try simp only [Act.put, zq]
       · go_simp
         exact zEr
       · go_simp
         exact zEr
       · go_simp
         exact zEr
       · have e1 : f1 1 = _ := hd 1 (by kernel_rfl)
         have e2 : f1 2 = _ := hd 2 (by kernel_rfl)
         go_simp
         exact zEr
       · have e3 : f1 3 = _ := hd 3 (by kernel_rfl)
         go_simp
         exact zEr
       · have e4 : f1 4 = _ := hd 4 (by kernel_rfl)
         go_simp
         exact zEr
       · have e4 : f1 4 = _ := hd 4 (by kernel_rfl)
         go_simp
         exact zEr
       · have e4 : f1 4 = _ := hd 4 (by kernel_rfl)
         go_simp
         exact zEr
       · have e4 : f1 4 = _ := hd 4 (by kernel_rfl)
         have e6 : f1 6 = _ := hd 6 (by kernel_rfl)
         have e7 : f1 7 = _ := hd 7 (by kernel_rfl)
         go_simp
         exact zEr
       · have e4 : f1 4 = _ := hd 4 (by kernel_rfl)
         have e8 : f1 8 = _ := hd 8 (by kernel_rfl)
         have hu2 := zEt (Ext.drew wr) hu
         have q0 := ext_cell hu2 c0
         have q1 := ext_cell hu2 c1
         have q2 := ext_cell hu2 c2
         have q3 := ext_cell hu2 c3
         have q4 := ext_cell hu2 c4
         have q5 := ext_cell hu2 c5
         go_simp
         exact zEr
       · have e4 : f1 4 = _ := hd 4 (by kernel_rfl)
         have hu2 := zEt (Ext.drew wr) hu
         have q0 := ext_cell hu2 e0
         have q1 := ext_cell hu2 e1
         have q2 := ext_cell hu2 e2
         have q3 := ext_cell hu2 e3
         go_simp
         exact zEr
       · have e4 : f1 4 = _ := hd 4 (by kernel_rfl)
         have e5 : f1 5 = _ := hd 5 (by kernel_rfl)
         have e9 : f1 9 = _ := hd 9 (by kernel_rfl)
         have e10 : f1 10 = _ := hd 10 (by kernel_rfl)
         have hu2 := zEt (Ext.drew wr) hu
         go_simp
         refine (HCK.out _ hu2).mono ?_
         rintro y w9 ⟨rfl, hx9⟩
         exact ⟨_, rfl, hx9, rfl⟩
       · have e4 : f1 4 = _ := hd 4 (by kernel_rfl)
         have e11 : f1 11 = _ := hd 11 (by kernel_rfl)
         go_simp
         exact zEr
       · have e4 : f1 4 = _ := hd 4 (by kernel_rfl)
         have e12 : f1 12 = _ := hd 12 (by kernel_rfl)
         go_simp
         exact zEr
       · have e0 : f1 0 = _ := hd 0 (by kernel_rfl)
         go_simp
         exact zEr
       · have e13 : f1 13 = _ := hd 13 (by kernel_rfl)
         go_simp
         exact zEr
    · have d8 : decide ((l : Int) < (L.length : Int)) = false := by rw [decide_eq_false_iff_not]; omega
      have d8n : decide (l < L.length) = false := by rw [decide_eq_false_iff_not]; exact hin
      clear hin
      go_upto_region 8 with (fail)
      refine flow (by kernel_rfl) [Is (.int .i64 (l : Int)), Is (.int .i64 (l : Int)), Is (.int .i64 (L.length : Int)), Is (.bool false), Is (.bool false), Is undef, Is undef, Is undef, Is undef, Is undef, Is undef, Is undef, Is undef, Is (.bool false), Is (.int .i64 (l : Int)), Is (.bool false)] (by kernel_rfl) (by kernel_rfl) ?mono (fun f1 => ?obl) ?fin
      case mono =>
       simp only [List.forall_mem_cons, List.not_mem_nil, false_imp_iff, implies_true, and_true]
       and_intros <;> exact .is _
      case fin =>
       intro g1 u hu hg
       simp only [puts, Act.put, zq]
       have hxu := zEt (Ext.drew wr) hu
       have HXU : Hid (Ext w u) := zEt HX1.out (zEt HX.out hxu)
       have e14 : g1 14 = _ := hg 14 (by decide)
       have e15 : g1 15 = _ := hg 15 (by decide)
       rw [e14, e15]
       clear hxu hu hg e14 e15
       go_wp2_with fail
       go_ret2
       exact ⟨l, false, HFIN.out, rfl, HXU.out⟩
      case obl =>
       refine ⟨fun u hu hd => ?_, fun u hu hd => ?_, fun u hu hd => ?_, fun u hu hd => ?_, fun u hu hd => ?_, fun u hu hd => ?_, fun u hu hd => ?_, fun u hu hd => ?_, fun u hu hd => ?_, fun u hu hd => ?_, fun u hu hd => ?_, fun u hu hd => ?_, fun u hu hd => ?_, fun u hu hd => ?_, fun u hu hd => ?_, fun u hu hd => ?_, trivial⟩
       all_goals try simp only [Act.put, zq]
       · go_simp
         exact zEr
       · go_simp
         exact zEr
       · go_simp
         exact zEr
       · have e1 : f1 1 = _ := hd 1 (by kernel_rfl)
         have e2 : f1 2 = _ := hd 2 (by kernel_rfl)
         go_simp
         exact zEr
       · have e3 : f1 3 = _ := hd 3 (by kernel_rfl)
         go_simp
         exact zEr
       · have e4 : f1 4 = _ := hd 4 (by kernel_rfl)
         go_simp
         rfl
       · have e4 : f1 4 = _ := hd 4 (by kernel_rfl)
         go_simp
         rfl
       · have e4 : f1 4 = _ := hd 4 (by kernel_rfl)
         go_simp
         rfl
       · have e4 : f1 4 = _ := hd 4 (by kernel_rfl)
         go_simp
         rfl
       · have e4 : f1 4 = _ := hd 4 (by kernel_rfl)
         go_simp
         rfl
       · have e4 : f1 4 = _ := hd 4 (by kernel_rfl)
         go_simp
         rfl
       · have e4 : f1 4 = _ := hd 4 (by kernel_rfl)
         go_simp
         rfl
       · have e4 : f1 4 = _ := hd 4 (by kernel_rfl)
         go_simp
         rfl
       · have e4 : f1 4 = _ := hd 4 (by kernel_rfl)
         go_simp
         exact zEr
       · have e0 : f1 0 = _ := hd 0 (by kernel_rfl)
         go_simp
         exact zEr
       · have e13 : f1 13 = _ := hd 13 (by kernel_rfl)
         go_simp
         exact zEr
theorem tb_block {C : List (List Ent)} (L : List Ent) {k : Nat} {q : List Ent} (hq : C[k]? = some q) : offB C k + (wr q).length ≤ (tb C L).length ∧ ((tb C L).drop (offB C k)).take (wr q).length = wr q := by
 obtain ⟨hk, rfl⟩ := zLg.1 hq
 have hsp : (tb C L).drop (offB C k) = wr C[k] ++ (blks (C.drop (k + 1)) ++ (index C ++ Bl.mk (keysT L)) ++ (foot24 C L ++ be4 (Bl.crc (foot24 C L)))) := by
  have e : blks C = blks (C.take k) ++ (wr C[k] ++ blks (C.drop (k + 1))) := by
   have e1 : blks C = blks (C.take k ++ (C[k] :: C.drop (k + 1))) := by rw [← List.drop_eq_getElem_cons hk, List.take_append_drop]
   rw [e1]
   unfold blks
   rw [List.flatMap_append, List.flatMap_cons]
  unfold tb ahd offB
  rw [e]
  simp only [List.append_assoc]
  rw [List.drop_left]
 refine ⟨?_, by rw [hsp, List.take_left]⟩
 have h0 : offB C k ≤ (tb C L).length := by
  have h1 := blks_take_le C k
  have : (blks C).length ≤ (tb C L).length := by rw [tb_len]; unfold ahd; rw [List.length_append]; omega
  unfold offB; omega
 have := congrArg List.length hsp
 rw [List.length_drop, List.length_append] at this
 omega
set_option maxRecDepth 100000 in
set_option maxHeartbeats 1000000 in
theorem tblock_any {w : World} {g : Nat} {C : List (List Ent)} {L : List Ent} {fr tt : List Nat} {en : Bool} (h : TV w g C L fr tt en) {k : Nat} {q : List Ent} (hq : C[k]? = some q) (kA : Option Addr) (kl kc : Nat) (n : Int) :
    Calls Tryz.prog 44 #[.pointer (some ⟨g, 0, none⟩), .agg #[.slice kA kl kc, .int .i64 n, .int .i64 0, .slice none 0 0, .int .i64 (offB C k : Nat), .int .i64 ((wr q).length : Nat)]] w fun x w' => ∃ A c, x = .returned (.slice A (wr q).length c) ∧ Bs w' 0 w'.heap.size (.slice A (wr q).length c) (wr q) ∧ Ext w w' := by
 obtain ⟨hle, hbt⟩ := tb_block L hq
 have hf := few h.may h.cuts h.flat
 have hlen : (tb C L).length ≤ 300000028 := by rw [tb_len]; have := hf.a; omega
 obtain ⟨fA, fc, tA, tc, ⟨bv_, fv_, PA, pc, P, h1, h2, _, _, _, _⟩, _, _⟩ := h.at_
 have HBS := zHd h2
 have h2' := h2
 obtain ⟨A, c, rfl, hc, _⟩ := h2'
 unfold tbcells at h1
 obtain ⟨b, hb⟩ : ∃ b, b = offB C k := ⟨_, rfl⟩
 obtain ⟨z, hz⟩ : ∃ z, z = (wr q).length := ⟨_, rfl⟩
 obtain ⟨t, ht⟩ : ∃ t, t = tb C L := ⟨_, rfl⟩
 rw [← hb, ← hz, ← ht] at hle hbt
 rw [← ht] at hlen hc HBS h1
 rw [← hb, ← hz]
 obtain ⟨A2, hA2, hr2, _⟩ := cut_run A t.length c b (b + z) (by omega) hle hc
 have hbs := hA2 _ _ _ _ HBS.out
 rw [show b + z - b = z by omega, hbt] at hbs
 rw [show b + z - b = z by omega] at hr2
 have HB2 := zHd hbs
 have hr3 : ∀ w, (Instr.slice 22 (.slice A t.length c) (some (.int .i64 (b : Int))) (some (.int .i64 ((b : Int) + (z : Int)))) none).run Tryz.prog w = .ok (.slice A2 z (c - b)) w := fun w => by have := hr2 w; rwa [Int.natCast_add] at this
 have e1 : IntKind.i64.wrap ((b : Int) + (z : Int)) = ((b + z : Nat) : Int) := by rw [IntKind.wrap_i64]; omega
 have e2 : wrap64 ((b : Int) + (z : Int)) = ((b + z : Nat) : Int) := by unfold wrap64; omega
 obtain ⟨w1, hw1⟩ : ∃ w1, w1 = w.alloc (.cells #[.slice kA kl kc, .int .i64 n, .int .i64 0, .slice none 0 0, .int .i64 (b : Nat), .int .i64 (z : Nat)] 90) := ⟨_, rfl⟩
 have HX1 : Hid (Ext w w1) := by rw [hw1]; exact ext_alloc _ _
 have HB1 : Hid (w1.heap[w.heap.size]? = some (.cells #[.slice kA kl kc, .int .i64 n, .int .i64 0, .slice none 0 0, .int .i64 (b : Nat), .int .i64 (z : Nat)] 90 (0, 0))) := by rw [hw1]; exact heap_at _ _ rfl
 have d0 := cell_of (ext_heap HX1.out h1) (k := 0) rfl
 have c4 := cell_of HB1.out (k := 4) rfl
 have c5 := cell_of HB1.out (k := 5) rfl
 clear h hq hf h1 h2 hb hz ht hc hA2 hbs hle hbt hlen
 go_enter Tryz.func44, Tryz.ntmps44
 go_upto_region 1 with (fail)
 rw [← hw1]
 clear hw1
 go_region
 go_wp2_with fail
 go_ret
 exact ⟨A2, c - b, rfl, bs_next HB2.out (zEt HX1.out (Ext.drew _)), zEt HX1.out (Ext.drew _)⟩
end Go.Proofs.YtkdidghfcfcpfaaGreat
namespace Go.Proofs.YtkdidghfcfcpfaaGreat
theorem cmpE_keys {a b : Ent} (h : cmpE a b < 0) : cmpK a.key b.key ≤ 0 := by
 unfold cmpE at h
 split at h
 · omega
 · omega
theorem cmpK_trans_lt {a b c : List Nat} (h : cmpK a b ≤ 0) (k : cmpK b c < 0) : cmpK a c < 0 := by
 have r1 := cmpK_range a b
 have r2 := cmpK_range b c
 rcases r1 with r1 | r1 | r1
 · rw [cmpK_lt_trans r1 (by omega)]; decide
 · rw [cmpK_zero r1]; exact k
 · omega
section
variable {α : Type}
def cutOf (q : α → Bool) (L : List α) : Nat := (L.takeWhile q).length
theorem cutOf_le (q : α → Bool) (L : List α) : cutOf q L ≤ L.length := (List.takeWhile_prefix q).length_le
theorem cut_is {q : α → Bool} {L : List α} {k : Nat} (hk : k ≤ L.length) (h1 : ∀ j e, j < k → L[j]? = some e → q e = true) (h2 : ∀ e, L[k]? = some e → q e = false) : cutOf q L = k := by
 induction L generalizing k with
 | nil => simp at hk; subst hk; rfl
 | cons a l ih =>
  unfold cutOf
  cases k with
  | zero =>
   have := h2 a rfl
   rw [List.takeWhile_cons, if_neg (by simp [this])]; rfl
  | succ k =>
   have := h1 0 a (by omega) rfl
   rw [List.takeWhile_cons, if_pos this, List.length_cons]
   have := ih (k := k) (by simpa using hk) (fun j e hj he => h1 (j + 1) e (by omega) (by simpa using he)) (fun e he => h2 e (by simpa using he))
   unfold cutOf at this
   omega
end
def belowK (k : List Nat) (e : Ent) : Bool := decide (cmpK e.key k < 0)
theorem belowK_down {k : List Nat} {a b : Ent} (h : cmpE a b < 0) (hb : belowK k b = true) : belowK k a = true := by
 unfold belowK at *
 rw [decide_eq_true_eq] at *
 exact cmpK_trans_lt (cmpE_keys h) hb
end Go.Proofs.YtkdidghfcfcpfaaGreat
namespace Go.Proofs.YtkdidghfcfcpfaaGreat
open Go
def fnv (h b : Nat) : Nat := ((h ^^^ b) * 16777619) % 4294967296
def sbyte (s : Int) (j : Nat) : Nat := (s / 2 ^ (56 - 8 * j) % 256).toNat
def sbytes (s : Int) (n : Nat) : List Nat := (List.range n).map (sbyte s)
def sumK (key : List Nat) : Nat := key.foldl fnv 2166136261
def sumS (key : List Nat) (s : Int) : Nat := (sbytes s 8).foldl fnv (sumK key)
def hgt (key : List Nat) (s : Int) : Nat := min (1 + Lib.ctz 32 (sumS key s) / 2) 8
end Go.Proofs.YtkdidghfcfcpfaaGreat
namespace Go.Proofs.YtkdidghfcfcpfaaGreat
open Go.ChangeShapes Go.WideShapes Go.ChangeAt Go.RowKit
structure InE (e : Ent) : Prop where
 bk : ∀ x ∈ e.key, x < 256
 bv : ∀ x ∈ e.val, x < 256
 may : e.may = true
theorem InE.s {e : Ent} (h : InE e) : 1 ≤ e.key.length ∧ e.key.length ≤ 32 ∧ 1 ≤ e.seq ∧ e.seq ≤ 2147483647 ∧ (e.kind = 1 ∧ e.val.length ≤ 65536 ∨ e.kind = 2 ∧ e.val.length = 0) := mayN_iff.1 h.may
theorem entry_ret2 {fn : Func} {tmps : Array Value} {w : World} {g : Nat} {p q : Tmp} {c : Array Value} {k : Value} {R : Ending → World → Prop} (hr : fn.results = #[.cell p 50, .tmp q]) (h2 : tmps.getD p undef = .pointer (some ⟨g, 0, none⟩)) (h3 : tmps.getD q undef = k)
    (hc : c.size = 4) (hg : w.heap[g]? = some (.cells c 50 (0, 0))) (h : R (.returned (.tuple #[.agg c, k])) w) : bodyPost Tryz.prog fn R .ret { tmps := tmps, defers := [] } w := by
 refine ⟨rfl, .tuple #[.agg c, k], ?_, h⟩
 have hi : (Tryz.prog.info? 50).map (·.size) = some 4 := by kernel_rfl
 have hl := run_loadVar_row (P := Tryz.prog) w g 50 50 c (0, 0) _ hg Tryz.underlying50 rfl (by rw [hc]; exact hi)
 have ha : (asAddr (.pointer (some ⟨g, 0, none⟩))).run Tryz.prog w = .ok ⟨g, 0, none⟩ w := rfl
 rw [results_cell_tmp hr, h2, h3, ha, Result.andThen_ok, hl, Result.andThen_ok]
set_option maxRecDepth 100000 in
set_option maxHeartbeats 4000000 in
theorem rfrom_any {w : World} {lo hi lo2 hi2 : Nat} {A : Option Addr} {c : Nat} {R : List (Ent × Hd)} {v : Value} {key : List Nat} (h : Es w lo hi A R) (hhi : hi ≤ w.heap.size) (hc : R.length ≤ c) (hlen : R.length ≤ 1000000) (hkl : ∀ p ∈ R, p.1.key.length ≤ 140737488351232)
    (hk : Bs w lo2 hi2 v key) (hhi2 : hi2 ≤ w.heap.size) (bk : ∀ x ∈ key, x < 256) (hl : key.length ≤ 140737488351232) :
    Calls Tryz.prog 26 #[.slice A R.length c, v] w fun e w' => ∃ (X : Option Addr) (d : Nat), e = .returned (.slice X (R.drop (cutOf (belowK key) (R.map Prod.fst))).length d) ∧ Es w lo hi X (R.drop (cutOf (belowK key) (R.map Prod.fst))) ∧ Ext w w' := by
 have HE := zHd h
 have HHI := zHd hhi
 have HC := zHd hc
 have HK := zHd hk
 have HHI2 := zHd hhi2
 have HBK := zHd bk
 have HL := zHd hl
 have HKL := zHd hkl
 have hlI : (R.length : Int) ≤ 1000000 := by omega
 clear h hhi hc hk hhi2 bk hl hkl
 go_enter Tryz.func26, Tryz.ntmps26
 go_wp2_with fail
 go_loopw [5] (fun i wr => ∃ k : Nat, k ≤ R.length ∧ i = .int .i64 (k : Int) ∧ Hid (∀ j e, j < k → (R.map Prod.fst)[j]? = some e → belowK key e = true) ∧ Hid (Ext w wr)) (fun i _ => R.length - (intOf i).toNat)
 case atStart => exact ⟨0, Nat.zero_le _, rfl, zHd (fun j _ hj => by omega), zHd (Ext.refl _)⟩
 case round =>
  obtain ⟨k, hk, rfl, HJ, HX⟩ := hrel
  by_cases hlt : k < R.length
  · have d : decide ((k : Int) < (R.length : Int)) = true := decide_eq_true (by omega)
    have dn : decide (k < R.length) = true := decide_eq_true hlt
    obtain ⟨b, o, hA⟩ := HE.out.base (by omega)
    obtain ⟨X, hX⟩ : ∃ X : Option Addr, X = if c = k then A else Option.map (fun q : Addr => q.add (k * 4)) A := ⟨_, rfl⟩
    have HS := zHd (fun W => eslice_from A R.length c k hk HC.out W)
    rw [← hX] at HS
    have HEX : Hid (Es w lo hi X (R.drop k)) := by rw [hX]; exact HE.out.drop hk HC.out
    subst hA
    clear hX
    obtain ⟨p, hp⟩ : ∃ p, R[k]? = some p := ⟨_, List.getElem?_eq_getElem hlt⟩
    obtain ⟨c0, c1, c2, c3⟩ := (HE.out.below HX.out HHI.out).get hp
    have HP := zHd hp
    have n1 : (0 : Int) ≤ (k : Int) := by omega
    have n2 : (k : Int) < (R.length : Int) := by omega
    have HLT := zHd hlt
    have hem := (HE.out.below HX.out HHI.out).each p (List.mem_of_getElem? hp)
    have HCM := zHd (rkeys_any hem.k (HK.out.below HX.out HHI2.out) hem.bk HBK.out (zNt HHI.out HX.out.size) (zNt HHI2.out HX.out.size) (HKL.out p (List.mem_of_getElem? hp)) HL.out)
    obtain ⟨s, hs⟩ : ∃ s, s = cmpK p.1.key key := ⟨_, rfl⟩
    have HSS := zHd hs
    rw [← hs] at HCM
    obtain ⟨y, hy⟩ : ∃ y, y = decide (0 ≤ s) := ⟨_, rfl⟩
    have HY := zHd hy
    have hyn : decide (s < 0) = !y := by rw [hy]; by_cases h : s < 0 <;> simp [h] <;> omega
    have hys := hy.symm
    clear hp hlt hem hs hy
    go_wp2_with fail
    refine HCM.out.mono ?_
    rintro e w1 ⟨rfl, hx1⟩
    have HX1 : Hid (Ext w w1) := zEt HX.out hx1
    clear hx1 HCM c0 c1 c2 c3
    cases y with
    | true =>
     have HCUT : Hid (cutOf (belowK key) (R.map Prod.fst) = k) := cut_is (by rw [List.length_map]; omega) HJ.out (fun e he => by
      rw [List.getElem?_map, HP.out] at he; injection he with he; subst he
      unfold belowK; rw [← HSS.out]; exact decide_eq_false (by have := of_decide_eq_true hys; omega))
     have hsl := HS.out
     clear hyn
     go_wp2_with fail
     go_ret
     refine ⟨X, c - k, ?_, ?_, HX1.out⟩
     · rw [HCUT.out, List.length_drop]; rfl
     · rw [HCUT.out]; exact HEX.out
    | false =>
     go_wp2_with fail
     go_roundw
     case rel =>
      refine ⟨k + 1, by have := HLT.out; omega, by go_num, zHd (fun j e hj he => ?_), HX1⟩
      by_cases hjk : j = k
      · subst hjk
        rw [List.getElem?_map, HP.out] at he; injection he with he; subst he
        unfold belowK; rw [← HSS.out]; exact decide_eq_true (by have := of_decide_eq_false hys; omega)
      · exact HJ.out j e (by omega) he
     case measure => have := HLT.out; simp [intOf]; omega
  · have d : decide ((k : Int) < (R.length : Int)) = false := decide_eq_false (by omega)
    have dn : decide (k < R.length) = false := decide_eq_false hlt
    have HCUT : Hid (R.drop (cutOf (belowK key) (R.map Prod.fst)) = []) := by
     have h1 : cutOf (belowK key) (R.map Prod.fst) = R.length := cut_is (by rw [List.length_map]; omega) (fun j e hj he => HJ.out j e (by omega) he) (fun e he => by
      rw [List.getElem?_eq_none (by rw [List.length_map]; exact zNr _)] at he; cases he)
     unfold Hid; rw [h1]; exact List.drop_length ..
    clear hlt hk
    go_wp2_with fail
    go_ret
    refine ⟨none, 0, ?_, ?_, HX.out⟩
    · rw [HCUT.out]; rfl
    · rw [HCUT.out]; exact ⟨Sl.nil _ _ _ _, fun p hp => by cases hp⟩
def seenE (k : List Nat) (s : Int) (e : Ent) : Bool := decide (e.key = k) && decide (e.seq ≤ s)
def BGetAns (w : World) (b key : List Nat) (s : Int) (x : Ending) (w' : World) : Prop :=
 Ext w w' ∧ ((∀ L, ¬ IsB b L) ∧ x = .returned (.tuple #[noE, .int .i64 4]) ∨ ∃ L, IsB b L ∧ match L.find? (seenE key s) with
  | some e => ∃ g : Hd, x = .returned (.tuple #[e.at_ g, .int .i64 0]) ∧ Em w' 0 w'.heap.size e g
  | none => x = .returned (.tuple #[noE, .int .i64 6]))
theorem cut_find {L : List Ent} {key : List Nat} {s : Int} {n : Nat} (hr : Rise L) (h : Cut L ⟨key, s, 0, []⟩ n) : L.find? (seenE key s) = if h : n < L.length then (if L[n].key = key then some L[n] else none) else none := by
 have hahead : ∀ j a, j < n → L[j]? = some a → seenE key s a = false := fun j a hj ha => by
  have h1 := h.lo j a hj ha
  unfold seenE
  rw [Bool.and_eq_false_iff]
  by_cases hk : a.key = key
  · right
    rw [decide_eq_false_iff_not]
    intro hs
    unfold cmpE at h1
    rw [if_pos (by rw [hk]; exact cmpK_self _)] at h1
    unfold cmpS at h1
    dsimp only at h1
    split at h1
    · omega
    · split at h1 <;> omega
  · left; exact decide_eq_false hk
 have hsplit : L.find? (seenE key s) = (L.drop n).find? (seenE key s) := by
  conv => lhs; rw [← List.take_append_drop n L]
  rw [List.find?_append]
  have : (L.take n).find? (seenE key s) = none := by
   rw [List.find?_eq_none]
   intro a ha
   obtain ⟨j, hj, rfl⟩ := List.getElem_of_mem ha
   rw [List.length_take] at hj
   rw [List.getElem_take, hahead j _ (by omega) (List.getElem?_eq_getElem (by omega))]
   decide
  rw [this]; rfl
 rw [hsplit]
 split
 · rename_i hn
   rw [List.drop_eq_getElem_cons hn, List.find?_cons]
   have h1 := h.hi n L[n] (zNr _) (List.getElem?_eq_getElem hn)
   by_cases hk : L[n].key = key
   · rw [if_pos hk]
     have : seenE key s L[n] = true := by
      unfold seenE
      rw [Bool.and_eq_true, decide_eq_true_eq, decide_eq_true_eq]
      refine ⟨hk, ?_⟩
      unfold cmpE at h1
      rw [if_pos (by rw [hk]; exact cmpK_self _)] at h1
      unfold cmpS at h1
      dsimp only at h1
      split at h1
      · omega
      · split at h1 <;> omega
     rw [this]
   · rw [if_neg hk]
     have h0 : seenE key s L[n] = false := by
      unfold seenE
      rw [Bool.and_eq_false_iff]; left; exact decide_eq_false hk
     rw [h0]
     show (L.drop (n + 1)).find? (seenE key s) = none
     rw [List.find?_eq_none]
     intro a ha hs
     obtain ⟨j, hj, rfl⟩ := List.getElem_of_mem ha
     rw [List.length_drop] at hj
     rw [List.getElem_drop] at hs
     have h2 := rise_at hr (show n < n + 1 + j by omega) (List.getElem?_eq_getElem hn) (List.getElem?_eq_getElem (show n + 1 + j < L.length by omega))
     unfold seenE at hs
     rw [Bool.and_eq_true, decide_eq_true_eq] at hs
     unfold cmpE at h1 h2
     dsimp only at h1
     rw [hs.1] at h2
     split at h1
     · rename_i h3; exact hk (cmpK_zero h3)
     · rename_i h3
       rw [if_neg h3] at h2
       omega
 · rename_i hn
   rw [List.drop_eq_nil_of_le (by omega)]; rfl
theorem chg_four (g : Nat) (w1 : World) (a b c d : Value) : Chg (fun i => i = g) w1 ((((w1.setCell ⟨g, 0, none⟩ a).setCell ⟨g, 1, none⟩ b).setCell ⟨g, 2, none⟩ c).setCell ⟨g, 3, none⟩ d) :=
 (((Chg.setCell (S := fun i => i = g) w1 ⟨g, 0, none⟩ a rfl).trans (Chg.setCell _ ⟨g, 1, none⟩ b rfl)).trans (Chg.setCell _ ⟨g, 2, none⟩ c rfl)).trans (Chg.setCell _ ⟨g, 3, none⟩ d rfl)
theorem get_four {w w1 : World} (h : Ext w w1) (a b c d : Value) : Ext w ((((w1.setCell ⟨w.heap.size, 0, none⟩ a).setCell ⟨w.heap.size, 1, none⟩ b).setCell ⟨w.heap.size, 2, none⟩ c).setCell ⟨w.heap.size, 3, none⟩ d) :=
 Below.trans h ((((Chg.setCell (S := fun i => i = w.heap.size) w1 ⟨w.heap.size, 0, none⟩ a rfl).trans (Chg.setCell _ ⟨w.heap.size, 1, none⟩ b rfl)).trans (Chg.setCell _ ⟨w.heap.size, 2, none⟩ c rfl)).trans (Chg.setCell _ ⟨w.heap.size, 3, none⟩ d rfl) |>.below (fun i e => by omega) h.size)
set_option maxRecDepth 100000 in
set_option maxHeartbeats 8000000 in
theorem bget_any {w : World} {lo hi lo2 hi2 kc : Nat} {v : Value} {kA : Option Addr} {b key : List Nat} {s : Int} (hv : Bs w lo hi v b) (hhi : hi ≤ w.heap.size) (hb : ∀ x ∈ b, x < 256) (hl : b.length ≤ 1000000000) (hk : Bs w lo2 hi2 (.slice kA key.length kc) key) (hhi2 : hi2 ≤ w.heap.size) (bk : ∀ x ∈ key, x < 256) (hs1 : -9223372036854775808 ≤ s) (hs2 : s ≤ 9223372036854775807) :
    Calls Tryz.prog 52 #[v, .slice kA key.length kc, .int .i64 s] w (BGetAns w b key s) := by
 obtain ⟨w1, hw1⟩ : ∃ w1, w1 = w.alloc (.cells #[.slice none 0 0, .int .i64 0, .int .i64 0, .slice none 0 0] 50) := ⟨_, rfl⟩
 have HX1 : Hid (Ext w w1) := by rw [hw1]; exact ext_alloc _ _
 have HB1 : Hid (w1.heap[w.heap.size]? = some (.cells #[.slice none 0 0, .int .i64 0, .int .i64 0, .slice none 0 0] 50 (0, 0))) := by rw [hw1]; exact heap_at _ _ rfl
 have HZ1 : Hid (w1.heap.size = w.heap.size + 1) := by rw [hw1]; simp [Hid]
 have HR := zHd (bread_any (hv.below HX1.out hhi) (zNt hhi HX1.out.size) hb hl)
 have HK := zHd hk
 have HH := zHd hhi2
 have HBK := zHd bk
 have HS := zHd (And.intro hs1 hs2)
 obtain ⟨A, c, rfl, _, _, _, _⟩ := hv
 clear hhi hb hl hk hhi2 bk hs1 hs2
 go_enter Tryz.func52, Tryz.ntmps52
 go_wp2_with fail
 rw [← hw1]
 clear hw1
 refine HR.out.mono ?_
 rintro x w2 ⟨hx2, (⟨R, X, cR, his, rfl, hgot⟩ | ⟨hno, rfl⟩)⟩
 rotate_left
 · have HX2 := zHd (zEt HX1.out hx2)
   have HB2 : Hid (w2.heap[w.heap.size]? = some (.cells #[.slice none 0 0, .int .i64 0, .int .i64 0, .slice none 0 0] 50 (0, 0))) := ext_heap hx2 HB1.out
   have HNO := zHd hno
   clear hx2 hno
   have c0 := cell_of HB2.out (k := 0) rfl
   have c1 := cell_of HB2.out (k := 1) rfl
   have c2 := cell_of HB2.out (k := 2) rfl
   have c3 := cell_of HB2.out (k := 3) rfl
   have z0 := frozen_four (j := 0) HB2.out
   have z1 := frozen_four (j := 1) HB2.out
   have z2 := frozen_four (j := 2) HB2.out
   have z3 := frozen_four (j := 3) HB2.out
   go_wp2_with fail
   refine entry_ret2 rfl rfl rfl rfl (set_four HB2.out) ?_
   exact ⟨get_four HX2.out _ _ _ _, .inl ⟨HNO.out, rfl⟩⟩
 have HX2 := zHd (zEt HX1.out hx2)
 have HX12 := zHd hx2
 have HB2 : Hid (w2.heap[w.heap.size]? = some (.cells #[.slice none 0 0, .int .i64 0, .int .i64 0, .slice none 0 0] 50 (0, 0))) := ext_heap hx2 HB1.out
 have HIS := zHd his
 have HG := zHd hgot
 have HRL : Hid (1 ≤ R.length ∧ R.length ≤ 1024) := by have h1 := his.1.1; have h2 := his.1.2.1; rw [List.length_map] at h1 h2; exact ⟨h1, h2⟩
 have HFI := zHd (first_any (c := cR) (x := ⟨key, s, 0, []⟩) (g := ⟨kA, kc, none, 0⟩) (lo2 := 0) (hi2 := w2.heap.size) hgot.rs (zNr _) HRL.out.2 his.1.2.2.1 ⟨(HK.out.below (zEt HX1.out hx2) HH.out).wide (Nat.zero_le _) (zNt HH.out (zEt HX1.out hx2).size), Bs.nil _ _ _, HBK.out, by simp, HS.out.1, HS.out.2, (by show (-9223372036854775808 : Int) ≤ 0; decide), (by show (0 : Int) ≤ 9223372036854775807; decide)⟩ (zNr _))
 clear hx2 his hgot
 go_wp2_with fail
 refine HFI.out.mono ?_
 rintro x w3 ⟨n, hcut, rfl, hx3⟩
 have HX3 := zHd (zEt HX2.out hx3)
 have HX23 := zHd hx3
 have HB3 : Hid (w3.heap[w.heap.size]? = some (.cells #[.slice none 0 0, .int .i64 0, .int .i64 0, .slice none 0 0] 50 (0, 0))) := ext_heap hx3 HB2.out
 have HG3 := zHd (HG.out.below hx3)
 have HF := zHd (cut_find HIS.out.1.2.2.1 hcut)
 have hnle := hcut.le
 rw [List.length_map] at hnle
 have c0 := cell_of HB3.out (k := 0) rfl
 have c1 := cell_of HB3.out (k := 1) rfl
 have c2 := cell_of HB3.out (k := 2) rfl
 have c3 := cell_of HB3.out (k := 3) rfl
 have z0 := frozen_four (j := 0) HB3.out
 have z1 := frozen_four (j := 1) HB3.out
 have z2 := frozen_four (j := 2) HB3.out
 have z3 := frozen_four (j := 3) HB3.out
 clear hx3 hcut
 by_cases hn : n = R.length
 · have d : ((n : Int) == (R.length : Int)) = true := by rw [beq_iff_eq, hn]
   have dn : (n == R.length) = true := by rw [beq_iff_eq, hn]
   have HN := zHd hn
   clear hn hnle
   go_wp2_with fail
   refine entry_ret2 rfl rfl rfl rfl (set_four HB3.out) ?_
   refine ⟨get_four HX3.out _ _ _ _, .inr ⟨_, HIS.out, ?_⟩⟩
   have h1 := HF.out
   rw [dif_neg (by rw [List.length_map]; have := HN.out; omega)] at h1
   rw [h1]
   rfl
 · have d : ((n : Int) == (R.length : Int)) = false := by rw [beq_eq_false_iff_ne]; omega
   have dn : (n == R.length) = false := by rw [beq_eq_false_iff_ne]; exact hn
   have hlt : n < R.length := by omega
   obtain ⟨p, hp⟩ : ∃ p, R[n]? = some p := ⟨_, List.getElem?_eq_getElem hlt⟩
   have HP := zHd hp
   have HLT := zHd hlt
   obtain ⟨bb, oo, rfl⟩ := HG3.out.rs.base (by omega)
   obtain ⟨p0, p1, p2, p3⟩ := HG3.out.rs.get hp
   have n1 : (0 : Int) ≤ (n : Int) := Int.natCast_nonneg _
   have n2 : (n : Int) < (R.length : Int) := Int.ofNat_lt.2 hlt
   have HKC := zHd (keys_any (HG3.out.rs.each p (List.mem_of_getElem? hp)).k (HK.out.below HX3.out HH.out) (HG3.out.rs.each p (List.mem_of_getElem? hp)).bk HBK.out)
   have HFP : Hid ((R.map Prod.fst).find? (seenE key s) = if p.1.key = key then some p.1 else none) := by
    have h1 := HF.out
    rw [dif_pos (by rw [List.length_map]; exact hlt)] at h1
    have h2 : (R.map Prod.fst)[n]'(by rw [List.length_map]; exact hlt) = p.1 := by rw [List.getElem_map]; rw [List.getElem?_eq_getElem hlt] at hp; injection hp with hp; rw [hp]
    rw [h2] at h1
    exact h1
   clear hn hnle hlt hp
   go_wp2_with fail
   refine HKC.out.mono ?_
   rintro x w4 ⟨rfl, rfl⟩
   by_cases hk : p.1.key = key
   · have dk : (cmpK p.1.key key != 0) = false := by rw [hk, cmpK_self]; rfl
     have HKE := zHd hk
     clear hk
     go_wp2_with fail
     refine entry_ret2 rfl rfl rfl rfl (set_four HB3.out) ?_
     refine ⟨get_four HX3.out _ _ _ _, .inr ⟨_, HIS.out, ?_⟩⟩
     rw [HFP.out, if_pos HKE.out]
     refine ⟨p.2, rfl, ?_⟩
     have hm := HG3.out.each p (List.mem_of_getElem? HP.out)
     exact (hm.chg (chg_four _ _ _ _ _ _) (fun k hk e => by have := HZ1.out; omega)).em
   · have dk : (cmpK p.1.key key != 0) = true := by rw [bne_iff_ne]; exact fun h => hk (cmpK_zero h)
     have HKE := zHd hk
     clear hk
     go_wp2_with fail
     refine entry_ret2 rfl rfl rfl rfl (set_four HB3.out) ?_
     refine ⟨get_four HX3.out _ _ _ _, .inr ⟨_, HIS.out, ?_⟩⟩
     rw [HFP.out, if_neg HKE.out]
     rfl
end Go.Proofs.YtkdidghfcfcpfaaGreat
