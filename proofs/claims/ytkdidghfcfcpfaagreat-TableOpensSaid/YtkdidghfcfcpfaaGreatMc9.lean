import Derived.Test.YtkdidghfcfcpfaaGreatMc5
import Derived.Test.YtkdidghfcfcpfaaGreatMc4
import Derived.Test.YtkdidghfcfcpfaaGreatMc6
import Derived.RangeFuncLeaves
import Derived.Defers
import Derived.Recover
import Derived.Test.YtkdidghfcfcpfaaGreatMc8
import Derived.Test.YtkdidghfcfcpfaaGreatMc7
import Derived.OwnWalk
import Derived.Test.YtkdidghfcfcpfaaGreatMc0
namespace Go.Proofs.YtkdidghfcfcpfaaGreat
open Go.ChangeShapes Go.WideShapes Go.ChangeAt Go.RowKit
theorem enters_entries1 : ∀ args w, (callFunc 155 args).run Tryz.prog w = .ok (.enter 155 args) w := enters_of Tryz.func155 (by kernel_rfl) rfl
def Free (D : Nat → Prop) (v : Value) : Prop := ∀ b, v.ownBlock = some b → ¬ D b
def entV (x : Ent × Hd) : Array Value := #[x.1.at_ x.2]
def EntOk (w : World) (bd : List Nat) (D _K : Nat → Prop) (k : Nat) (x : Ent × Hd) (A : World) : Prop :=
 (∀ L, BodyIs L bd → L[k]? = some x.1) ∧ Mine w.heap.size x A ∧ Free D (.slice x.2.kA x.1.key.length x.2.kc) ∧ Free D (.slice x.2.vA x.1.val.length x.2.vc)
def EntDone (bd : List Nat) (k : Nat) : Prop := ∀ L, BodyIs L bd → L.length = k
def EntPan (bd : List Nat) (_k : Nat) (ch : List PanicEntry) : Prop := ch = gaveUp ∧ ∀ L, ¬ BodyIs L bd
def leftAt (r : Nat) (w : World) : Nat := match w.cell? ⟨r, 0, none⟩ with | some (.slice _ n _) => n | _ => 0
theorem Rd.left {w : World} {r lo hi : Nat} {l : List Nat} (h : Rd w r lo hi l) : leftAt r w = l.length := by
 obtain ⟨v, h1, A, c, rfl, _⟩ := h.ex
 unfold leftAt
 rw [h1.c0]
theorem Rd.stepK {w w' : World} {r lo hi : Nat} {l : List Nat} {K : Nat → Prop} (h : Rd w r lo hi l) (hs : StepK K w w') (hr : K r) (hk : ∀ i, lo ≤ i → i < hi → K i) : Rd w' r lo hi l := by
 obtain ⟨v, h1, h2⟩ := h.ex
 exact ⟨⟨v, (hs.stay r hr h1.lt).trans h1, h2.of fun _ h3 => Sl.keep h3 fun p h4 h5 => World.cell?_of_block (hs.stay p.block (hk _ h4 h5) (Nat.lt_of_lt_of_le h5 h.top))⟩, h.apart, zNt h.top hs.size, h.byt⟩
structure KeyAt (W : World) (r : Nat) (K : Nat → Prop) (v : Value) (ah : List Nat) (wr : World) : Prop where
 ex : ∃ lo hi, Bs wr lo hi v ah ∧ hi ≤ wr.heap.size ∧ (r < lo ∨ hi ≤ r) ∧ ∀ i, lo ≤ i → i < hi → K i
 byt : ∀ x ∈ ah, x < 256
set_option maxRecDepth 100000 in
set_option maxHeartbeats 8000000 in
theorem entries_iter {w : World} {lo hi bb c : Nat} {A : Option Addr} {bd : List Nat} (h : Bs w lo hi (.slice A bd.length c) bd) (hhi : hi ≤ w.heap.size) (hb : ∀ x ∈ bd, x < 256) (hl : bd.length ≤ 1000000000) (hbb : w.cell? ⟨bb, 0, none⟩ = some (.slice A bd.length c)) :
    IterP Tryz.prog 155 #[.pointer (some ⟨bb, 0, none⟩)] entV (EntOk w bd) (EntDone bd) (EntPan bd) (fun _ => True) w := by
 intro mm lab J Jx W hx _ hJ h0 hY
 have HO := zHd (open_any _ lo hi bd W (h.below hx hhi) (zNt hhi hx.size) (by omega) hb)
 have HL := zHd hl
 have HXW := zHd hx.size
 have HJ := zHd hJ
 have HJ0 := zHd h0
 have HY := zHd hY
 have c1 := ext_cell hx hbb
 clear h hhi hb hl hbb hJ h0 hY hx
 refine (callsIn_wide (n := 6)).1 ?_
 refine callsIn_of_wp Tryz.func155 rfl trivial ?_ rfl
 simp only [Tryz.ntmps155, List.size_toArray, List.length_cons, List.length_nil, Nat.reduceAdd, Nat.reduceSub, Array.replicate_succ, Array.replicate_zero, List.push_toArray, List.append_toArray, List.nil_append, List.cons_append]
 refine wpIn_wide.2 ?_
 go_wp2_with fail
 refine HO.out.mono ?_
 rintro x W1 ⟨r, rlo, rhi, rfl, hrd, hr, hlo, hb2⟩
 have HX1 : Hid (Ext W W1) := hb2
 have HRW := zHd (And.intro hr hlo)
 have HRD := zHd hrd
 have HRL := zHd hrd.lt
 have HJ1 : Hid (J (fun i => i = r) (fun i => W.heap.size ≤ i ∧ i < W1.heap.size) 0 W1) := HJ0.out W1 _ _ hb2 (fun i e => by rw [e]; exact hr) (fun i e => e.1)
 clear hrd hr hlo hb2 c1 HO
 go_wp2_with fail
 go_loopw [4] (fun v wr => ∃ (k : Nat) (ah l : List Nat) (K : Nat → Prop) (kA : Option Addr) (kc : Nat), v = .slice kA ah.length kc ∧ Hid (Ahead bd k ah l) ∧ Hid (Rd wr r rlo rhi l) ∧ Hid (l.length ≤ bd.length ∧ ah.length + 32 * l.length ≤ 32 * bd.length) ∧ Hid (KeyAt W r K (.slice kA ah.length kc) ah wr) ∧ Hid (J (fun i => i = r) K k wr) ∧ Hid (K r ∧ (∀ i, rlo ≤ i → i < rhi → K i) ∧ (∀ i, K i → W.heap.size ≤ i ∧ i < wr.heap.size)) ∧ Hid (W1.heap.size ≤ wr.heap.size))
  (fun _ wr => leftAt r wr)
 case atStart => exact ⟨0, [], bd, _, none, 0, rfl, Ahead.start bd, HRD, ⟨zNr _, by simp⟩, ⟨⟨0, 0, Bs.nil _ _ _, Nat.zero_le _, .inr (Nat.zero_le _), fun i _ h => absurd h (by omega)⟩, by simp⟩, HJ1, ⟨⟨HRW.out.1, HRL.out⟩, fun i h1 h2 => ⟨zNt HRW.out.2 h1, Nat.lt_of_lt_of_le h2 HRD.out.top⟩, fun i h => h⟩, zNr _⟩
 case round =>
  obtain ⟨k, ah, l, K, kA, kc, rfl, HAH, HRD1, HLL, HKEY, HJK, HK, HSZ⟩ := hrel
  have HLEFT := zHd (left_any r rlo rhi l wr HRD1.out)
  by_cases hl0 : l = []
  · have d : decide ((0 : Int) < (l.length : Int)) = false := by rw [hl0]; rfl
    have dn : decide (0 < l.length) = false := by rw [hl0]; rfl
    have HL0 := zHd hl0
    clear hl0
    go_wp2_with fail
    refine HLEFT.out.mono ?_
    rintro x w2 ⟨rfl, rfl⟩
    go_wp2_with fail
    refine ⟨rfl, _, results_none rfl _ _ _, .inl ⟨⟨_, rfl⟩, .inl ⟨_, _, k, HJK.out, fun L hL => ?_⟩⟩⟩
    have h1 := HAH.out
    rw [HL0.out] at h1
    exact h1.ends hL
  · have hpos := List.length_pos_iff.2 hl0
    have d : decide ((0 : Int) < (l.length : Int)) = true := by rw [decide_eq_true_eq]; omega
    have dn : decide (0 < l.length) = true := by rw [decide_eq_true_eq]; exact hpos
    have HL0 := zHd hl0
    clear hl0 hpos
    go_wp2_with fail
    refine HLEFT.out.mono ?_
    rintro x w2 ⟨rfl, rfl⟩
    go_wp2_with fail
    obtain ⟨lo2, hi2, hbs, hh2, hr2, hk2⟩ := HKEY.out.ex
    refine (next_any HRD1.out hbs hh2 hr2 HKEY.out.byt (by have := HLL.out; have := HL.out; omega) (by have := HLL.out; have := HL.out; omega)).mono ?_
    clear hbs hh2 hr2 hk2
    rintro x w2 ⟨hg, (⟨e, g, rest, rfl, hrd, hlt, hk32, hm, hst⟩ | ⟨rfl, hno⟩)⟩
    · have HG2 := zHd hg
      have HRD2 := zHd hrd
      have HLT := zHd hlt
      have HK32 := zHd hk32
      have HM := zHd hm
      have HNX := zHd (HAH.out.next HL0.out hst)
      clear hg hrd hlt hk32 hm hst
      obtain ⟨w3, hw3⟩ : ∃ w3, w3 = w2.alloc (.cells #[.slice g.kA e.key.length g.kc, .int .i64 e.seq, .int .i64 e.kind, .slice g.vA e.val.length g.vc] 50) := ⟨_, rfl⟩
      have HX3 : Hid (Ext w2 w3) := by rw [hw3]; exact ext_alloc _ _
      have HE3 : Hid (w3.heap[w2.heap.size]? = some (.cells #[.slice g.kA e.key.length g.kc, .int .i64 e.seq, .int .i64 e.kind, .slice g.vA e.val.length g.vc] 50 (0, 0))) := by rw [hw3]; exact heap_at _ _ rfl
      have HZ3 : Hid (w3.heap.size = w2.heap.size + 1) := by rw [hw3]; simp [Hid]
      have HM3 : Hid (Mine wr.heap.size (e, g) w3) := HM.out.below HX3.out
      have HCH : Hid (Chg (fun i => i = r) wr w3) := (Chg.grown (S := fun i => i = r) HG2.out (fun k hk => by injection hk with hk; exact hk.symm)).trans (Chg.of_ext HX3.out)
      obtain ⟨K3, hK3⟩ : ∃ K3 : Nat → Prop, K3 = fun i => K i ∨ (wr.heap.size ≤ i ∧ i < w3.heap.size) := ⟨_, rfl⟩
      have HKK : Hid (∀ i, K3 i ↔ K i ∨ (wr.heap.size ≤ i ∧ i < w3.heap.size)) := by rw [hK3]; exact fun i => Iff.rfl
      have HJ3 : Hid (J (fun i => i = r) K3 k w3) := HJ.out _ _ _ _ _ _ _ HJK.out HCH.out (fun i h => .inl h) (fun i h => by rcases (HKK.out i).1 h with h | h; exact .inl h; exact .inr h.1)
      have HRWR : Hid (r < wr.heap.size ∧ W.heap.size ≤ wr.heap.size) := ⟨HRD1.out.lt, by have := HX1.out.size; have := HSZ.out; omega⟩
      clear hK3
      have hok : EntOk w bd (fun i => i = r) K3 k (e, g) w3 := by
       refine ⟨HNX.out.2, HM3.out.base (zNt HXW.out HRWR.out.2), fun b hb e => ?_, fun b hb e => ?_⟩
       · have := (row_lt HM3.out.k b hb).1; have := HRWR.out.1; omega
       · have := (row_lt HM3.out.v b hb).1; have := HRWR.out.1; omega
      obtain ⟨fn, tmps, assign, body, hy, hR⟩ := HY.out (fun i => i = r) K3 k (e, g) w3 (fun i h => by rw [h]; exact ⟨HRW.out.1, by have := HCH.out.size; have := HRWR.out.1; omega⟩) (fun i h => by have hz := HCH.out.size; rcases (HKK.out i).1 h with h | h; exact ⟨(HK.out.2.2 i h).1, Nat.lt_of_lt_of_le (HK.out.2.2 i h).2 hz⟩; exact ⟨zNt HRWR.out.2 h.1, h.2⟩) HJ3.out hok
      dsimp only [entV, Ent.at_] at hy
      have HR := zHd (roundIn_any (m' := 5) hR)
      have e0 := cell_of HE3.out (k := 0) rfl
      have e1 := cell_of HE3.out (k := 1) rfl
      have e2 := cell_of HE3.out (k := 2) rfl
      have e3 := cell_of HE3.out (k := 3) rfl
      clear hR hok d dn
      dsimp only [Ent.at_]
      go_upto_region 4 with (fail)
      rw [← hw3]
      clear hw3
      refine (wpIn_wide (n := 6)).1 ?_
      gi_wp2
      refine RoundIn.mono HR.out ?_
      rintro x A' ⟨hst, (⟨rfl, hj⟩ | ⟨rfl, hjx⟩)⟩
      · have hpb : ∀ i, wr.heap.size ≤ i → i < w3.heap.size → A'.heap[i]? = w3.heap[i]? := fun i h1 h2 => hst.stay i ((HKK.out i).2 (.inr ⟨h1, h2⟩)) h2
        have HE9 : Hid (A'.heap[w2.heap.size]? = some (.cells #[.slice g.kA e.key.length g.kc, .int .i64 e.seq, .int .i64 e.kind, .slice g.vA e.val.length g.vc] 50 (0, 0))) := (hpb _ HG2.out.size (by have := HZ3.out; omega)).trans HE3.out
        have HRD3 : Hid (Rd w3 r rlo rhi rest) := HRD2.out.below HX3.out HRD2.out.top HRD2.out.lt
        have HRD9 : Hid (Rd A' r rlo rhi rest) := HRD3.out.stepK hst ((HKK.out _).2 (.inl HK.out.1)) (fun i h1 h2 => (HKK.out i).2 (.inl (HK.out.2.1 i h1 h2)))
        have HK9 : Hid (Own wr.heap.size e.key (.slice g.kA e.key.length g.kc) A') := HM3.out.k.wall fun b hb => hpb b (row_lt HM3.out.k b hb).1 (row_lt HM3.out.k b hb).2
        have HKEY9 : Hid (KeyAt W r K3 (.slice g.kA e.key.length g.kc) e.key A') := by
         refine ⟨⟨wr.heap.size, w3.heap.size, ?_, hst.size, .inl HRWR.out.1, fun i h1 h2 => (HKK.out i).2 (.inr ⟨h1, h2⟩)⟩, HM.out.good.bk⟩
         exact (Bs.of_own HM3.out.k).of fun _ h3 => Sl.keep h3 fun p h4 h5 => World.cell?_of_block (hpb p.block h4 h5)
        have HJ9 := zHd hj
        have HSA : Hid (w3.heap.size ≤ A'.heap.size) := hst.size
        have HS9 : Hid (W1.heap.size ≤ A'.heap.size) := by have := hst.size; have := HSZ.out; have := HG2.out.size; have := HZ3.out; unfold Hid; omega
        have q0 := cell_of HE9.out (k := 0) rfl
        clear hst hj hy hpb e0 e1 e2 e3
        gi_wp2
        go_wp2_with fail
        refine ⟨⟨k + 1, e.key, rest, K3, g.kA, g.kc, rfl, HNX.out.1, HRD9, ?_, HKEY9, HJ9, ⟨(HKK.out _).2 (.inl HK.out.1), fun i h1 h2 => (HKK.out i).2 (.inl (HK.out.2.1 i h1 h2)), fun i h => ?_⟩, HS9⟩, ?_⟩
        · have := HLT.out; have := HLL.out; have := HK32.out; unfold Hid; omega
        · have hz := HCH.out.size
          have hz2 := HSA.out
          rcases (HKK.out i).1 h with h | h
          · have := HK.out.2.2 i h; omega
          · have := HRWR.out.2; omega
        · rw [HRD9.out.left, HRD1.out.left]; exact HLT.out
      · have HX9 := zHd hjx
        clear hst hjx hy e0 e1 e2 e3
        gi_wp2
        go_wp2_with fail
        refine bodyPost_ret (results_none rfl _ _ _) rfl ?_
        exact .inl ⟨⟨_, rfl⟩, .inr HX9.out⟩
    · have hJ2 := HJ.out _ _ _ _ (fun i => i = r) K w2 HJK.out (Chg.grown (S := fun i => i = r) hg (fun k hk => by injection hk with hk; exact hk.symm)) (fun i h => .inl h) (fun i h => .inl h)
      refine ⟨rfl, .inr ⟨_, rfl, _, _, k, hJ2, rfl, fun L hL => ?_⟩⟩
      obtain ⟨e, _, hs⟩ := HAH.out.stands hL HL0.out
      exact hno _ _ hs
theorem num4_snoc (l : List Nat) (c : Nat) : num4 (l ++ [c]) = num4 l * 256 + c := by simp [num4]
theorem num4_take {l : List Nat} {k : Nat} (h : k < l.length) : num4 (l.take (k + 1)) = num4 (l.take k) * 256 + l[k] := by rw [List.take_succ_eq_append_getElem h, num4_snoc]
theorem num4_lt3 {l : List Nat} (h : l.length = 4) (hb : ∀ c ∈ l, c < 256) {k : Nat} (hk : k < 4) : num4 (l.take k) < 16777216 := by
 obtain ⟨a, b, c, d, rfl⟩ := list4 h
 have ha := hb a (by simp)
 have hb' := hb b (by simp)
 have hc := hb c (by simp)
 match k, hk with
 | 0, _ => simp [num4]
 | 1, _ => simp [num4]; omega
 | 2, _ => simp [num4]; omega
 | 3, _ => simp [num4]; omega
theorem or_i64 {x y : Nat} (hx : x < 4294967296) (hy : y < 4294967296) : bits .or .i64 (x : Int) (y : Int) = ((x ||| y : Nat) : Int) := by
 have h1 : (BitVec.ofInt 64 (x : Int)).toNat = x := by
  rw [BitVec.ofInt_natCast, BitVec.toNat_ofNat]; exact Nat.mod_eq_of_lt (by omega)
 have h2 : (BitVec.ofInt 64 (y : Int)).toNat = y := by
  rw [BitVec.ofInt_natCast, BitVec.toNat_ofNat]; exact Nat.mod_eq_of_lt (by omega)
 have h3 : x ||| y < 2 ^ 32 := Nat.or_lt_two_pow (by omega) (by omega)
 show IntKind.i64.wrap ((BitVec.ofInt 64 (x : Int) ||| BitVec.ofInt 64 (y : Int)).toNat : Int) = _
 rw [BitVec.toNat_or, h1, h2, IntKind.wrap_i64]
 omega
theorem or_byte {m c : Nat} (hm : m < 16777216) (hc : c < 256) : bits .or .i64 ((m * 256 : Nat) : Int) (c : Int) = ((m * 256 + c : Nat) : Int) := by
 rw [or_i64 (by omega) (by omega)]
 have : m * 256 ||| c = m * 256 + c := by
  have := Nat.shiftLeft_add_eq_or_of_lt (i := 8) (b := c) (by simpa using hc) m
  simpa [Nat.shiftLeft_eq] using this.symm
 rw [this]
theorem wrap_256 {m : Nat} (h : m < 16777216) : wrap64 ((m : Int) * 256) = ((m * 256 : Nat) : Int) := by unfold wrap64; omega
theorem wrap_four {m : Nat} (h : m < 4294967296) : wrap64 ((m : Int) * 4) = ((4 * m : Nat) : Int) := by unfold wrap64; omega
theorem wrap_q {n : Nat} (h : n < 4294967296) : wrap64 ((n : Int) / 4) = ((n / 4 : Nat) : Int) := by unfold wrap64; omega
theorem wrap_less {n m : Nat} (h : n < 4294967296) (k : m ≤ n) : wrap64 ((n : Int) - (m : Int)) = ((n - m : Nat) : Int) := by unfold wrap64; omega
def BodyAns (w : World) (b : List Nat) (x : Ending) (w' : World) : Prop :=
 Ext w w' ∧ ((∃ (A : Option Addr) (c : Nat) (bd : List Nat), x = .returned (.slice A bd.length c) ∧ Bs w' 0 w'.heap.size (.slice A bd.length c) bd ∧ (∀ y ∈ bd, y < 256) ∧ bd.length ≤ b.length ∧ 4 ≤ b.length ∧ ∀ L, IsB b L → BodyIs L bd) ∨
  (x = .panicked gaveUp ∧ ∀ L, ¬ IsB b L))
set_option maxRecDepth 100000 in
set_option maxHeartbeats 4000000 in
theorem body_any {w : World} {lo hi : Nat} {v : Value} {b : List Nat} (hv : Bs w lo hi v b) (hhi : hi ≤ w.heap.size) (hb : ∀ x ∈ b, x < 256) (hl : b.length ≤ 1000000000) :
    Calls Tryz.prog 135 #[v] w (BodyAns w b) := by
 have HV := zHd hv
 have HB := zHd hb
 have HL := zHd (And.intro hhi hl)
 obtain ⟨A, c, rfl, hc1, hc2, hn, hby⟩ := hv
 have HC := zHd (And.intro hc1 (And.intro hc2 hn))
 have HBY := zHd hby
 clear hhi hb hl hc1 hc2 hn hby
 rcases Nat.lt_or_ge b.length 4 with h4 | h4
 · have d : decide (wrap64 ((b.length : Int) - 4) < 0) = true := by rw [decide_eq_true_eq]; unfold wrap64; omega
   have H4 := zHd h4
   clear h4
   go_enter Tryz.func135, Tryz.ntmps135
   go_wp2_with fail
   refine (giveUp_any _).mono ?_
   rintro x w' ⟨rfl, rfl⟩
   refine ⟨rfl, Ext.refl _, .inr ⟨rfl, fun L h => ?_⟩⟩
   have h1 := h.last.1
   have h2 := H4.out
   omega
 obtain ⟨n, hn⟩ : ∃ n, n = b.length - 4 := ⟨_, rfl⟩
 have HN : Hid (b.length = n + 4) := by unfold Hid; omega
 have ew : wrap64 ((b.length : Int) - 4) = (n : Int) := by unfold wrap64; have := HL.out.2; omega
 have d : decide ((n : Int) < 0) = false := by rw [decide_eq_false_iff_not]; omega
 obtain ⟨A2, hA2, hA2n, hrun⟩ := tail_run A b.length c n (by omega) HC.out.1
 have hrun' : ∀ w, (Instr.slice 22 (.slice A b.length c) (some (.int .i64 (n : Int))) none none).run Tryz.prog w = .ok (.slice A2 4 (c - n)) w := fun w => by rw [hrun, HN.out]; congr 2; omega
 obtain ⟨t, ht⟩ : ∃ t, t = b.drop n := ⟨_, rfl⟩
 have HT : Hid (By w lo hi A2 t) := by rw [ht]; exact hA2 b rfl _ _ _ HBY.out
 have HT4 : Hid (t.length = 4) := by rw [ht]; unfold Hid; rw [List.length_drop]; omega
 have HTB : Hid (∀ x ∈ t, x < 256) := fun x hx => HB.out x (by rw [ht] at hx; exact List.mem_of_mem_drop hx)
 have HTE : Hid (t = b.drop (b.length - 4)) := by rw [ht, hn]; exact rfl
 obtain ⟨tb, tq, rfl⟩ : ∃ x y, A2 = some ⟨x, y, none⟩ := by
  obtain ⟨b', o, e, _⟩ := HT.out.at_ (i := 0) (by rw [HT4.out]; omega)
  exact ⟨_, _, e⟩
 clear hA2 hA2n hrun ht h4 hn
 go_enter Tryz.func135, Tryz.ntmps135
 go_wp2_with fail
 go_loopw [4, 6, 17] (fun m y i wr => ∃ (k r : Nat), k ≤ 4 ∧ i = .int .i64 (k : Int) ∧ m = .int .i64 (r : Int) ∧ Hid (r = num4 (t.take k)) ∧ wr = w) (fun _ _ i _ => 4 - (intOf i).toNat)
 case atStart => exact ⟨0, 0, Nat.zero_le _, rfl, rfl, rfl, rfl⟩
 case round =>
  obtain ⟨k, r, hk, rfl, rfl, HR, rfl⟩ := hrel
  by_cases hlt : k < 4
  · have hkl : k < t.length := by rw [HT4.out]; exact hlt
    obtain ⟨b', o', e1, _, _, hc⟩ := HT.out.at_ hkl
    injection e1 with e1
    injection e1 with e1 e2
    subst e1 e2
    obtain ⟨y, hy⟩ : ∃ y, y = t[k] := ⟨_, rfl⟩
    rw [← hy] at hc
    have HM : Hid (r < 16777216) := by rw [HR.out]; exact num4_lt3 HT4.out HTB.out hlt
    have hc256 : y < 256 := by rw [hy]; exact HTB.out _ (List.getElem_mem hkl)
    have HO := zHd (or_byte HM.out hc256)
    have HTT : Hid (num4 (t.take (k + 1)) = r * 256 + y) := by rw [HR.out, hy]; exact num4_take hkl
    have n1 : (0 : Int) ≤ (k : Int) := by omega
    have n2 : (k : Int) < 4 := by omega
    clear hy
    go_wp2_with fail
    go_roundw
    case rel =>
     refine ⟨k + 1, r * 256 + y, by omega, by go_num, ?_, HTT.out.symm, ?_⟩
     · rw [wrap_256 HM.out, HO.out]
     · trivial
    case measure => simp [intOf]; omega
  · clear HT
    obtain rfl : k = 4 := by omega
    have hr : r = num4 t := by rw [HR.out, List.take_of_length_le (by rw [HT4.out]; exact zNr _)]
    have HRE := zHd hr
    have HR32 : Hid (r < 4294967296) := by rw [hr]; exact num4_lt HT4.out HTB.out
    clear hr
    have hq := wrap_q (n := n) (by have := HN.out; have := HL.out.2; omega)
    obtain ⟨q, hqe⟩ : ∃ q, q = n / 4 := ⟨_, rfl⟩
    rw [← hqe] at hq
    by_cases hgt : q < r
    · have dg : decide ((q : Int) < (r : Int)) = true := by rw [decide_eq_true_eq]; exact Int.ofNat_lt.2 hgt
      have dgn : decide (q < r) = true := by rw [decide_eq_true_eq]; exact hgt
      have HGT := zHd hgt
      have HQE := zHd hqe
      clear hgt hqe
      go_wp2_with fail
      refine (giveUp_any _).mono ?_
      rintro x w' ⟨rfl, rfl⟩
      refine ⟨rfl, Ext.refl _, .inr ⟨rfl, fun L h => ?_⟩⟩
      obtain ⟨h1, h2, h3, h4⟩ := h.last
      rw [← HTE.out, ← HRE.out] at h3
      have h5 := HGT.out
      have h6 := HQE.out
      have h7 := HN.out
      clear hq ew
      omega
    · have dg : decide ((q : Int) < (r : Int)) = false := by rw [decide_eq_false_iff_not]; exact fun h => hgt (Int.ofNat_lt.1 h)
      have dgn : decide (q < r) = false := by rw [decide_eq_false_iff_not]; exact hgt
      have hle : 4 * r ≤ n := by clear hq ew; omega
      have hw4 := wrap_four HR32.out
      have hwm := wrap_less (n := n) (m := 4 * r) (by have := HN.out; have := HL.out.2; clear hq ew hw4; omega) hle
      obtain ⟨m, hm⟩ : ∃ m, m = n - 4 * r := ⟨_, rfl⟩
      obtain ⟨j, hj⟩ : ∃ j, j = 4 * r := ⟨_, rfl⟩
      rw [← hm] at hwm
      rw [← hj] at hw4 hwm
      have HM : Hid (m ≤ b.length ∧ m = b.length - 4 - 4 * num4 (b.drop (b.length - 4))) := by
       rw [← HTE.out, ← HRE.out]
       have := HN.out
       clear hq ew hw4 hwm
       unfold Hid; omega
      obtain ⟨A3, hA3, hA3n, hrun3⟩ := head_run .i64 A b.length c m HM.out.1 HC.out.1
      have HA3 := zHd (And.intro hA3 hA3n)
      clear hm hj hgt hqe hle hA3 hA3n
      go_wp2_with fail
      go_ret
      have hlm : (b.take m).length = m := by rw [List.length_take]; have := HM.out.1; clear hq ew hw4 hwm; omega
      refine ⟨Ext.refl _, .inl ⟨A3, c, b.take m, by rw [hlm]; rfl, ?_, fun y hy => HB.out y (List.mem_of_mem_take hy), by rw [hlm]; exact HM.out.1, by rw [HN.out]; exact Nat.le_add_left _ _, fun L h => ?_⟩⟩
      · refine ⟨A3, c, rfl, by rw [hlm]; exact zNt HM.out.1 HC.out.1, HC.out.2.1, fun e => HC.out.2.2 (HA3.out.2 e), ?_⟩
        exact Sl.wide (HA3.out.1 b rfl _ _ _ HBY.out) (Nat.zero_le _) HL.out.1
      · have h1 := h.body
        unfold bodyOf at h1
        rw [← HM.out.2] at h1
        exact h1
theorem bequal_any {w : World} {lo hi lo2 hi2 : Nat} {u v : Value} {a b : List Nat} (hu : Bs w lo hi u a) (hv : Bs w lo2 hi2 v b) (ha : ∀ x ∈ a, x < 256) (hb : ∀ x ∈ b, x < 256) :
    Calls Tryz.prog 69 #[u, v] w fun e w' => (∃ z : Bool, (z = true ↔ a = b) ∧ e = .returned (.bool z)) ∧ w' = w := by
 obtain ⟨A, c, rfl, _, _, _, hA⟩ := hu
 obtain ⟨B, c2, rfl, _, _, _, hB⟩ := hv
 have t1 := run_text (P := Tryz.prog) w 22 5 Tryz.underlying22 Tryz.underlying5 hA a.length c rfl 9 Tryz.underlying9
 have t2 := run_text (P := Tryz.prog) w 22 5 Tryz.underlying22 Tryz.underlying5 hB b.length c2 rfl 9 Tryz.underlying9
 have HI : Hid (tx a = tx b ↔ a = b) := ⟨fun h => tx_inj ha hb h, fun h => by rw [h]⟩
 obtain ⟨X, hX⟩ : ∃ X, X = tx a := ⟨_, rfl⟩
 obtain ⟨Y, hY⟩ : ∃ Y, Y = tx b := ⟨_, rfl⟩
 rw [← hX, ← hY] at HI
 rw [← hX] at t1
 rw [← hY] at t2
 clear hX hY hA hB ha hb
 go_enter Tryz.func69, Tryz.ntmps69
 go_wp2_with fail
 go_ret
 refine ⟨⟨X.toList == Y.toList, ?_, rfl⟩, rfl⟩
 rw [beq_iff_eq, ← HI.out]
 refine ⟨fun h => ?_, fun h => by rw [h]⟩
 rw [ByteArray.toList_eq, ByteArray.toList_eq] at h
 exact ByteArray.ext (Array.toList_inj.1 h)
theorem entries_any (A : Option Addr) (n c : Nat) (w : World) : Calls Tryz.prog 134 #[.slice A n c] w fun e w' => e = .returned (.func (.func 155) #[] #[.pointer (some ⟨w.heap.size, 0, none⟩)]) ∧ w' = w.alloc (.cells #[.slice A n c] 22) := by
 have hmf := mkf
 go_enter Tryz.func134, Tryz.ntmps134
 go_wp2_with fail
 go_ret
 exact ⟨rfl, rfl⟩
end Go.Proofs.YtkdidghfcfcpfaaGreat
namespace Go.Proofs.YtkdidghfcfcpfaaGreat
open Go.ChangeShapes Go.WideShapes Go.ChangeAt Go.RowKit Go.Shelf
attribute [local go_sem] Oper.semAt_some
theorem wpListIn_putent {F : Fence} {nF : Nat} {ops : Array Oper} {rest : List Oper} {o : Oper} {a : Act} {Q : Exit → Act → World → Prop} {u : World} (hgd : o.guard = none) (s x : Operand)
    (ho : o.op = .call { callee := .builtin .append, args := #[s, x], argTypes := #[28, 28] }) (B : Nat) (v : Value) (R : List (Ent × Hd)) (hs : a.eval s = v) (hgot : Got B v R u)
    (p : Ent × Hd) (gb : Nat) (hx : a.eval x = .slice (some ⟨gb, 0, none⟩) 1 1) (hblk : u.heap[gb]? = some (.cells (ecells p).toArray 50 (0, 0))) (hp : Mine B p u) (hlen : R.length ≤ 1000000000000) (hB : B ≤ u.heap.size)
    (h : ∀ A' c' w', Got B (.slice A' (R.length + 1) c') (R ++ [p]) w' → u.grownBy w' v.ownBlock → (∀ g, (Value.slice A' (R.length + 1) c').ownBlock = some g → v.ownBlock = some g ∨ g = u.heap.size) → wpListIn F nF Tryz.prog ops Q rest (a.put o.dst (.slice A' (R.length + 1) c')) w') :
    wpListIn F nF Tryz.prog ops Q (o :: rest) a u := by
 obtain ⟨i0, hi0', ix0, ix1, ix2⟩ := info_parts einfo
 refine wpListIn_plain hgd fun K hK => ?_
 obtain ⟨v', w5, hr, ho2, hgr, _, hat⟩ := run_append_own_at (P := Tryz.prog) u B 28 o.type 50 i0 _ 4 64 Tryz.underlying28 hi0' ix0 ix1 ix2 rfl (by decide) v R.length (erow R) hgot.row ⟨gb, 0, none⟩ 1 1 (ecells p) rfl
  (fun j q hj => by rw [addr_add, Nat.zero_add]; exact cell_of hblk (by simpa using hj)) (fun q hq => erow_one [p] q (by simpa [erow] using hq)) (by unfold maxLen; omega) (by omega) hB
 have hke : ∀ q : Ent × Hd, Mine B q u → Mine B q w5 := fun q hq => by
  have hk : ∀ {l : List Nat} {x : Value}, Own B l x u → Own B l x w5 := fun hx => row_kept hx fun g' hg' => hgr.block g' (row_lt hx g' hg').2 (fun e => rows_apart hx hgot.row (by decide) hg' e.symm)
  exact ⟨hk hq.k, hk hq.v, hq.good⟩
 have hgot' : Got B v' (R ++ [p]) w5 := by
  refine ⟨by rw [List.length_append, erow_append]; simpa [erow] using ho2, fun q hq => ?_⟩
  rcases List.mem_append.1 hq with hq | hq
  · exact hke q (hgot.each q hq)
  · rw [List.mem_singleton] at hq; subst hq; exact hke q hp
 obtain ⟨A', c', rfl⟩ := rowN_slice ho2
 have hfin := h A' c' w5 hgot' hgr (fun g hg => by
  rcases hat with e | e
  · exact .inl (e ▸ hg)
  · rw [e] at hg; injection hg with hg; exact .inr hg.symm)
 unfold Oper.wpIn
 refine ⟨?_, ?_⟩
 · simp [Oper.about, ho, resolve, Target.leads, Sem.run_pure]
 · rw [Oper.semAt_plain F _ _ (by rw [ho]; intro c hc'; cases hc')]
   simp [execOp, ho, resolve, invoke, builtin, hs, hx, hr, Result.andThen]
   exact hK _ _ hfin
def TakenAns (w : World) (b : List Nat) (x : Ending) (w' : World) : Prop :=
 Ext w w' ∧ ((∃ (R : List (Ent × Hd)) (A : Option Addr) (c : Nat), IsB b (R.map Prod.fst) ∧ x = .returned (.slice A R.length c) ∧ Got w.heap.size (.slice A R.length c) R w') ∨ (x = .panicked gaveUp ∧ ∀ L, ¬ IsB b L))
theorem Free.grow {D D' : Nat → Prop} {v : Value} {n : Nat} (h : Free D v) (hb : ∀ b, v.ownBlock = some b → b < n) (hD : ∀ i, D' i → D i ∨ n ≤ i) : Free D' v := fun b hv hd => by
 rcases hD b hd with h1 | h1
 · exact h b hv h1
 · have := hb b hv; omega
structure TkR (base lb : Nat) (bd : List Nat) (D K : Nat → Prop) (k : Nat) (A : World) (X : Option Addr) (c : Nat) (R : List (Ent × Hd)) : Prop where
 box : Boxed A lb 28 (.slice X R.length c)
 got : Got base (.slice X R.length c) R A
 len : R.length = k
 is : ∀ L, BodyIs L bd → k ≤ L.length ∧ L.take k = R.map Prod.fst
 fd : Free D (.slice X R.length c)
 fk : Free K (.slice X R.length c)
 fe : ∀ p ∈ R, Free D (.slice p.2.kA p.1.key.length p.2.kc) ∧ Free D (.slice p.2.vA p.1.val.length p.2.vc)
structure TkI (w : World) (lb s3 : Nat) (bd : List Nat) (D K : Nat → Prop) (k : Nat) (A : World) : Prop where
 below : Below w.heap.size w A
 z : s3 ≤ A.heap.size
 dz : ∀ i, D i → s3 ≤ i
 ex : ∃ X c R, TkR w.heap.size lb bd D K k A X c R ∧ k ≤ 1024
theorem TkI.chg {w A A' : World} {lb s3 : Nat} {bd : List Nat} {D K D' K' : Nat → Prop} {k : Nat} (h : TkI w lb s3 bd D K k A) (hlb : lb < s3) (hs : w.heap.size ≤ s3) (hc : Chg D A A') (hD : ∀ i, D' i → D i ∨ A.heap.size ≤ i) (hK : ∀ i, K' i → K i ∨ A.heap.size ≤ i) : TkI w lb s3 bd D' K' k A' := by
 obtain ⟨h1, h2, h3, X, c, R, t, hk⟩ := h
 refine ⟨h1.trans (hc.below (fun i hi => zNt hs (h3 i hi)) h1.size), zNt h2 hc.size, fun i hi => by rcases hD i hi with h | h; exact h3 i h; omega, X, c, R, ⟨boxed_chg t.box hc (fun hd => by have := h3 lb hd; omega), ⟨rowN_kept t.got.row fun g hg => hc.block g (rowN_lt t.got.row g hg).2.1 (t.fd g hg), fun p hp => ?_⟩, t.len, t.is, t.fd.grow (fun b hb => (rowN_lt t.got.row b hb).2.1) hD, t.fk.grow (fun b hb => (rowN_lt t.got.row b hb).2.1) hK, fun p hp => ?_⟩, hk⟩
 · have hm := t.got.each p hp
   exact ⟨row_kept hm.k fun g hg => hc.block g (row_lt hm.k g hg).2 ((t.fe p hp).1 g hg), row_kept hm.v fun g hg => hc.block g (row_lt hm.v g hg).2 ((t.fe p hp).2 g hg), hm.good⟩
 · have hm := t.got.each p hp
   exact ⟨(t.fe p hp).1.grow (fun b hb => (row_lt hm.k b hb).2) hD, (t.fe p hp).2.grow (fun b hb => (row_lt hm.v b hb).2) hD⟩
def TkX (w : World) (lb s3 : Nat) (bd : List Nat) (c : Code) (A : World) : Prop := c = .exit 0 ∧ Below w.heap.size w A ∧ ∃ X cc R, Boxed A lb 28 (.slice X R.length cc) ∧ Got w.heap.size (.slice X R.length cc) R A ∧ R.length = 1025 ∧ (∀ L, BodyIs L bd → 1025 ≤ L.length) ∧ ∀ b, Blk (.slice X R.length cc) R b → b ≠ s3 + 1
theorem tk_box {A3 w5 : World} {lb B : Nat} {o : Obj} {X : Option Addr} {c n : Nat} {R : List (Ent × Hd)} (hb : Boxed A3 lb 28 (.slice X n c)) (hg : Got B (.slice X R.length c) R A3) (hgr : (A3.alloc o).grownBy w5 (Value.slice X R.length c).ownBlock) : Boxed w5 lb 28 (.slice X n c) :=
 (hgr.block lb (by have := hb.lt; simp; omega) (Boxed.not_row (ext_heap (ext_alloc A3 o) hb) (by decide) (hg.below (ext_alloc A3 o)).row)).trans (ext_heap (ext_alloc A3 o) hb)
theorem blk_box {W : World} {lb B : Nat} {u v : Value} {R : List (Ent × Hd)} (hb : Boxed W lb 28 u) (hg : Got B v R W) : ∀ b, Blk v R b → b ≠ lb := by
 rintro b (h | ⟨p, hp, h | h⟩) e
 · exact Boxed.not_row hb (by decide) hg.row (by rw [h, e])
 · exact Boxed.not_row hb (by decide) (hg.each p hp).k (by rw [h, e])
 · exact Boxed.not_row hb (by decide) (hg.each p hp).v (by rw [h, e])
theorem got_not {W : World} {B : Nat} {v : Value} {R : List (Ent × Hd)} (hg : Got B v R W) {b : Nat} (hb : Blk v R b) (hD : W.heap[b]? = some (.deferred (some []))) : False := by
 have hcell : ∃ c t f, W.heap[b]? = some (.cells c t f) := by
  rcases hb with h | ⟨p, hp, h | h⟩
  · obtain ⟨_, _, c, hc⟩ := rowN_lt hg.row b h; exact ⟨_, _, _, hc⟩
  · obtain ⟨_, _, c, hc⟩ := rowN_lt (hg.each p hp).k b h; exact ⟨_, _, _, hc⟩
  · obtain ⟨_, _, c, hc⟩ := rowN_lt (hg.each p hp).v b h; exact ⟨_, _, _, hc⟩
 obtain ⟨c, t, f, hc⟩ := hcell
 rw [hD] at hc; cases hc
theorem wr_lt {L : List Ent} (_hm : MayB L) (hb : ∀ e ∈ L, (∀ x ∈ e.key, x < 256) ∧ ∀ x ∈ e.val, x < 256) : ∀ x ∈ wr L, x < 256 := by
 intro x hx
 unfold wr at hx
 rcases List.mem_append.1 hx with hx | hx
 · exact upto_lt hb _ x hx
 · rcases List.mem_append.1 hx with hx | hx
   · obtain ⟨n, _, hn⟩ := List.mem_flatMap.1 hx
     exact be4_lt n x hn
   · exact be4_lt _ x hx
structure TkN (w : World) (lb : Nat) (D K : Nat → Prop) (A3 w6 : World) (X : Option Addr) (c : Nat) (R' : List (Ent × Hd)) : Prop where
 box : Boxed w6 lb 28 (.slice X R'.length c)
 got : Got w.heap.size (.slice X R'.length c) R' w6
 below : Below w.heap.size w w6
 step : StepK K A3 w6
 size : A3.heap.size ≤ w6.heap.size
 fd : Free D (.slice X R'.length c)
 fk : Free K (.slice X R'.length c)
theorem tk_next {w A3 w5 w6 : World} {lb s3 : Nat} {bd : List Nat} {D K : Nat → Prop} {k cR N c5 : Nat} {X X5 : Option Addr} {R : List (Ent × Hd)} {p : Ent × Hd} {o : Obj} (hT : TkR w.heap.size lb bd D K k A3 X cR R) (hbw : Below w.heap.size w A3) (hlb : lb < s3) (hwl : w.heap.size ≤ lb)
    (hD : ∀ i, D i → s3 ≤ i ∧ i < A3.heap.size) (hK : ∀ i, K i → s3 ≤ i ∧ i < A3.heap.size)
    (hN : N = R.length + 1) (hg5 : Got w.heap.size (.slice X5 N c5) (R ++ [p]) w5) (hgr : (A3.alloc o).grownBy w5 (Value.slice X R.length cR).ownBlock)
    (hat : ∀ g, (Value.slice X5 N c5).ownBlock = some g → (Value.slice X R.length cR).ownBlock = some g ∨ g = (A3.alloc o).heap.size) (hw6 : w6 = w5.setCell ⟨lb, 0, none⟩ (.slice X5 N c5)) : TkN w lb D K A3 w6 X5 c5 (R ++ [p]) := by
 have hlen : N = (R ++ [p]).length := by rw [hN]; simp
 subst hlen
 have hb5 := tk_box hT.box hT.got hgr
 have hb6 : Boxed w6 lb 28 (.slice X5 (R ++ [p]).length c5) := by rw [hw6]; exact hb5.set _
 have hc : Chg (fun i => (Value.slice X R.length cR).ownBlock = some i ∨ i = lb) A3 w6 := by
  rw [hw6]
  exact ((Chg.alloc (S := fun i => (Value.slice X R.length cR).ownBlock = some i ∨ i = lb) A3 o).trans (Chg.grown hgr fun g hg => .inl hg)).trans (Chg.setCell _ _ _ (.inr rfl))
 have hrow := fun g hg => rowN_lt hT.got.row g hg
 refine ⟨hb6, ?_, hbw.trans (hc.below (fun i hi => by rcases hi with hi | hi; exact (hrow i hi).1; omega) hbw.size), StepK.of_chg hc (fun i _ hk hs => by rcases hs with hs | hs; exact hT.fk i hs hk; have := hK i hk; omega), hc.size, fun g hg hd => ?_, fun g hg hd => ?_⟩
 · rw [hw6]
   exact hg5.keepS (Chg.setCell (S := fun i => i = lb) w5 ⟨lb, 0, none⟩ _ rfl) (fun b hb => blk_box hb5 hg5 b hb)
 · rcases hat g hg with h | h
   · exact hT.fd g h hd
   · have := (hD g hd).2; rw [h] at this; simp at this; omega
 · rcases hat g hg with h | h
   · exact hT.fk g h hd
   · have := (hK g hd).2; rw [h] at this; simp at this; omega
set_option maxRecDepth 100000 in
set_option maxHeartbeats 16000000 in
theorem taken_any {w : World} {lo hi : Nat} {v : Value} {b : List Nat} (hv : Bs w lo hi v b) (hhi : hi ≤ w.heap.size) (hb : ∀ x ∈ b, x < 256) (hl : b.length ≤ 1000000000) :
    Calls Tryz.prog 111 #[v] w (TakenAns w b) := by
 obtain ⟨w1, hw1⟩ : ∃ w1, w1 = w.alloc (.cells #[.slice none 0 0] 28) := ⟨_, rfl⟩
 have HX1 : Hid (Ext w w1) := by rw [hw1]; exact ext_alloc _ _
 have HZ1 : Hid (w1.heap.size = w.heap.size + 1) := by rw [hw1]; simp [Hid]
 have HB1 : Hid (Boxed w1 w.heap.size 28 (.slice none 0 0)) := by rw [hw1]; exact heap_at _ _ rfl
 have HBO := zHd (body_any (hv.below HX1.out hhi) (zNt hhi HX1.out.size) hb hl)
 have HV := zHd hv
 have HHI := zHd hhi
 have HBY := zHd hb
 have HL := zHd hl
 obtain ⟨A, c, rfl, _, _, _, _⟩ := hv
 clear hhi hb hl
 refine (callsIn_wide (n := 6)).1 ?_
 refine callsIn_of_wp_marks Tryz.func111 rfl trivial ?_
 simp only [Tryz.ntmps111, List.size_toArray, List.length_cons, List.length_nil, Nat.reduceAdd, Nat.reduceSub, Array.replicate_succ, Array.replicate_zero, List.push_toArray, List.append_toArray, List.nil_append, List.cons_append]
 refine wpIn_wide.2 ?_
 go_wp2_with fail
 rw [← hw1]
 clear hw1
 refine HBO.out.mono ?_
 rintro x w2 ⟨hx2, (⟨BA, bc, bd, rfl, hbs, hbb, hbl, h4, hbi⟩ | ⟨rfl, hno⟩)⟩
 rotate_left
 · exact ⟨zEt HX1.out hx2, .inr ⟨rfl, hno⟩⟩
 have HX2 : Hid (Ext w w2) := zEt HX1.out hx2
 have HX12 := zHd hx2
 have HBS := zHd hbs
 have HBB := zHd hbb
 have HBL := zHd (And.intro hbl h4)
 have HBI := zHd hbi
 clear hx2 hbs hbb hbl h4 hbi HBO
 go_wp2_with fail
 refine (entries_any _ _ _ _).mono ?_
 rintro x w3 ⟨rfl, hw3⟩
 have HX3 : Hid (Ext w2 w3) := by rw [hw3]; exact ext_alloc _ _
 have HZ3 : Hid (w3.heap.size = w2.heap.size + 1) := by rw [hw3]; simp [Hid]
 have HC3 : Hid (w3.cell? ⟨w2.heap.size, 0, none⟩ = some (.slice BA bd.length bc)) := by rw [hw3]; exact cell_of (heap_at _ _ rfl) rfl
 have HXW : Hid (Ext w w3) := zEt HX2.out HX3.out
 clear hw3
 go_wp2_with fail
 rename_i ak
 refine (wpIn_wide (n := 6)).1 ?_
 have HIT := zHd (entries_iter (HBS.out.below HX3.out (zNr _)) HX3.out.size HBB.out (zNt HBL.out.1 HL.out) HC3.out)
 have HLB : Hid (w.heap.size < w3.heap.size) := by have := HZ1.out; have := HX12.out.size; have := HX3.out.size; unfold Hid; omega
 refine wpIn_overP rfl enters_entries1 HIT.out (fun _ => rfl) (TkI w w.heap.size w3.heap.size bd) (TkX w w.heap.size w3.heap.size bd) (fun _ _ _ _ _ => trivial) ?hI ?hIx ?h0 ?round ?hok ?done ?pan ?stop
 case hI => exact fun D K k A1 A2 => fun D' K' h hc hD hK => h.chg HLB.out (Nat.le_of_lt HLB.out) hc hD hK
 case hIx =>
  rintro cd A1 A2 ⟨rfl, hb, X, cc, R, h1, h2, h3, h4, h5⟩ hc
  exact ⟨rfl, hb.trans (hc.below (fun i e => by have := HLB.out; omega) hb.size), X, cc, R, boxed_chg h1 hc (fun e => by have := HLB.out; omega), h2.keepS hc (fun b hb2 e => h5 b hb2 e), h3, h4, h5⟩
 case h0 =>
  intro A1 D K hx hD hK
  refine ⟨zEt HXW.out hx, hx.size, hD, none, 0, [], ⟨ext_heap (zEt (zEt HX12.out HX3.out) hx) HB1.out, Got.nil _ _, rfl, fun L _ => ⟨Nat.zero_le _, rfl⟩, fun b hb => (by cases hb), fun b hb => (by cases hb), fun p hp => (by cases hp)⟩, Nat.zero_le _⟩
 case round =>
  rintro l D K k ⟨e, g⟩ A1 rfl hDl hKl hD hK hi ⟨hek, hm, hf1, hf2⟩
  have HI1 := zHd hi
  have HEK := zHd hek
  have HM1 := zHd hm
  have HFR := zHd (And.intro hf1 hf2)
  have HDK := zHd (And.intro hD hK)
  have HLK := zHd (And.intro hDl hKl)
  clear hDl hKl hD hK hi hek hm hf1 hf2
  dsimp only at HEK HFR
  dsimp only [entV, Ent.at_]
  gi_wp2
  obtain ⟨A2, hA2⟩ : ∃ A2, A2 = A1.alloc (.cells #[.slice g.kA e.key.length g.kc, .int .i64 e.seq, .int .i64 e.kind, .slice g.vA e.val.length g.vc] 50) := ⟨_, rfl⟩
  rw [← hA2]
  have HX2 : Hid (Ext A1 A2) := by rw [hA2]; exact ext_alloc _ _
  have HBE : Hid (A2.heap[A1.heap.size]? = some (.cells #[.slice g.kA e.key.length g.kc, .int .i64 e.seq, .int .i64 e.kind, .slice g.vA e.val.length g.vc] 50 (0, 0))) := by rw [hA2]; exact heap_at _ _ rfl
  clear hA2
  refine ⟨StepK.of_chg (S := fun _ => False) (Chg.of_ext HX2.out) (fun _ _ _ h => h), fun A3 hc => ?_⟩
  have HC23 := zHd hc
  have HCH : Hid (Chg D A1 A3) := ((Chg.of_ext (S := D) HX2.out).trans (hc.mono fun i _ e => by rw [e]; exact HLK.out.1))
  have HI3 := zHd (HI1.out.chg HLB.out (Nat.le_of_lt HLB.out) HCH.out (fun i h => .inl h) (fun i h => .inl h))
  obtain ⟨X, cR, R, hT, hk1024⟩ := HI3.out.ex
  have HT := zHd hT
  have HM3 : Hid (Mine w.heap.size (e, g) A3) := by
   have hk := HM1.out.base (B' := w.heap.size) HXW.out.size
   exact ⟨row_kept hk.k fun b hb => HCH.out.block b (row_lt hk.k b hb).2 (HFR.out.1 b hb), row_kept hk.v fun b hb => HCH.out.block b (row_lt hk.v b hb).2 (HFR.out.2 b hb), hk.good⟩
  have HB3 : Hid (A3.heap[A1.heap.size]? = some (.cells #[.slice g.kA e.key.length g.kc, .int .i64 e.seq, .int .i64 e.kind, .slice g.vA e.val.length g.vc] 50 (0, 0))) :=
   (hc.block _ (zAg.1 HBE.out).1 (fun e => by have := HDK.out.2 _ HLK.out.2; omega)).trans HBE.out
  have HRL : Hid (R.length = k ∧ k ≤ 1024) := ⟨HT.out.len, hk1024⟩
  have q0 := hT.box.cell
  have e0 := cell_of HB3.out (k := 0) rfl
  have e1 := cell_of HB3.out (k := 1) rfl
  have e2 := cell_of HB3.out (k := 2) rfl
  have e3 := cell_of HB3.out (k := 3) rfl
  have HZA : Hid (w.heap.size ≤ A3.heap.size ∧ w3.heap.size ≤ A3.heap.size ∧ A1.heap.size < A3.heap.size) := ⟨by have := HI3.out.z; have := HLB.out; omega, HI3.out.z, (zAg.1 HB3.out).1⟩
  clear hc hT hk1024
  obtain ⟨N, hN⟩ : ∃ N, N = R.length + 1 := ⟨_, rfl⟩
  have HN := zHd hN
  by_cases hbig : 1024 < N
  · have d : decide ((1024 : Int) < (N : Int)) = true := by rw [decide_eq_true_eq]; exact Int.ofNat_lt.2 hbig
    have dn : decide (1024 < N) = true := by rw [decide_eq_true_eq]; exact hbig
    have HBIG := zHd hbig
    clear hbig hN
    gi_wp2_with (gi_at_builtin; refine wpListIn_putent rfl (.tmp 11) (.tmp 13) rfl w.heap.size _ R rfl (HT.out.got.below (ext_alloc _ _)) (e, g) A3.heap.size rfl (heap_at _ _ rfl) (HM3.out.below (ext_alloc _ _)) (by have := HRL.out; omega) (zNt HZA.out.1 (by simp)) ?_; rw [← HN.out]; intro X5 c5 w5 hgot5 hgr5 hat5; have HG5 := zHd hgot5; have HGR5 := zHd hgr5; have HAT5 := zHd hat5; have q1 := tk_box HT.out.box HT.out.got hgr5; have HQ1 := zHd q1; have q2 := q1.cell; have q3 := q1.frozen; clear hgot5 hgr5 hat5 q1)
    obtain ⟨w6, hw6⟩ : ∃ w6, w6 = w5.setCell ⟨w.heap.size, 0, none⟩ (.slice X5 N c5) := ⟨_, rfl⟩
    rw [← hw6]
    have hnx := tk_next HT.out HI3.out.below HLB.out (zNr _) (fun i h => ⟨(HDK.out.1 i h).1, by have := (HDK.out.1 i h).2; have := HZA.out; omega⟩) (fun i h => ⟨(HDK.out.2 i h).1, by have := (HDK.out.2 i h).2; have := HZA.out; omega⟩) HN.out HG5.out HGR5.out HAT5.out hw6
    clear hw6 q2 q3
    have hl := HLK.out
    refine ⟨hnx.step, rfl, hnx.below, X5, c5, R ++ [(e, g)], hnx.box, hnx.got, ?_, fun L hL => ?_, ?_⟩
    · have := HRL.out; have := HBIG.out; have := HN.out; simp; omega
    · have h1 := (zLg.1 (HEK.out L hL)).1
      have := HRL.out; have := HBIG.out; have := HN.out; omega
    · rintro b (h | ⟨p, hp, h⟩) e1
      · subst e1; exact hnx.fk _ h hl.2
      · subst e1
        rcases List.mem_append.1 hp with hp | hp
        · rcases h with h | h
          · exact (HT.out.fe p hp).1 _ h hl.1
          · exact (HT.out.fe p hp).2 _ h hl.1
        · rw [List.mem_singleton] at hp; subst hp
          rcases h with h | h
          · exact HFR.out.1 _ h hl.1
          · exact HFR.out.2 _ h hl.1
  · have d : decide ((1024 : Int) < (N : Int)) = false := by rw [decide_eq_false_iff_not]; exact fun h => hbig (Int.ofNat_lt.1 h)
    have dn : decide (1024 < N) = false := by rw [decide_eq_false_iff_not]; exact hbig
    have HBIG := zHd hbig
    clear hbig hN
    gi_wp2_with (gi_at_builtin; refine wpListIn_putent rfl (.tmp 11) (.tmp 13) rfl w.heap.size _ R rfl (HT.out.got.below (ext_alloc _ _)) (e, g) A3.heap.size rfl (heap_at _ _ rfl) (HM3.out.below (ext_alloc _ _)) (by have := HRL.out; omega) (zNt HZA.out.1 (by simp)) ?_; rw [← HN.out]; intro X5 c5 w5 hgot5 hgr5 hat5; have HG5 := zHd hgot5; have HGR5 := zHd hgr5; have HAT5 := zHd hat5; have q1 := tk_box HT.out.box HT.out.got hgr5; have HQ1 := zHd q1; have q2 := q1.cell; have q3 := q1.frozen; clear hgot5 hgr5 hat5 q1)
    obtain ⟨w6, hw6⟩ : ∃ w6, w6 = w5.setCell ⟨w.heap.size, 0, none⟩ (.slice X5 N c5) := ⟨_, rfl⟩
    rw [← hw6]
    have hnx := tk_next HT.out HI3.out.below HLB.out (zNr _) (fun i h => ⟨(HDK.out.1 i h).1, by have := (HDK.out.1 i h).2; have := HZA.out; omega⟩) (fun i h => ⟨(HDK.out.2 i h).1, by have := (HDK.out.2 i h).2; have := HZA.out; omega⟩) HN.out HG5.out HGR5.out HAT5.out hw6
    clear hw6 q2 q3
    refine ⟨hnx.step, hnx.below, by have := hnx.size; have := HZA.out; omega, fun i h => (HDK.out.1 i h).1, X5, c5, R ++ [(e, g)], ⟨hnx.box, hnx.got, ?_, fun L hL => ?_, hnx.fd, hnx.fk, fun p hp => ?_⟩, ?_⟩
    · rw [List.length_append, HRL.out.1]; rfl
    · have h1 := HEK.out L hL
      obtain ⟨h2, h3⟩ := HT.out.is L hL
      have h4 := (zLg.1 h1).1
      refine ⟨h4, ?_⟩
      rw [List.take_add_one, h3, h1, List.map_append]; rfl
    · rcases List.mem_append.1 hp with hp | hp
      · exact HT.out.fe p hp
      · rw [List.mem_singleton] at hp; subst hp; exact HFR.out
    · have := HRL.out; have := HBIG.out; have := HN.out; omega
 case hok =>
  rintro D K D' K' k x A1 ⟨h1, h2, h3, h4⟩ ⟨od, hd⟩ ⟨ol, hl⟩ hD' _ _ _
  have hfr : ∀ {l : List Nat} {u : Value}, Own w3.heap.size l u A1 → Free D u → Free D' u := fun ho hf b hb hd' => by
   obtain ⟨_, _, cc, hcc⟩ := rowN_lt ho b hb
   rcases hD' b hd' with h | h | h
   · exact hf b hb h
   · rw [h, hd] at hcc; cases hcc
   · rw [h, hl] at hcc; cases hcc
  exact ⟨h1, h2, hfr h2.k h3, hfr h2.v h4⟩
 case done =>
  rintro D k W D0 K0 hDl hi hdn hD
  obtain ⟨X, cR, R, t, hk⟩ := hi.ex
  have HBOX := zHd t.box
  have HGOT := zHd t.got
  have HLEN : Hid (R.length ≤ 1025) := by have := t.len; unfold Hid; omega
  have HBW := zHd hi.below
  have HDD := zHd hD
  have HDL := zHd hDl
  have HEQ : Hid (∀ L, IsB b L → L = R.map Prod.fst) := fun L hL => by
   have hB := HBI.out L hL
   have h1 := (t.is L hB).2
   have h2 := hdn L hB
   rw [← h2, List.take_length] at h1
   exact h1
  clear hDl hi hdn hD t hk
  refine ak _ _ ?_
  have q0 := HBOX.out.cell
  have HW := zHd (write_any (c := cR) HGOT.out.rs (zNr _) HGOT.out.capd.1 (by have := HLEN.out; omega))
  go_wp2_with fail
  refine HW.out.mono ?_
  rintro x w4 ⟨hx4, (⟨hmb, B, cb, rfl, hown⟩ | ⟨hmb, rfl⟩)⟩
  · have HX4 := zHd hx4
    have HMB := zHd hmb
    have HOW := zHd hown
    have HB4 : Hid (Below w.heap.size w w4) := HBW.out.trans (hx4.mono HBW.out.size)
    have HEQL := zHd (bequal_any hown.bs (HV.out.below (HBW.out.trans (hx4.mono HBW.out.size)) HHI.out) (wr_lt hmb (fun e he => by obtain ⟨p, hp, rfl⟩ := List.mem_map.1 he; exact ⟨(HGOT.out.each p hp).good.bk, (HGOT.out.each p hp).good.bv⟩)) HBY.out)
    have q1 := ext_cell hx4 q0
    have HDD4 : Hid (w4.heap[D]? = some (.deferred (some []))) := ext_heap hx4 HDD.out
    have HG4 := zHd (HGOT.out.below hx4)
    clear hx4 hmb hown q0
    go_wp2_with fail
    refine HEQL.out.mono ?_
    rintro x w5 ⟨⟨z, hz, rfl⟩, rfl⟩
    have HZ := zHd hz
    clear hz
    have HF : Hid (Below w.heap.size w (w5.putObj D (.deferred none))) := HB4.out.trans ((putObj_chg w5 D _).below (fun i e => by have := HDL.out; have := HLB.out; omega) HB4.out.size)
    have HGF : Hid (Got w.heap.size (.slice X R.length cR) R (w5.putObj D (.deferred none))) := HG4.out.keepS (putObj_chg w5 D _) (fun bb hbb e => got_not HG4.out hbb (by rw [e]; exact HDD4.out))
    cases z with
    | true =>
     have HIS : Hid (IsB b (R.map Prod.fst)) := ⟨HMB.out, HZ.out.1 rfl⟩
     go_wp2_with fail
     refine ⟨by simp, .inl ⟨_, _, rfl, run_takeDeferred HDD4.out, ?_⟩⟩
     exact ⟨_, results_tmp rfl _ _ _, HF.out, .inl ⟨R, X, cR, HIS.out, rfl, HGF.out⟩⟩
    | false =>
     have HNO : Hid (∀ L, ¬ IsB b L) := fun L hL => by
      have h1 := HEQ.out L hL
      have h2 := HZ.out.2 (by rw [← h1]; exact hL.2)
      cases h2
     go_wp2_with fail
     refine (giveUp_any _).mono ?_
     rintro x w6 ⟨rfl, rfl⟩
     refine ⟨by simp, .inl ⟨_, _, rfl, run_takeDeferred HDD4.out, ?_⟩⟩
     exact ⟨HF.out, .inr ⟨rfl, HNO.out⟩⟩
  · have HX4 := zHd hx4
    have HB4 : Hid (Below w.heap.size w w4) := HBW.out.trans (hx4.mono HBW.out.size)
    have HEQL := zHd (bequal_any (Bs.nil w4 0 0) (HV.out.below (HBW.out.trans (hx4.mono HBW.out.size)) HHI.out) (by simp) HBY.out)
    have HDD4 : Hid (w4.heap[D]? = some (.deferred (some []))) := ext_heap hx4 HDD.out
    have HNO : Hid (∀ L, ¬ IsB b L) := fun L hL => hmb (by rw [← HEQ.out L hL]; exact hL.1)
    clear hx4 hmb q0
    go_wp2_with fail
    refine HEQL.out.mono ?_
    rintro x w5 ⟨⟨z, hz, rfl⟩, rfl⟩
    have hz0 : z = false := by
     cases z with
     | false => rfl
     | true => have h1 := hz.1 rfl; have h2 := HBL.out.2; rw [← h1] at h2; simp at h2
    subst hz0
    clear hz
    have HF : Hid (Below w.heap.size w (w5.putObj D (.deferred none))) := HB4.out.trans ((putObj_chg w5 D _).below (fun i e => by have := HDL.out; have := HLB.out; omega) HB4.out.size)
    go_wp2_with fail
    refine (giveUp_any _).mono ?_
    rintro x w6 ⟨rfl, rfl⟩
    refine ⟨by simp, .inl ⟨_, _, rfl, run_takeDeferred HDD4.out, ?_⟩⟩
    exact ⟨HF.out, .inr ⟨rfl, HNO.out⟩⟩
 case pan =>
  rintro D k W D0 K0 ch hDl hi ⟨rfl, hno⟩ hD
  have hbw := hi.below
  refine ⟨by simp, .inl ⟨_, _, rfl, run_takeDeferred hD, ?_⟩⟩
  exact ⟨hbw.trans ((putObj_chg W D _).below (fun i e => by have := HLB.out; omega) hbw.size), .inr ⟨rfl, fun L hL => hno L (HBI.out L hL)⟩⟩
 case stop =>
  rintro D cd W hDl ⟨rfl, hb, X, cR, R, h1, h2, h3, h4, h5⟩ hD
  have HBOX := zHd h1
  have HGOT := zHd h2
  have HLEN : Hid (R.length ≤ 1025) := Nat.le_of_eq h3
  have HBW := zHd hb
  have HDD := zHd hD
  have HDL := zHd hDl
  have HEQ : Hid (∀ L, IsB b L → L = R.map Prod.fst) := fun L hL => by
   have h6 := h4 L (HBI.out L hL)
   have h7 := hL.1.2.1
   omega
  clear hDl hb h1 h2 h3 h4 h5 hD
  refine wpIn_wide.2 ?_
  have q0 := HBOX.out.cell
  have HW := zHd (write_any (c := cR) HGOT.out.rs (zNr _) HGOT.out.capd.1 (by have := HLEN.out; omega))
  go_wp2_with fail
  refine HW.out.mono ?_
  rintro x w4 ⟨hx4, (⟨hmb, B, cb, rfl, hown⟩ | ⟨hmb, rfl⟩)⟩
  · have HX4 := zHd hx4
    have HMB := zHd hmb
    have HOW := zHd hown
    have HB4 : Hid (Below w.heap.size w w4) := HBW.out.trans (hx4.mono HBW.out.size)
    have HEQL := zHd (bequal_any hown.bs (HV.out.below (HBW.out.trans (hx4.mono HBW.out.size)) HHI.out) (wr_lt hmb (fun e he => by obtain ⟨p, hp, rfl⟩ := List.mem_map.1 he; exact ⟨(HGOT.out.each p hp).good.bk, (HGOT.out.each p hp).good.bv⟩)) HBY.out)
    have q1 := ext_cell hx4 q0
    have HDD4 : Hid (w4.heap[D]? = some (.deferred (some []))) := ext_heap hx4 HDD.out
    have HG4 := zHd (HGOT.out.below hx4)
    clear hx4 hmb hown q0
    go_wp2_with fail
    refine HEQL.out.mono ?_
    rintro x w5 ⟨⟨z, hz, rfl⟩, rfl⟩
    have HZ := zHd hz
    clear hz
    have HF : Hid (Below w.heap.size w (w5.putObj D (.deferred none))) := HB4.out.trans ((putObj_chg w5 D _).below (fun i e => by have := HDL.out; have := HLB.out; omega) HB4.out.size)
    have HGF : Hid (Got w.heap.size (.slice X R.length cR) R (w5.putObj D (.deferred none))) := HG4.out.keepS (putObj_chg w5 D _) (fun bb hbb e => got_not HG4.out hbb (by rw [e]; exact HDD4.out))
    cases z with
    | true =>
     have HIS : Hid (IsB b (R.map Prod.fst)) := ⟨HMB.out, HZ.out.1 rfl⟩
     go_wp2_with fail
     refine ⟨by simp, .inl ⟨_, _, rfl, run_takeDeferred HDD4.out, ?_⟩⟩
     exact ⟨_, results_tmp rfl _ _ _, HF.out, .inl ⟨R, X, cR, HIS.out, rfl, HGF.out⟩⟩
    | false =>
     have HNO : Hid (∀ L, ¬ IsB b L) := fun L hL => by
      have h1 := HEQ.out L hL
      have h2 := HZ.out.2 (by rw [← h1]; exact hL.2)
      cases h2
     go_wp2_with fail
     refine (giveUp_any _).mono ?_
     rintro x w6 ⟨rfl, rfl⟩
     refine ⟨by simp, .inl ⟨_, _, rfl, run_takeDeferred HDD4.out, ?_⟩⟩
     exact ⟨HF.out, .inr ⟨rfl, HNO.out⟩⟩
  · have HX4 := zHd hx4
    have HB4 : Hid (Below w.heap.size w w4) := HBW.out.trans (hx4.mono HBW.out.size)
    have HEQL := zHd (bequal_any (Bs.nil w4 0 0) (HV.out.below (HBW.out.trans (hx4.mono HBW.out.size)) HHI.out) (by simp) HBY.out)
    have HDD4 : Hid (w4.heap[D]? = some (.deferred (some []))) := ext_heap hx4 HDD.out
    have HNO : Hid (∀ L, ¬ IsB b L) := fun L hL => hmb (by rw [← HEQ.out L hL]; exact hL.1)
    clear hx4 hmb q0
    go_wp2_with fail
    refine HEQL.out.mono ?_
    rintro x w5 ⟨⟨z, hz, rfl⟩, rfl⟩
    have hz0 : z = false := by
     cases z with
     | false => rfl
     | true => have h1 := hz.1 rfl; have h2 := HBL.out.2; rw [← h1] at h2; simp at h2
    subst hz0
    clear hz
    have HF : Hid (Below w.heap.size w (w5.putObj D (.deferred none))) := HB4.out.trans ((putObj_chg w5 D _).below (fun i e => by have := HDL.out; have := HLB.out; omega) HB4.out.size)
    go_wp2_with fail
    refine (giveUp_any _).mono ?_
    rintro x w6 ⟨rfl, rfl⟩
    refine ⟨by simp, .inl ⟨_, _, rfl, run_takeDeferred HDD4.out, ?_⟩⟩
    exact ⟨HF.out, .inr ⟨rfl, HNO.out⟩⟩
end Go.Proofs.YtkdidghfcfcpfaaGreat
namespace Go.Proofs.YtkdidghfcfcpfaaGreat
open Go.ChangeShapes Go.WideShapes Go.ChangeAt Go.RowKit
theorem catch_panicking (p q : Nat) (v0 v1 : Value) (u : TypeId) (pv : Value) (older : List PanicEntry) (w : World) (hp : Boxed w p 28 v0) (hq : Boxed w q 25 v1) (hne : p ≠ q) :
    CallsD Tryz.prog 110 #[.pointer (some ⟨p, 0, none⟩), .pointer (some ⟨q, 0, none⟩)] (.panicking ({ v := .iface u pv, recovered := false } :: older)) w fun e u' w' =>
     e = .returned (.tuple #[]) ∧ u' = .panicking ({ v := .iface u pv, recovered := true } :: older) ∧ w' = (w.setCell ⟨p, 0, none⟩ (.slice none 0 0)).setCell ⟨q, 0, none⟩ (.int .i64 4) := by
 have hc := hp.cell
 have hz := hp.frozen
 have hq2 : Boxed (w.setCell ⟨p, 0, none⟩ (.slice none 0 0)) q 25 v1 := (Below.heap_setCell _ _ _ _ (by exact fun e => hne e.symm)).trans hq
 have hc2 := hq2.cell
 have hz2 := hq2.frozen
 refine callsD_of_wpS Tryz.func110 rfl fun c₀ cs hu => ?_
 apply wpS_seq
 apply wpS_region
 simp [wpOpsS, go_sem, recoverD, hu, Tryz.ntmps110, Exit.thenS]
 refine wpS_cond (t := true) (by simp [Act.eval, Array.replicate]) ?_
 simp only [if_true]
 apply wpS_region
 simp [wpOpsS, go_sem, hc, hz, hc2, hz2, bodyPostS, results, Tryz.results110]
theorem catch_idle (p q : Nat) (w : World) :
    CallsD Tryz.prog 110 #[.pointer (some ⟨p, 0, none⟩), .pointer (some ⟨q, 0, none⟩)] .returning w fun e u' w' => e = .returned (.tuple #[]) ∧ u' = .returning ∧ w' = w := by
 refine callsD_of_wpS Tryz.func110 rfl fun c₀ cs hu => ?_
 apply wpS_seq
 apply wpS_region
 simp [wpOpsS, go_sem, recoverD, hu, Tryz.ntmps110, Exit.thenS]
 refine wpS_cond (t := false) (by simp [Act.eval, Array.replicate]) ?_
 simp only [Bool.false_eq_true, if_false]
 refine wpS_of_wp (wp_skip ?_)
 cases c₀
 simp_all [bodyPostS, results, Tryz.results110]
def ReadBAns (w : World) (b : List Nat) (x : Ending) (w' : World) : Prop :=
 Ext w w' ∧ ((∃ (R : List (Ent × Hd)) (A : Option Addr) (c : Nat), IsB b (R.map Prod.fst) ∧ x = .returned (.tuple #[.slice A R.length c, .int .i64 0]) ∧ Got w.heap.size (.slice A R.length c) R w') ∨ ((∀ L, ¬ IsB b L) ∧ x = .returned (.tuple #[.slice none 0 0, .int .i64 4])))
theorem results_read (tmps : Array Value) (w : World) (g k : Nat) (v v' : Value) (hp : tmps.getD 2 undef = .pointer (some ⟨g, 0, none⟩)) (hq : tmps.getD 3 undef = .pointer (some ⟨k, 0, none⟩)) (hc : w.cell? ⟨g, 0, none⟩ = some v) (hc' : w.cell? ⟨k, 0, none⟩ = some v') :
    (results Tryz.f80 tmps).run Tryz.prog w = .ok (.tuple #[v, v']) w := by
 simp only [results, Tryz.results80]
 have hp' : tmps[2]?.getD undef = .pointer (some ⟨g, 0, none⟩) := by simpa using hp
 have hq' : tmps[3]?.getD undef = .pointer (some ⟨k, 0, none⟩) := by simpa using hq
 simp [Sem.run_bind, hp', hq', go_sem, hc, hc']
set_option maxRecDepth 100000 in
set_option maxHeartbeats 4000000 in
theorem bread_any {w : World} {lo hi : Nat} {v : Value} {b : List Nat} (hv : Bs w lo hi v b) (hhi : hi ≤ w.heap.size) (hb : ∀ x ∈ b, x < 256) (hl : b.length ≤ 1000000000) :
    Calls Tryz.prog 80 #[v] w (ReadBAns w b) := by
 obtain ⟨w1, hw1⟩ : ∃ w1, w1 = (w.alloc (.cells #[.slice none 0 0] 28)).alloc (.cells #[.int .i64 0] 25) := ⟨_, rfl⟩
 have HX1 : Hid (Ext w w1) := by rw [hw1]; exact zEt (ext_alloc _ _) (ext_alloc _ _)
 have HA1 : Hid (Boxed w1 w.heap.size 28 (.slice none 0 0)) := by rw [hw1]; exact ext_heap (ext_alloc _ _) (heap_at _ _ rfl)
 have HB1 : Hid (Boxed w1 (w.heap.size + 1) 25 (.int .i64 0)) := by rw [hw1]; exact heap_at _ _ (by simp)
 have HT := zHd (taken_any (hv.below HX1.out hhi) (zNt hhi HX1.out.size) hb hl)
 have HZ1 : Hid (w1.heap.size = w.heap.size + 2) := by rw [hw1]; simp [Hid]
 obtain ⟨A, c, rfl, _, _, _, _⟩ := hv
 have hmf := mkf
 clear hhi hb hl
 go_enter_defers Tryz.func80, Tryz.ntmps80
 go_wp2_with fail
 rw [← hw1]
 clear hw1
 refine HT.out.mono ?_
 rintro x w2 ⟨hx2, (⟨R, X, cR, his, rfl, hgot⟩ | ⟨rfl, hno⟩)⟩
 · have HX2 := zHd hx2
   have HIS := zHd his
   have HG := zHd hgot
   have ha : Boxed w2 w.heap.size 28 (.slice none 0 0) := ext_heap hx2 HA1.out
   have hb : Boxed w2 (w.heap.size + 1) 25 (.int .i64 0) := ext_heap hx2 HB1.out
   have HA2 := zHd ha
   have HB2 := zHd hb
   have q0 := ha.cell
   have q1 := ha.frozen
   have hb2 : Boxed (w2.setCell ⟨w.heap.size, 0, none⟩ (.slice X R.length cR)) (w.heap.size + 1) 25 (.int .i64 0) := (Below.heap_setCell _ _ _ _ (by show w.heap.size + 1 ≠ w.heap.size; omega)).trans hb
   have q2 := hb2.cell
   have q3 := hb2.frozen
   have HB3 := zHd hb2
   clear hx2 his hgot ha hb hb2
   go_wp2_with fail
   obtain ⟨w3, hw3⟩ : ∃ w3, w3 = (w2.setCell ⟨w.heap.size, 0, none⟩ (.slice X R.length cR)).setCell ⟨w.heap.size + 1, 0, none⟩ (.int .i64 0) := ⟨_, rfl⟩
   rw [← hw3]
   have ha3 : Boxed w3 w.heap.size 28 (.slice X R.length cR) := by rw [hw3]; exact (Below.heap_setCell _ _ _ _ (by show w.heap.size ≠ w.heap.size + 1; omega)).trans (HA2.out.set _)
   have hb3 : Boxed w3 (w.heap.size + 1) 25 (.int .i64 0) := by rw [hw3]; exact HB3.out.set _
   have hc3 : Chg (fun i => i = w.heap.size ∨ i = w.heap.size + 1) w2 w3 := by rw [hw3]; exact (Chg.setCell _ _ _ (.inl rfl)).trans (Chg.setCell _ _ _ (.inr rfl))
   have hx : Ext w w3 := Below.trans (zEt HX1.out HX2.out) (hc3.below (fun i h => by omega) (zEt HX1.out HX2.out).size)
   clear hw3
   refine leaves_cons (f := 110) (args := #[.pointer (some ⟨w.heap.size, 0, none⟩), .pointer (some ⟨w.heap.size + 1, 0, none⟩)]) (by simp) (by simp [go_sem]) ?_
   refine (catch_idle _ _ _).mono ?_
   rintro e u' w4 ⟨rfl, rfl, rfl⟩
   refine ⟨_, results_read _ _ _ _ _ _ rfl rfl ha3.cell hb3.cell, hx, .inl ⟨R, X, cR, HIS.out, rfl, ?_⟩⟩
   exact (HG.out.keepS hc3 (fun bb hbb e => by have := (HG.out.blk hbb).1; have := HZ1.out; omega)).base HX1.out.size
 · have HX2 := zHd hx2
   have HNO := zHd hno
   have ha : Boxed w2 w.heap.size 28 (.slice none 0 0) := ext_heap hx2 HA1.out
   have hb : Boxed w2 (w.heap.size + 1) 25 (.int .i64 0) := ext_heap hx2 HB1.out
   refine leaves_cons (f := 110) (args := #[.pointer (some ⟨w.heap.size, 0, none⟩), .pointer (some ⟨w.heap.size + 1, 0, none⟩)]) (by simp) (by simp [go_sem]) ?_
   refine (catch_panicking _ _ _ _ _ _ [] _ ha hb (by omega)).mono ?_
   rintro e u' w4 ⟨rfl, rfl, hw4⟩
   have ha3 : Boxed w4 w.heap.size 28 (.slice none 0 0) := by rw [hw4]; exact (Below.heap_setCell _ _ _ _ (by show w.heap.size ≠ w.heap.size + 1; omega)).trans (ha.set _)
   have hb3 : Boxed w4 (w.heap.size + 1) 25 (.int .i64 4) := by
    rw [hw4]
    have h1 : Boxed (w2.setCell ⟨w.heap.size, 0, none⟩ (.slice none 0 0)) (w.heap.size + 1) 25 (.int .i64 0) := (Below.heap_setCell _ _ _ _ (by show w.heap.size + 1 ≠ w.heap.size; omega)).trans hb
    exact h1.set _
   have hc3 : Chg (fun i => i = w.heap.size ∨ i = w.heap.size + 1) w2 w4 := by rw [hw4]; exact (Chg.setCell _ _ _ (.inl rfl)).trans (Chg.setCell _ _ _ (.inr rfl))
   have hx : Ext w w4 := Below.trans (zEt HX1.out HX2.out) (hc3.below (fun i h => by omega) (zEt HX1.out HX2.out).size)
   exact ⟨_, results_read _ _ _ _ _ _ rfl rfl ha3.cell hb3.cell, hx, .inr ⟨HNO.out, rfl⟩⟩
end Go.Proofs.YtkdidghfcfcpfaaGreat
namespace Go.Proofs.YtkdidghfcfcpfaaGreat
open Go.ChangeShapes Go.WideShapes Go.ChangeAt Go.RowKit
def vlen : Value → Nat
 | .slice _ n _ => n
 | _ => 0
def RReadBAns (w : World) (b : List Nat) (x : Ending) (w' : World) : Prop :=
 Ext w w' ∧ ((∃ (R : List (Ent × Hd)) (A RA : Option Addr) (c rc : Nat), IsB b (R.map Prod.fst) ∧ x = .returned (.tuple #[.slice A R.length c, .slice RA (ats (R.map Prod.fst) (R.map Prod.fst).length).length rc, .int .i64 0]) ∧ Es w' w.heap.size w'.heap.size A R ∧ OwnI w.heap.size (ats (R.map Prod.fst) (R.map Prod.fst).length) (.slice RA (ats (R.map Prod.fst) (R.map Prod.fst).length).length rc) w' ∧ R.length ≤ c) ∨
  ((∀ L, ¬ IsB b L) ∧ x = .returned (.tuple #[.slice none 0 0, .slice none 0 0, .int .i64 4])))
theorem Held.esB {B : Nat} {A : Option Addr} {c : Nat} {R : List (Ent × Hd)} {w : World} (h : Held B (.slice A R.length c) R w) : Es w B w.heap.size A R := by
 refine ⟨?_, fun p hp => ?_⟩
 · rcases h.row.2 with ⟨h1, h2⟩ | ⟨g, cap, cur, hv, hg, hh, r⟩
   · injection h1 with e1 e2 _
     have : R = [] := List.eq_nil_of_length_eq_zero e2
     subst this; exact Sl.nil _ _ _ _
   · injection hv with e1 _ _
     subst e1
     refine .inr ⟨g, 0, rfl, hg, (zAg.1 hh).1, fun i u hu => ?_⟩
     have := h.row.cells (g := g) rfl i u hu
     rwa [addr_add] at this
 · obtain ⟨lo, hi, h1, h2, h3, _⟩ := h.each p hp
   exact h3.wide h1 h2
theorem Held.cap {B : Nat} {A : Option Addr} {c : Nat} {R : List (Ent × Hd)} {w : World} (h : Held B (.slice A R.length c) R w) : R.length ≤ c := by
 rcases h.row.2 with ⟨h1, _⟩ | ⟨g, cap, cur, hv, _, _, hn, _⟩
 · injection h1 with _ e2 _; omega
 · injection hv with _ _ e3; omega
structure RdSt (w : World) (B q lo hi : Nat) (bd : List Nat) (v : Value) (R : List (Ent × Hd)) (bA : Option Addr) (bc : Nat) (ah rest : List Nat) (u : World) : Prop where
 ahead : Ahead bd R.length ah rest
 took : ∀ L, BodyIs L bd → R.map Prod.fst = L.take R.length
 qd : Qd u q lo hi rest
 held : Held B v R u
 may : ∀ p ∈ R, p.1.may = true
 bf : Bs u B u.heap.size (.slice bA ah.length bc) ah
 ahb : ∀ x ∈ ah, x < 256
 ahl : ah.length ≤ 32
 few : R.length ≤ 1025
 x : Ext w u
 size : B ≤ u.heap.size
 len : rest.length ≤ 1000000000000
theorem wpList_pushgrown {ops : Array Oper} {rest : List Oper} {o : Oper} {a : Act} {Q : Exit → Act → World → Prop} {u : World} (hgd : o.guard = none) (s x : Operand)
    (ho : o.op = .call { callee := .builtin .append, args := #[s, x], argTypes := #[28, 28] }) (B : Nat) (v : Value) (R : List (Ent × Hd)) (hs : a.eval s = v) (hgot : Held B v R u)
    (p : Ent × Hd) (gb : Nat) (hx : a.eval x = .slice (some ⟨gb, 0, none⟩) 1 1) (hblk : u.heap[gb]? = some (.cells (ecells p).toArray 50 (0, 0)))
    (hp : ∃ lo hi, B ≤ lo ∧ hi ≤ u.heap.size ∧ Em u lo hi p.1 p.2 ∧ ∀ g, v.ownBlock = some g → g < lo ∨ hi ≤ g) (hlen : R.length ≤ 1000000000000) (hB : B ≤ u.heap.size)
    (h : ∀ A' c' w', Held B (.slice A' (R.length + 1) c') (R ++ [p]) w' → u.grownBy w' v.ownBlock → wpList Tryz.prog ops Q rest (a.put o.dst (.slice A' (R.length + 1) c')) w') :
    wpList Tryz.prog ops Q (o :: rest) a u := by
 obtain ⟨i0, hi0', ix0, ix1, ix2⟩ := info_parts einfo
 refine wpList_append_own_at _ hgd s x 28 ho B 50 i0 _ 4 64 Tryz.underlying28 hi0' ix0 ix1 ix2 rfl (by decide) v R.length (erow R) hs hgot.row ⟨gb, 0, none⟩ 1 1 (ecells p) hx rfl (fun j q hj => ?n1) (fun q hq => ?n2) ?n3 ?n4 hB (fun v' w5 ho hgr _ hat => ?rest)
 case n1 => rw [addr_add, Nat.zero_add]; exact cell_of hblk (by simpa using hj)
 case n2 => exact erow_one [p] q (by simpa [erow] using hq)
 case n3 => unfold maxLen; omega
 case n4 => omega
 case rest =>
  have hlt := rowN_lt hgot.row
  have hke : ∀ q : Ent × Hd, (∃ lo hi, B ≤ lo ∧ hi ≤ u.heap.size ∧ Em u lo hi q.1 q.2 ∧ ∀ g, v.ownBlock = some g → g < lo ∨ hi ≤ g) → ∃ lo hi, B ≤ lo ∧ hi ≤ w5.heap.size ∧ Em w5 lo hi q.1 q.2 ∧ ∀ g, v'.ownBlock = some g → g < lo ∨ hi ≤ g := by
   rintro q ⟨lo, hi, h1, h2, h3, h4⟩
   refine ⟨lo, hi, h1, zNt h2 hgr.size, h3.grown hgr h2 h4, fun g hg => ?_⟩
   rcases hat with e | e
   · exact h4 g (e ▸ hg)
   · rw [e] at hg; injection hg with hg; omega
  have hgot' : Held B v' (R ++ [p]) w5 := by
   refine ⟨by rw [List.length_append, erow_append]; simpa [erow] using ho, fun q hq => ?_⟩
   rcases List.mem_append.1 hq with hq | hq
   · exact hke q (hgot.each q hq)
   · rw [List.mem_singleton] at hq; subst hq; exact hke q hp
  obtain ⟨A', c', rfl⟩ := rowN_slice ho
  exact h A' c' w5 hgot' hgr
set_option maxRecDepth 100000 in
set_option maxHeartbeats 16000000 in
theorem rread_any {w : World} {lo hi c : Nat} {A : Option Addr} {b : List Nat} (hv : Bs w lo hi (.slice A b.length c) b) (hhi : hi ≤ w.heap.size) (hb : ∀ x ∈ b, x < 256) (hl : b.length ≤ 1000000000) :
    Calls Tryz.prog 39 #[.slice A b.length c] w (RReadBAns w b) := by
 have HV := zHd hv
 have HHI := zHd hhi
 have HBY := zHd hb
 have HL := zHd hl
 have HC : Hid (b.length ≤ c ∧ c ≤ maxLen) := by obtain ⟨_, _, e1, h1, h2, _⟩ := hv; injection e1 with _ _ e3; rw [e3]; exact ⟨h1, h2⟩
 have HLAST : Hid (∀ L, IsB b L → 1 ≤ L.length ∧ L.length ≤ 1024 ∧ num4 (b.drop (b.length - 4)) = (L.length + 3) / 4 ∧ 4 * num4 (b.drop (b.length - 4)) + 4 ≤ b.length) := fun L h => by
  obtain ⟨_, _, h3, h4⟩ := h.last
  have h1 := h.1.1
  have h2 := h.1.2.1
  refine ⟨h1, h2, h3, ?_⟩
  omega
 clear hv hhi hb hl
 go_enter Tryz.func39, Tryz.ntmps39
 by_cases h8 : b.length < 8
 · have d : decide ((b.length : Int) < 8) = true := by simp; omega
   have dn : decide (b.length < 8) = true := decide_eq_true h8
   have HNO : Hid (∀ L, ¬ IsB b L) := fun L h => by have := HLAST.out L h; omega
   clear h8
   go_wp2_with fail
   go_ret3
   exact ⟨Ext.refl _, .inr ⟨HNO.out, rfl⟩⟩
 have d8 : decide ((b.length : Int) < 8) = false := by simp; omega
 have d8n : decide (b.length < 8) = false := decide_eq_false h8
 obtain ⟨m, hm⟩ : ∃ m, m = b.length - 4 := ⟨_, rfl⟩
 have HM : Hid (m + 4 = b.length ∧ 4 ≤ m) := by unfold Hid; omega
 have hw : wrap64 ((b.length : Int) - 4) = (m : Int) := by have := HL.out; unfold wrap64; omega
 obtain ⟨t, ht⟩ : ∃ t, t = b.drop m := ⟨_, rfl⟩
 have htl : t.length = b.length - m := by rw [ht, List.length_drop]
 obtain ⟨A2, hA2, hA2n, hrun⟩ := tail_run A b.length c m (by omega) HC.out.1
 have hrun' : ∀ w, (Instr.slice 22 (.slice A b.length c) (some (.int .i64 (m : Int))) none none).run Tryz.prog w = .ok (.slice A2 t.length (c - m)) w := by rw [htl]; exact hrun
 have HT : Hid (Bs w lo hi (.slice A2 t.length (c - m)) t) := by
  obtain ⟨A', c', e1, h1, h2, h3, h4⟩ := HV.out
  injection e1 with e1 e2 e3
  subst e1 e3
  have h6 := hA2 b rfl _ _ _ h4
  rw [← ht] at h6
  exact ⟨A2, _, rfl, by rw [htl]; omega, by omega, fun e => by have := h3 (hA2n e); omega, h6⟩
 have HT4 : Hid (t.length = 4) := by unfold Hid; omega
 have HTB : Hid (∀ x ∈ t, x < 256) := fun x hx => HBY.out x (List.mem_of_mem_drop (by rw [← ht]; exact hx))
 obtain ⟨N, hN⟩ : ∃ N, N = num4 t := ⟨_, rfl⟩
 have HNL : Hid (N < 4294967296) := by rw [hN]; exact num4_lt HT4.out HTB.out
 have HNN : Hid (num4 (b.drop (b.length - 4)) = N) := by rw [← hm, ← ht]; exact hN.symm
 have HNT := zHd hN
 clear h8 hA2 hA2n hrun hm ht htl hN
 go_wp2_with fail
 refine (rnum8_any HT.out HT4.out HTB.out).mono ?_
 rintro x w1 ⟨rfl, hx1⟩
 have HX1 := zHd hx1
 clear hx1 hrun'
 rw [← HNT.out]
 by_cases hc : 1 ≤ N
 rotate_left
 · have HNO : Hid (∀ L, ¬ IsB b L) := fun L h => by have := HLAST.out L h; have := HNN.out; omega
   have g : decide ((N : Int) < 1) = true := by simp; omega
   obtain rfl : N = 0 := by omega
   clear hc
   go_wp2_with fail
   go_ret3
   exact ⟨HX1.out, .inr ⟨HNO.out, rfl⟩⟩
 have g1 : decide ((N : Int) < 1) = false := by simp; omega
 have g1n : decide (N < 1) = false := by simp; omega
 have g1z : decide (N = 0) = false := by simp; omega
 have g1e : (N == 0) = false := by simp; omega
 have HN1 := zHd hc
 clear hc
 by_cases hc : N ≤ 1024
 rotate_left
 · have HNO : Hid (∀ L, ¬ IsB b L) := fun L h => by have := HLAST.out L h; have := HNN.out; omega
   have g : decide ((1024 : Int) < (N : Int)) = true := by simp; omega
   have gn : decide (1024 < N) = true := by simp; omega
   clear hc
   go_wp2_with fail
   go_ret3
   exact ⟨HX1.out, .inr ⟨HNO.out, rfl⟩⟩
 have g2 : decide ((1024 : Int) < (N : Int)) = false := by simp; omega
 have g2n : decide (1024 < N) = false := by simp; omega
 have HN2 := zHd hc
 clear hc
 obtain ⟨q4, hq4⟩ : ∃ q, q = 4 * N := ⟨_, rfl⟩
 have hw2 : wrap64 (4 * (N : Int)) = (q4 : Int) := by have := HN2.out; unfold wrap64; omega
 obtain ⟨r4, hr4⟩ : ∃ q, q = q4 + 4 := ⟨_, rfl⟩
 have hw3 : wrap64 ((q4 : Int) + 4) = (r4 : Int) := by have := HN2.out; unfold wrap64; omega
 have HQR : Hid (q4 = 4 * N ∧ r4 = q4 + 4) := ⟨hq4, hr4⟩
 clear hq4 hr4
 by_cases hc : r4 ≤ b.length
 rotate_left
 · have HNO : Hid (∀ L, ¬ IsB b L) := fun L h => by have := HLAST.out L h; have := HNN.out; have := HQR.out; omega
   have g : decide ((b.length : Int) < (r4 : Int)) = true := by simp; omega
   have gn : decide (b.length < r4) = true := by simp; omega
   clear hc
   go_wp2_with fail
   go_ret3
   exact ⟨HX1.out, .inr ⟨HNO.out, rfl⟩⟩
 have g3 : decide ((b.length : Int) < (r4 : Int)) = false := by simp; omega
 have g3n : decide (b.length < r4) = false := by simp; omega
 obtain ⟨k, hk⟩ : ∃ k, k = m - q4 := ⟨_, rfl⟩
 have HK : Hid (k + q4 = m ∧ k ≤ b.length) := by have := HM.out; have := HQR.out; unfold Hid; omega
 have hw4 : wrap64 ((m : Int) - (q4 : Int)) = (k : Int) := by have := HK.out; have := HM.out; have := HL.out; unfold wrap64; omega
 obtain ⟨bd, hbd⟩ : ∃ bd, bd = bodyOf b := ⟨_, rfl⟩
 have HBD := zHd hbd
 have hbk : bd = b.take k := by rw [hbd]; unfold bodyOf; rw [HNN.out]; have := HK.out; have := HM.out; have := HQR.out; congr 1; omega
 have hbl : bd.length = k := by rw [hbk, List.length_take]; have := HK.out; omega
 obtain ⟨A3, hA3, hA3n, hrun3⟩ := head_run .i64 A b.length c k HK.out.2 HC.out.1
 have hrun' : ∀ w, (Instr.slice 22 (.slice A b.length c) none (some (.int .i64 (k : Int))) none).run Tryz.prog w = .ok (.slice A3 bd.length c) w := by rw [hbl]; exact hrun3
 have HB3 : Hid (Bs w1 lo hi (.slice A3 bd.length c) bd) := by
  obtain ⟨A', c', e1, h1, h2, h3, h4⟩ := HV.out.below HX1.out HHI.out
  injection e1 with e1 e2 e3
  subst e1 e3
  have h6 := hA3 b rfl _ _ _ h4
  rw [← hbk] at h6
  exact ⟨A3, _, rfl, by have := HK.out; omega, h2, fun e => h3 (hA3n e), h6⟩
 have HBDL : Hid (bd.length ≤ 1000000000) := by have := HK.out; have := HL.out; unfold Hid; omega
 have HBDB : Hid (∀ x ∈ bd, x < 256) := fun x hx => HBY.out x (List.mem_of_mem_take (by rw [← hbk]; exact hx))
 clear hc hk hbd hbk hbl hA3 hA3n hrun3
 go_upto_region 7 with (fail)
 obtain ⟨w2, hw2'⟩ : ∃ w2, w2 = w1.alloc (.cells #[.slice A3 bd.length c] 73) := ⟨_, rfl⟩
 rw [← hw2']
 have HX2 : Hid (Ext w w2) := by rw [hw2']; exact zEt HX1.out (ext_alloc _ _)
 obtain ⟨q, hq⟩ : ∃ q, q = w1.heap.size := ⟨_, rfl⟩
 rw [← hq]
 have HZ2 : Hid (w2.heap.size = q + 1 ∧ w.heap.size ≤ q) := ⟨by rw [hw2', hq]; simp, by rw [hq]; exact HX1.out.size⟩
 have HQ2 : Hid (Qd w2 q lo hi bd) := ⟨⟨.slice A3 bd.length c, by rw [hw2', hq]; exact heap_at _ _ rfl, by rw [hw2']; exact HB3.out.below (ext_alloc _ _) (zNt HHI.out HX1.out.size)⟩, by have := HHI.out; have := HZ2.out; omega, by have := HHI.out; have := HZ2.out; omega, HBDB.out⟩
 clear hw2' hq hrun' hw hw2 hw3 hw4 d8 d8n g1 g1n g1z g1e g2 g2n g3 g3n
 go_wp2_with fail
 go_loopw [7, 8, 9, 10] (fun v bf _ _ wr => ∃ (R : List (Ent × Hd)) (vA : Option Addr) (vc : Nat) (bA : Option Addr) (bc : Nat) (ah rest : List Nat), v = .slice vA R.length vc ∧ bf = .slice bA ah.length bc ∧ Hid (RdSt w w2.heap.size q lo hi bd (.slice vA R.length vc) R bA bc ah rest wr)) (fun v _ _ _ _ => 1100 - vlen v)
 case atStart => exact ⟨[], none, 0, none, 0, [], bd, rfl, rfl, ⟨Ahead.start _, fun L _ => (List.take_zero).symm, HQ2.out, Held.nil _ _, by simp, Bs.nil _ _ _, by simp, by simp, by simp, HX2.out, zNr _, by have := HBDL.out; omega⟩⟩
 case round =>
  obtain ⟨R, vA, vc, bA, bc, ah, rest, rfl, rfl, HST⟩ := hrel
  have HLEFT := zHd (RLeft_any _ _ _ _ _ HST.out.qd)
  have HEND : Hid (∀ L, IsB b L → R.length ≤ L.length) := fun L h => by have := h.body; rw [← HBD.out] at this; exact (HST.out.ahead.is L this).1
  by_cases hr0 : rest.length = 0
  · have HR0 : Hid (rest = []) := List.eq_nil_of_length_eq_zero hr0
    have f1 : decide ((0 : Int) < (rest.length : Int)) = false := decide_eq_false (by omega)
    have f1n : decide (0 < rest.length) = false := decide_eq_false (by omega)
    have HALL : Hid (∀ L, IsB b L → L = R.map Prod.fst) := fun L h => by
     have hb := h.body
     rw [← HBD.out] at hb
     have ha := HST.out.ahead
     rw [HR0.out] at ha
     have h1 := ha.ends hb
     have h2 := HST.out.took L hb
     rw [h2, ← h1, List.take_length]
    have hes := HST.out.held.es
    have HMB := zHd (rmayb_any (c := vc) hes (zNr _) (by have := HST.out.few; omega) (fun p hp => by have := mayN_iff.1 (HST.out.may p hp); omega))
    clear hr0 hes
    go_wp2_with fail
    refine HLEFT.out.mono ?_
    rintro x _ ⟨rfl, rfl⟩
    go_wp2_with fail
    refine HMB.out.mono ?_
    rintro x w3 ⟨z, hz, rfl, hx3⟩
    have HX3 := zHd hx3
    have HZ := zHd hz
    clear hx3 hz
    rcases z with _ | _
    · have HNO : Hid (∀ L, ¬ IsB b L) := fun L h => by
        have h1 := h.1
        rw [HALL.out L h] at h1
        exact absurd (HZ.out.2 h1) (by decide)
      go_wp2_with fail
      go_ret3
      exact ⟨zEt HST.out.x HX3.out, .inr ⟨HNO.out, rfl⟩⟩
    have HMY : Hid (MayB (R.map Prod.fst)) := HZ.out.1 rfl
    obtain ⟨Ls, hLs⟩ : ∃ Ls, Ls = R.map Prod.fst := ⟨_, rfl⟩
    have HW := zHd (rwrite_any (c := vc) (HST.out.held.es.below HX3.out (zNr _)) HX3.out.size HMY.out)
    rw [← hLs] at HW HMY HALL
    have HLS := zHd hLs
    clear hLs
    go_wp2_with fail
    refine HW.out.mono ?_
    rintro x w4 ⟨WA, wc, RA, rc, rfl, hst⟩
    have HW4 := zHd hst
    have HBW : Hid (∀ x ∈ _root_.Go.Proofs.YtkdidghfcfcpfaaGreat.wr Ls, x < 256) := wr_lt HMY.out (fun e he => by
     rw [HLS.out] at he
     obtain ⟨p, hp, rfl⟩ := List.mem_map.1 he
     obtain ⟨_, _, _, _, hem, _⟩ := HST.out.held.each p hp
     exact ⟨hem.bk, hem.bv⟩)
    obtain ⟨W, hW⟩ : ∃ W, W = _root_.Go.Proofs.YtkdidghfcfcpfaaGreat.wr Ls := ⟨_, rfl⟩
    have HWE := zHd hW
    rw [← hW] at HW4 HBW ⊢
    have v1 := cv_any HW4.out.b.bs
    have v2 := cv_any (HV.out.below (zEt (zEt HST.out.x HX3.out) HW4.out.x) HHI.out)
    have t1 := tx_same HBW.out HBY.out
    clear hst hW
    by_cases he : W = b
    · rw [decide_eq_true he] at t1
      have HE := zHd he
      clear he
      go_wp2_with fail
      go_ret3
      have hs := HLS.out
      subst hs
      exact ⟨zEt (zEt HST.out.x HX3.out) HW4.out.x, .inl ⟨R, vA, RA, vc, rc, ⟨HMY.out, by rw [← HWE.out]; exact HE.out⟩, rfl, (HST.out.held.esB.below (zEt HX3.out HW4.out.x) (zNr _)).wide (by have := HZ2.out; omega) (zEt HX3.out HW4.out.x).size, HW4.out.r.base (zEt HST.out.x HX3.out).size, HST.out.held.cap⟩⟩
    · rw [decide_eq_false he] at t1
      have HNO : Hid (∀ L, ¬ IsB b L) := fun L h => he (by rw [HWE.out, ← HALL.out L h]; exact h.2)
      clear he
      go_wp2_with fail
      go_ret3
      exact ⟨zEt (zEt HST.out.x HX3.out) HW4.out.x, .inr ⟨HNO.out, rfl⟩⟩
  have f1 : decide ((0 : Int) < (rest.length : Int)) = true := decide_eq_true (by omega)
  have f1n : decide (0 < rest.length) = true := decide_eq_true (by omega)
  have HRN : Hid (rest ≠ []) := fun h => hr0 (by rw [h]; rfl)
  clear hr0
  by_cases hf : R.length ≤ 1024
  rotate_left
  · have f2 : decide ((R.length : Int) ≤ 1024) = false := by simp; omega
    have f2n : decide (R.length ≤ 1024) = false := by simp; omega
    have HNO : Hid (∀ L, ¬ IsB b L) := fun L h => by have := HEND.out L h; have := HLAST.out L h; omega
    have hes := HST.out.held.es
    have HMB := zHd (rmayb_any (c := vc) hes (zNr _) (by have := HST.out.few; omega) (fun p hp => by have := mayN_iff.1 (HST.out.may p hp); omega))
    have HMN : Hid (¬ MayB (R.map Prod.fst)) := fun h => by have := h.2.1; rw [List.length_map] at this; omega
    clear hf hes
    go_wp2_with fail
    refine HLEFT.out.mono ?_
    rintro x _ ⟨rfl, rfl⟩
    go_wp2_with fail
    refine HMB.out.mono ?_
    rintro x w3 ⟨z, hz, rfl, hx3⟩
    have HX3 := zHd hx3
    have hzf : z = false := by
     rcases z with _ | _
     · rfl
     · exact absurd (hz.1 rfl) HMN.out
    subst hzf
    clear hx3 hz
    go_wp2_with fail
    go_ret3
    exact ⟨zEt HST.out.x HX3.out, .inr ⟨HNO.out, rfl⟩⟩
  have f2 : decide ((R.length : Int) ≤ 1024) = true := by simp; omega
  have f2n : decide (R.length ≤ 1024) = true := by simp; omega
  have HF := zHd hf
  have HENT := zHd (rent_any HST.out.qd HST.out.bf (zNr _) (.inl (by have := HZ2.out; omega)) HST.out.ahb (by have := HST.out.ahl; omega) HST.out.len)
  clear hf
  go_wp2_with fail
  refine HLEFT.out.mono ?_
  rintro x _ ⟨rfl, rfl⟩
  go_wp2_with fail
  refine HENT.out.mono ?_
  rintro x w3 ⟨hg, (⟨e, g, rest', hs, rfl, hqd, hem⟩ | ⟨⟨a0, a1, a2, a3, rfl⟩, hno⟩)⟩
  rotate_left
  · have HX3 : Hid (Ext w w3) := HST.out.x.grown hg HST.out.x.size (fun k hk => by injection hk with hk; have := HZ2.out; omega)
    have HNO : Hid (∀ L, ¬ IsB b L) := fun L h => by
     have hb := h.body
     rw [← HBD.out] at hb
     obtain ⟨e, _, hs⟩ := HST.out.ahead.stands hb HRN.out
     exact hno _ _ hs
    clear hg hno
    unfold Ent.at_
    go_wp2_with fail
    go_ret3
    exact ⟨zEt HX3.out (ext_alloc _ _), .inr ⟨HNO.out, rfl⟩⟩
  have HG3 := zHd hg
  have HS3 := zHd hs
  have HQ3 := zHd hqd
  have HEM3 := zHd hem
  have HX3 : Hid (Ext w w3) := HST.out.x.grown hg HST.out.x.size (fun k hk => by injection hk with hk; have := HZ2.out; omega)
  have HH3 := zHd (HST.out.held.grown hg (by have := HZ2.out; omega))
  clear hg hs hqd hem
  unfold Ent.at_
  go_upto_region 13 with (fail)
  obtain ⟨w5, hw5⟩ : ∃ w5, w5 = w3.alloc (.cells #[.slice g.kA e.key.length g.kc, .int .i64 e.seq, .int .i64 e.kind, .slice g.vA e.val.length g.vc] 50) := ⟨_, rfl⟩
  rw [← hw5]
  have HX5 : Hid (Ext w3 w5) := by rw [hw5]; exact ext_alloc _ _
  have HB5 : Hid (w5.heap[w3.heap.size]? = some (.cells #[.slice g.kA e.key.length g.kc, .int .i64 e.seq, .int .i64 e.kind, .slice g.vA e.val.length g.vc] 50 (0, 0))) := by rw [hw5]; exact heap_at _ _ rfl
  have c0 := cell_of HB5.out (k := 0) rfl
  have c1 := cell_of HB5.out (k := 1) rfl
  have c2 := cell_of HB5.out (k := 2) rfl
  have c3 := cell_of HB5.out (k := 3) rfl
  have HH5 := zHd (HH3.out.below HX5.out)
  have HEM5 := zHd (HEM3.out.below HX5.out (zNr _))
  have HROW := zHd (rowN_lt HST.out.held.row)
  have HSZ : Hid (w2.heap.size ≤ wr.heap.size ∧ wr.heap.size ≤ w3.heap.size ∧ w3.heap.size ≤ w5.heap.size) := ⟨HST.out.size, HG3.out.size, HX5.out.size⟩
  obtain ⟨g5, hg5⟩ : ∃ g5, g5 = w3.heap.size := ⟨_, rfl⟩
  rw [← hg5] at c0 c1 c2 c3 HB5 ⊢
  have HG5 := zHd hg5
  clear hw5 hg5
  go_wp2_with (at_builtin; refine wpList_pushgrown rfl (.tmp 62) (.tmp 64) rfl w2.heap.size _ R rfl (HH5.out.below (ext_alloc _ _)) (e, g) w5.heap.size rfl ?blk ?each ?len ?hB ?_)
  case blk => exact heap_at _ _ rfl
  case each => exact ⟨wr.heap.size, HSZ.out.1, w3.heap.size, zNt HSZ.out.2.2 (Nat.le_succ _), HEM5.out.below (ext_alloc _ _) HSZ.out.2.2, fun g' hg' => .inl (HROW.out g' hg').2.1⟩
  case len => have := HF.out; omega
  case hB => have := HSZ.out; exact zNt (zNt (zNt HSZ.out.1 HSZ.out.2.1) HSZ.out.2.2) (ext_alloc _ _).size
  intro A6 c6 w6 hh6 hg6
  have hne : ∀ k, (Value.slice vA R.length vc).ownBlock = some k → w2.heap.size ≤ k ∧ k < g5 := fun k hk => by have := HROW.out k hk; have := HSZ.out; have := HG5.out; omega
  have HB6 : Hid (w6.heap[g5]? = some (.cells #[.slice g.kA e.key.length g.kc, .int .i64 e.seq, .int .i64 e.kind, .slice g.vA e.val.length g.vc] 50 (0, 0))) :=
   (hg6.block g5 (Nat.lt_of_lt_of_le (zAg.1 HB5.out).1 (ext_alloc _ _).size) (fun h => by have := hne _ h.symm; omega)).trans (ext_heap (ext_alloc _ _) HB5.out)
  have HX6 : Hid (Below w2.heap.size w3 w6) := ((HX5.out.mono (zNt HSZ.out.1 HSZ.out.2.1)).trans ((ext_alloc _ _).mono (by have := HSZ.out; omega))).grown hg6 (by have := HSZ.out; exact zNt (by omega) (ext_alloc _ _).size) (fun k hk => (hne k hk).1)
  have HH6 := zHd hh6
  have HQ6 := zHd (HQ3.out.below HX6.out (by have := HQ2.out.top; omega) (by have := HZ2.out; omega))
  have HXW : Hid (Ext w w6) := Below.trans HX3.out (HX6.out.mono (by have := HZ2.out; omega))
  have k0 := cell_of HB6.out (k := 0) rfl
  clear hh6 hg6 hne c0 c1 c2 c3
  go_wp2_with fail
  go_roundw
  case rel =>
   obtain ⟨h1, h2⟩ := HST.out.ahead.next HRN.out (fun e' r' hs' => by obtain ⟨a, b⟩ := hs'.unique HS3.out; exact ⟨a, b⟩)
   have hlen : (R ++ [(e, g)]).length = R.length + 1 := by simp
   refine ⟨R ++ [(e, g)], A6, c6, g.kA, g.kc, e.key, rest', by rw [hlen], rfl, ?_⟩
   rw [hlen]
   obtain ⟨elo, ehi, q1, q2, q3, _⟩ := HH6.out.each (e, g) (by simp)
   refine ⟨by rw [hlen]; exact h1, fun L hL => ?_, HQ6.out, by simpa using HH6.out, fun p hp => ?_, q3.k.wide q1 q2, q3.bk, (mayN_iff.1 HS3.out.1).2.1, by rw [hlen]; have := HF.out; omega, HXW.out, ?_, ?_⟩
   · rw [hlen, List.map_append, HST.out.took L hL, List.take_add_one, h2 L hL]; rfl
   · rcases List.mem_append.1 hp with hp | hp
     · exact HST.out.may p hp
     · rw [List.mem_singleton] at hp; rw [hp]; exact HS3.out.1
   · have := HX6.out.size; have := HSZ.out; omega
   · have hle : rest'.length ≤ rest.length := by
       obtain ⟨_, n, _, _, _, h⟩ := HS3.out
       have := congrArg List.length h
       simp only [List.length_append] at this
       omega
     exact zNt hle HST.out.len
  case measure => have := HF.out; simp [vlen]; omega
end Go.Proofs.YtkdidghfcfcpfaaGreat
namespace Go.Proofs.YtkdidghfcfcpfaaGreat.Bl
def pol : Nat := 2197175160
def sh (s : Nat) : Nat := (s / 2) ^^^ (s % 2 * pol)
def shn : Nat → Nat → Nat
 | 0, s => s
 | n + 1, s => shn n (sh s)
theorem shn_add (a b s : Nat) : shn (a + b) s = shn b (shn a s) := by
 induction a generalizing s with
 | zero => rw [Nat.zero_add]; rfl
 | succ a ih => rw [show a + 1 + b = (a + b) + 1 by omega]; exact ih _
theorem shn_succ' (n s : Nat) : shn (n + 1) s = sh (shn n s) := shn_add n 1 s
theorem xor_mod2 (a b : Nat) : (a ^^^ b) % 2 = (a % 2) ^^^ (b % 2) := by
 have h := Nat.xor_mod_two_pow (a := a) (b := b) (n := 1)
 simpa using h
theorem xor_div2 (a b : Nat) : (a ^^^ b) / 2 = (a / 2) ^^^ (b / 2) := by
 have h := Nat.xor_div_two_pow (a := a) (b := b) (n := 1)
 simpa using h
theorem bit_mul (a b p : Nat) : ((a % 2) ^^^ (b % 2)) * p = (a % 2 * p) ^^^ (b % 2 * p) := by
 rcases Nat.mod_two_eq_zero_or_one a with h | h <;> rcases Nat.mod_two_eq_zero_or_one b with k | k <;> simp [h, k]
theorem xor_swap (a b c d : Nat) : (a ^^^ b) ^^^ (c ^^^ d) = (a ^^^ c) ^^^ (b ^^^ d) := by
 rw [Nat.xor_assoc, ← Nat.xor_assoc b c d, Nat.xor_comm b c, Nat.xor_assoc c b d, ← Nat.xor_assoc]
theorem sh_xor (a b : Nat) : sh (a ^^^ b) = sh a ^^^ sh b := by
 unfold sh
 rw [xor_div2, xor_mod2, bit_mul, xor_swap]
theorem shn_xor (n a b : Nat) : shn n (a ^^^ b) = shn n a ^^^ shn n b := by
 induction n generalizing a b with
 | zero => rfl
 | succ n ih => unfold shn; rw [sh_xor, ih]
theorem xor_lt {a b : Nat} (h : a < 4294967296) (k : b < 4294967296) : a ^^^ b < 4294967296 := Nat.xor_lt_two_pow (n := 32) h k
theorem sh_lt {s : Nat} (h : s < 4294967296) : sh s < 4294967296 := by
 unfold sh
 refine xor_lt (by omega) ?_
 have : s % 2 < 2 := Nat.mod_lt _ (by omega)
 unfold pol
 omega
theorem shn_lt {n s : Nat} (h : s < 4294967296) : shn n s < 4294967296 := by
 induction n generalizing s with
 | zero => exact h
 | succ n ih => exact ih (sh_lt h)
def reg : Nat → List Nat → Nat
 | s, [] => s
 | s, c :: l => reg (shn 8 (s ^^^ c)) l
theorem reg_append (s : Nat) (l r : List Nat) : reg s (l ++ r) = reg (reg s l) r := by
 induction l generalizing s with
 | nil => rfl
 | cons c l ih => exact ih _
theorem reg_snoc (s : Nat) (l : List Nat) (c : Nat) : reg s (l ++ [c]) = shn 8 (reg s l ^^^ c) := by rw [reg_append]; rfl
theorem reg_lt {s : Nat} {l : List Nat} (h : s < 4294967296) (hl : ∀ c ∈ l, c < 256) : reg s l < 4294967296 := by
 induction l generalizing s with
 | nil => exact h
 | cons c l ih => exact ih (shn_lt (xor_lt h (by have := hl c (by simp); omega))) (fun x hx => hl x (by simp [hx]))
def ones : Nat := 4294967295
theorem ones_lt : ones < 4294967296 := by unfold ones; omega
def more (sum : Nat) (l : List Nat) : Nat := reg (sum ^^^ ones) l ^^^ ones
def crc (l : List Nat) : Nat := reg ones l ^^^ ones
theorem crc_lt {l : List Nat} (hl : ∀ c ∈ l, c < 256) : crc l < 4294967296 := xor_lt (reg_lt ones_lt hl) ones_lt
theorem more_lt {s : Nat} {l : List Nat} (h : s < 4294967296) (hl : ∀ c ∈ l, c < 256) : more s l < 4294967296 := xor_lt (reg_lt (xor_lt h ones_lt) hl) ones_lt
theorem more_zero (l : List Nat) : more 0 l = crc l := by unfold more crc; rw [Nat.zero_xor]
theorem shn4 (r : Nat) : shn 4 r = (r / 16) ^^^ shn 4 (r % 16) := by
 have h : r = (r / 16 * 16) ^^^ (r % 16) := by
  apply Nat.eq_of_testBit_eq
  intro i
  rw [Nat.testBit_xor, show r / 16 * 16 = (r / 2 ^ 4) <<< 4 by rw [Nat.shiftLeft_eq], Nat.testBit_shiftLeft, show r % 16 = r % 2 ^ 4 from rfl, Nat.testBit_mod_two_pow]
  by_cases hi : 4 ≤ i
  · have e2 : (r / 2 ^ 4).testBit (i - 4) = r.testBit i := by rw [Nat.testBit_div_two_pow]; congr 1; omega
    rw [e2]
    simp [hi, show ¬ i < 4 by omega]
  · simp [hi, show i < 4 by omega]
 have e2 : ∀ q, sh (2 * q) = q := by
  intro q; unfold sh
  rw [show 2 * q / 2 = q by omega, show 2 * q % 2 = 0 by omega, Nat.zero_mul, Nat.xor_zero]
 have e4 : shn 4 (r / 16 * 16) = r / 16 := by
  simp only [shn]
  rw [show r / 16 * 16 = 2 * (2 * (2 * (2 * (r / 16)))) by omega, e2, e2, e2, e2]
 conv => lhs; rw [h, shn_xor, e4]
theorem shn4_lt16 {n : Nat} (h : n < 16) : shn 4 n < 4294967296 := shn_lt (by omega)
end Go.Proofs.YtkdidghfcfcpfaaGreat.Bl
