/- Kents Kbody Keq Iargs Kgot Ktaken Kread Kfirst, joined. -/
import Derived.Test.YthhgjeeangepaaaGreatMu5
import Derived.Test.YthhgjeeangepaaaGreatMu3
import Derived.Lib.SmallJoins
import Derived.SizedLaws
import Derived.Deep.Slices
import Derived.Test.YthhgjeeangepaaaGreatMu6
import Derived.RangeFuncLeaves
import Derived.Defers
import Derived.Recover

/- entries: a function over which one ranges: what stands in bytes as entries, one behind the other. -/
namespace Go.Proofs.YthhgjeeangepaaaGreat
open Go.ChangeShapes Go.WideShapes Go.ChangeAt Go.RowKit

theorem enters_entries1 : ∀ args w, (callFunc 166 args).run Tryz.prog w = .ok (.enter 166 args) w := enters_of Tryz.func166 (by kernel_rfl) rfl

/-- A row's block is none of these. -/
def Free (D : Nat → Prop) (v : Value) : Prop := ∀ b, v.ownBlock = some b → ¬ D b
def entV (x : Ent × Hd) : Array Value := #[x.1.at_ x.2]
/-- The k-th entry that is handed over. -/
def EntOk (w : World) (bd : List Nat) (D _K : Nat → Prop) (k : Nat) (x : Ent × Hd) (A : World) : Prop :=
  (∀ L, BodyIs L bd → L[k]? = some x.1) ∧ Mine w.heap.size x A ∧ Free D (.slice x.2.kA x.1.key.length x.2.kc) ∧ Free D (.slice x.2.vA x.1.val.length x.2.vc)
def EntDone (bd : List Nat) (k : Nat) : Prop := ∀ L, BodyIs L bd → L.length = k
def EntPan (bd : List Nat) (_k : Nat) (ch : List PanicEntry) : Prop := ch = gaveUp ∧ ∀ L, ¬ BodyIs L bd
/-- How much is left, by the reader's cell. -/
def leftAt (r : Nat) (w : World) : Nat := match w.cell? ⟨r, 0, none⟩ with | some (.slice _ n _) => n | _ => 0
theorem Rd.left {w : World} {r lo hi : Nat} {l : List Nat} (h : Rd w r lo hi l) : leftAt r w = l.length := by
  obtain ⟨v, h1, A, c, rfl, _⟩ := h.ex
  unfold leftAt
  rw [h1.c0]
theorem Rd.stepK {w w' : World} {r lo hi : Nat} {l : List Nat} {K : Nat → Prop} (h : Rd w r lo hi l) (hs : StepK K w w') (hr : K r) (hk : ∀ i, lo ≤ i → i < hi → K i) : Rd w' r lo hi l := by
  obtain ⟨v, h1, h2⟩ := h.ex
  exact ⟨⟨v, (hs.stay r hr h1.lt).trans h1, h2.of fun _ h3 => Sl.keep h3 fun p h4 h5 => World.cell?_of_block (hs.stay p.block (hk _ h4 h5) (Nat.lt_of_lt_of_le h5 h.top))⟩, h.apart, Nat.le_trans h.top hs.size, h.byt⟩
/-- The key ahead, where it lies. -/
structure KeyAt (W : World) (r : Nat) (K : Nat → Prop) (v : Value) (ah : List Nat) (wr : World) : Prop where
  ex : ∃ lo hi, Bs wr lo hi v ah ∧ hi ≤ wr.heap.size ∧ (r < lo ∨ hi ≤ r) ∧ ∀ i, lo ≤ i → i < hi → K i
  byt : ∀ x ∈ ah, x < 256

set_option maxRecDepth 100000 in
set_option maxHeartbeats 8000000 in
theorem entries_iter {w : World} {lo hi bb c : Nat} {A : Option Addr} {bd : List Nat} (h : Bs w lo hi (.slice A bd.length c) bd) (hhi : hi ≤ w.heap.size) (hb : ∀ x ∈ bd, x < 256) (hl : bd.length ≤ 1000000000) (hbb : w.cell? ⟨bb, 0, none⟩ = some (.slice A bd.length c)) :
    IterP Tryz.prog 166 #[.pointer (some ⟨bb, 0, none⟩)] entV (EntOk w bd) (EntDone bd) (EntPan bd) (fun _ => True) w := by
  intro mm lab J Jx W hx _ hJ h0 hY
  have HO := Lib.hid (open_any _ lo hi bd W (h.below hx hhi) (Nat.le_trans hhi hx.size) (by omega) hb)
  have HL := Lib.hid hl
  have HXW := Lib.hid hx.size
  have HJ := Lib.hid hJ
  have HJ0 := Lib.hid h0
  have HY := Lib.hid hY
  have c1 := ext_cell hx hbb
  clear h hhi hb hl hbb hJ h0 hY hx
  refine (callsIn_wide (n := 6)).1 ?_
  refine callsIn_of_wp Tryz.func166 rfl trivial ?_ rfl
  simp only [Tryz.ntmps166, List.size_toArray, List.length_cons, List.length_nil, Nat.reduceAdd, Nat.reduceSub, Array.replicate_succ, Array.replicate_zero, List.push_toArray, List.append_toArray, List.nil_append, List.cons_append]
  refine wpIn_wide.2 ?_
  go_wp2_with fail
  refine HO.out.mono ?_
  rintro x W1 ⟨r, rlo, rhi, rfl, hrd, hr, hlo, hb2⟩
  have HX1 : Hid (Ext W W1) := hb2
  have HRW := Lib.hid (And.intro hr hlo)
  have HRD := Lib.hid hrd
  have HRL := Lib.hid hrd.lt
  have HJ1 : Hid (J (fun i => i = r) (fun i => W.heap.size ≤ i ∧ i < W1.heap.size) 0 W1) := HJ0.out W1 _ _ hb2 (fun i e => by rw [e]; exact hr) (fun i e => e.1)
  clear hrd hr hlo hb2 c1 HO
  go_wp2_with fail
  go_loopw [4] (fun v wr => ∃ (k : Nat) (ah l : List Nat) (K : Nat → Prop) (kA : Option Addr) (kc : Nat), v = .slice kA ah.length kc ∧ Hid (Ahead bd k ah l) ∧ Hid (Rd wr r rlo rhi l) ∧ Hid (l.length ≤ bd.length ∧ ah.length + 32 * l.length ≤ 32 * bd.length) ∧ Hid (KeyAt W r K (.slice kA ah.length kc) ah wr) ∧ Hid (J (fun i => i = r) K k wr) ∧ Hid (K r ∧ (∀ i, rlo ≤ i → i < rhi → K i) ∧ (∀ i, K i → W.heap.size ≤ i ∧ i < wr.heap.size)) ∧ Hid (W1.heap.size ≤ wr.heap.size))
    (fun _ wr => leftAt r wr)
  case atStart => exact ⟨0, [], bd, _, none, 0, rfl, Ahead.start bd, HRD, ⟨Nat.le_refl _, by simp⟩, ⟨⟨0, 0, Bs.nil _ _ _, Nat.zero_le _, .inr (Nat.zero_le _), fun i _ h => absurd h (by omega)⟩, by simp⟩, HJ1, ⟨⟨HRW.out.1, HRL.out⟩, fun i h1 h2 => ⟨Nat.le_trans HRW.out.2 h1, Nat.lt_of_lt_of_le h2 HRD.out.top⟩, fun i h => h⟩, Nat.le_refl _⟩
  case round =>
    obtain ⟨k, ah, l, K, kA, kc, rfl, HAH, HRD1, HLL, HKEY, HJK, HK, HSZ⟩ := hrel
    have HLEFT := Lib.hid (left_any r rlo rhi l wr HRD1.out)
    by_cases hl0 : l = []
    · have d : decide ((0 : Int) < (l.length : Int)) = false := by rw [hl0]; rfl
      have dn : decide (0 < l.length) = false := by rw [hl0]; rfl
      have HL0 := Lib.hid hl0
      clear hl0
      go_wp2_with fail
      refine HLEFT.out.mono ?_
      rintro x w2 ⟨rfl, rfl⟩
      go_wp2_with fail
      refine ⟨rfl, _, results_none rfl _ _ _, .inl ⟨⟨_, rfl⟩, .inl ⟨_, _, k, HJK.out, fun L hL => ?_⟩⟩⟩
      have h1 := HAH.out
      rw [HL0.out] at h1
      exact h1.ends hL
    · have hpos := List.length_pos_iff.2 hl0
      have d : decide ((0 : Int) < (l.length : Int)) = true := by rw [decide_eq_true_eq]; omega
      have dn : decide (0 < l.length) = true := by rw [decide_eq_true_eq]; exact hpos
      have HL0 := Lib.hid hl0
      clear hl0 hpos
      go_wp2_with fail
      refine HLEFT.out.mono ?_
      rintro x w2 ⟨rfl, rfl⟩
      go_wp2_with fail
      obtain ⟨lo2, hi2, hbs, hh2, hr2, hk2⟩ := HKEY.out.ex
      refine (next_any HRD1.out hbs hh2 hr2 HKEY.out.byt (by have := HLL.out; have := HL.out; omega) (by have := HLL.out; have := HL.out; omega)).mono ?_
      clear hbs hh2 hr2 hk2
      rintro x w2 ⟨hg, (⟨e, g, rest, rfl, hrd, hlt, hk32, hm, hst⟩ | ⟨rfl, hno⟩)⟩
      · have HG2 := Lib.hid hg
        have HRD2 := Lib.hid hrd
        have HLT := Lib.hid hlt
        have HK32 := Lib.hid hk32
        have HM := Lib.hid hm
        have HNX := Lib.hid (HAH.out.next HL0.out hst)
        clear hg hrd hlt hk32 hm hst
        obtain ⟨w3, hw3⟩ : ∃ w3, w3 = w2.alloc (.cells #[.slice g.kA e.key.length g.kc, .int .i64 e.seq, .int .i64 e.kind, .slice g.vA e.val.length g.vc] 55) := ⟨_, rfl⟩
        have HX3 : Hid (Ext w2 w3) := by rw [hw3]; exact ext_alloc _ _
        have HE3 : Hid (w3.heap[w2.heap.size]? = some (.cells #[.slice g.kA e.key.length g.kc, .int .i64 e.seq, .int .i64 e.kind, .slice g.vA e.val.length g.vc] 55 (0, 0))) := by rw [hw3]; exact heap_at _ _ rfl
        have HZ3 : Hid (w3.heap.size = w2.heap.size + 1) := by rw [hw3]; simp [Hid]
        have HM3 : Hid (Mine wr.heap.size (e, g) w3) := HM.out.below HX3.out
        have HCH : Hid (Chg (fun i => i = r) wr w3) := (Chg.grown (S := fun i => i = r) HG2.out (fun k hk => by injection hk with hk; exact hk.symm)).trans (Chg.of_ext HX3.out)
        obtain ⟨K3, hK3⟩ : ∃ K3 : Nat → Prop, K3 = fun i => K i ∨ (wr.heap.size ≤ i ∧ i < w3.heap.size) := ⟨_, rfl⟩
        have HKK : Hid (∀ i, K3 i ↔ K i ∨ (wr.heap.size ≤ i ∧ i < w3.heap.size)) := by rw [hK3]; exact fun i => Iff.rfl
        have HJ3 : Hid (J (fun i => i = r) K3 k w3) := HJ.out _ _ _ _ _ _ _ HJK.out HCH.out (fun i h => .inl h) (fun i h => by rcases (HKK.out i).1 h with h | h; exact .inl h; exact .inr h.1)
        have HRWR : Hid (r < wr.heap.size ∧ W.heap.size ≤ wr.heap.size) := ⟨HRD1.out.lt, by have := HX1.out.size; have := HSZ.out; omega⟩
        clear hK3
        have hok : EntOk w bd (fun i => i = r) K3 k (e, g) w3 := by
          refine ⟨HNX.out.2, HM3.out.base (Nat.le_trans HXW.out HRWR.out.2), fun b hb e => ?_, fun b hb e => ?_⟩
          · have := (row_lt HM3.out.k b hb).1; have := HRWR.out.1; omega
          · have := (row_lt HM3.out.v b hb).1; have := HRWR.out.1; omega
        obtain ⟨fn, tmps, assign, body, hy, hR⟩ := HY.out (fun i => i = r) K3 k (e, g) w3 (fun i h => by rw [h]; exact ⟨HRW.out.1, by have := HCH.out.size; have := HRWR.out.1; omega⟩) (fun i h => by have hz := HCH.out.size; rcases (HKK.out i).1 h with h | h; exact ⟨(HK.out.2.2 i h).1, Nat.lt_of_lt_of_le (HK.out.2.2 i h).2 hz⟩; exact ⟨Nat.le_trans HRWR.out.2 h.1, h.2⟩) HJ3.out hok
        dsimp only [entV, Ent.at_] at hy
        have HR := Lib.hid (roundIn_any (m' := 5) hR)
        have e0 := cell_of HE3.out (k := 0) rfl
        have e1 := cell_of HE3.out (k := 1) rfl
        have e2 := cell_of HE3.out (k := 2) rfl
        have e3 := cell_of HE3.out (k := 3) rfl
        clear hR hok d dn
        dsimp only [Ent.at_]
        go_upto_region 4 with (fail)
        rw [← hw3]
        clear hw3
        refine (wpIn_wide (n := 6)).1 ?_
        gi_wp2
        refine RoundIn.mono HR.out ?_
        rintro x A' ⟨hst, (⟨rfl, hj⟩ | ⟨rfl, hjx⟩)⟩
        · have hpb : ∀ i, wr.heap.size ≤ i → i < w3.heap.size → A'.heap[i]? = w3.heap[i]? := fun i h1 h2 => hst.stay i ((HKK.out i).2 (.inr ⟨h1, h2⟩)) h2
          have HE9 : Hid (A'.heap[w2.heap.size]? = some (.cells #[.slice g.kA e.key.length g.kc, .int .i64 e.seq, .int .i64 e.kind, .slice g.vA e.val.length g.vc] 55 (0, 0))) := (hpb _ HG2.out.size (by have := HZ3.out; omega)).trans HE3.out
          have HRD3 : Hid (Rd w3 r rlo rhi rest) := HRD2.out.below HX3.out HRD2.out.top HRD2.out.lt
          have HRD9 : Hid (Rd A' r rlo rhi rest) := HRD3.out.stepK hst ((HKK.out _).2 (.inl HK.out.1)) (fun i h1 h2 => (HKK.out i).2 (.inl (HK.out.2.1 i h1 h2)))
          have HK9 : Hid (Own wr.heap.size e.key (.slice g.kA e.key.length g.kc) A') := HM3.out.k.wall fun b hb => hpb b (row_lt HM3.out.k b hb).1 (row_lt HM3.out.k b hb).2
          have HKEY9 : Hid (KeyAt W r K3 (.slice g.kA e.key.length g.kc) e.key A') := by
            refine ⟨⟨wr.heap.size, w3.heap.size, ?_, hst.size, .inl HRWR.out.1, fun i h1 h2 => (HKK.out i).2 (.inr ⟨h1, h2⟩)⟩, HM.out.good.bk⟩
            exact (Bs.of_own HM3.out.k).of fun _ h3 => Sl.keep h3 fun p h4 h5 => World.cell?_of_block (hpb p.block h4 h5)
          have HJ9 := Lib.hid hj
          have HSA : Hid (w3.heap.size ≤ A'.heap.size) := hst.size
          have HS9 : Hid (W1.heap.size ≤ A'.heap.size) := by have := hst.size; have := HSZ.out; have := HG2.out.size; have := HZ3.out; unfold Hid; omega
          have q0 := cell_of HE9.out (k := 0) rfl
          clear hst hj hy hpb e0 e1 e2 e3
          gi_wp2
          go_wp2_with fail
          refine ⟨⟨k + 1, e.key, rest, K3, g.kA, g.kc, rfl, HNX.out.1, HRD9, ?_, HKEY9, HJ9, ⟨(HKK.out _).2 (.inl HK.out.1), fun i h1 h2 => (HKK.out i).2 (.inl (HK.out.2.1 i h1 h2)), fun i h => ?_⟩, HS9⟩, ?_⟩
          · have := HLT.out; have := HLL.out; have := HK32.out; unfold Hid; omega
          · have hz := HCH.out.size
            have hz2 := HSA.out
            rcases (HKK.out i).1 h with h | h
            · have := HK.out.2.2 i h; omega
            · have := HRWR.out.2; omega
          · rw [HRD9.out.left, HRD1.out.left]; exact HLT.out
        · have HX9 := Lib.hid hjx
          clear hst hjx hy e0 e1 e2 e3
          gi_wp2
          go_wp2_with fail
          refine bodyPost_ret (results_none rfl _ _ _) rfl ?_
          exact .inl ⟨⟨_, rfl⟩, .inr HX9.out⟩
      · have hJ2 := HJ.out _ _ _ _ (fun i => i = r) K w2 HJK.out (Chg.grown (S := fun i => i = r) hg (fun k hk => by injection hk with hk; exact hk.symm)) (fun i h => .inl h) (fun i h => .inl h)
        refine ⟨rfl, .inr ⟨_, rfl, _, _, k, hJ2, rfl, fun L hL => ?_⟩⟩
        obtain ⟨e, _, hs⟩ := HAH.out.stands hL HL0.out
        exact hno _ _ hs
end Go.Proofs.YthhgjeeangepaaaGreat

/- body: what stands ahead of the restarts. -/
namespace Go.Proofs.YthhgjeeangepaaaGreat
open Go.ChangeShapes Go.WideShapes Go.ChangeAt Go.RowKit

theorem num4_snoc (l : List Nat) (c : Nat) : num4 (l ++ [c]) = num4 l * 256 + c := by simp [num4]
theorem num4_take {l : List Nat} {k : Nat} (h : k < l.length) : num4 (l.take (k + 1)) = num4 (l.take k) * 256 + l[k] := by rw [List.take_succ_eq_append_getElem h, num4_snoc]
theorem num4_lt3 {l : List Nat} (h : l.length = 4) (hb : ∀ c ∈ l, c < 256) {k : Nat} (hk : k < 4) : num4 (l.take k) < 16777216 := by
  obtain ⟨a, b, c, d, rfl⟩ := list4 h
  have ha := hb a (by simp)
  have hb' := hb b (by simp)
  have hc := hb c (by simp)
  match k, hk with
  | 0, _ => simp [num4]
  | 1, _ => simp [num4]; omega
  | 2, _ => simp [num4]; omega
  | 3, _ => simp [num4]; omega
theorem or_i64 {x y : Nat} (hx : x < 4294967296) (hy : y < 4294967296) : bits .or .i64 (x : Int) (y : Int) = ((x ||| y : Nat) : Int) := by
  have h1 : (BitVec.ofInt 64 (x : Int)).toNat = x := by
    rw [BitVec.ofInt_natCast, BitVec.toNat_ofNat]; exact Nat.mod_eq_of_lt (by omega)
  have h2 : (BitVec.ofInt 64 (y : Int)).toNat = y := by
    rw [BitVec.ofInt_natCast, BitVec.toNat_ofNat]; exact Nat.mod_eq_of_lt (by omega)
  have h3 : x ||| y < 2 ^ 32 := Nat.or_lt_two_pow (by omega) (by omega)
  show IntKind.i64.wrap ((BitVec.ofInt 64 (x : Int) ||| BitVec.ofInt 64 (y : Int)).toNat : Int) = _
  rw [BitVec.toNat_or, h1, h2, IntKind.wrap_i64]
  omega
theorem or_byte {m c : Nat} (hm : m < 16777216) (hc : c < 256) : bits .or .i64 ((m * 256 : Nat) : Int) (c : Int) = ((m * 256 + c : Nat) : Int) := by
  rw [or_i64 (by omega) (by omega)]
  have : m * 256 ||| c = m * 256 + c := by
    have := Nat.shiftLeft_add_eq_or_of_lt (i := 8) (b := c) (by simpa using hc) m
    simpa [Nat.shiftLeft_eq] using this.symm
  rw [this]

theorem wrap_256 {m : Nat} (h : m < 16777216) : wrap64 ((m : Int) * 256) = ((m * 256 : Nat) : Int) := by unfold wrap64; omega
theorem wrap_four {m : Nat} (h : m < 4294967296) : wrap64 ((m : Int) * 4) = ((4 * m : Nat) : Int) := by unfold wrap64; omega
theorem wrap_q {n : Nat} (h : n < 4294967296) : wrap64 ((n : Int) / 4) = ((n / 4 : Nat) : Int) := by unfold wrap64; omega
theorem wrap_less {n m : Nat} (h : n < 4294967296) (k : m ≤ n) : wrap64 ((n : Int) - (m : Int)) = ((n - m : Nat) : Int) := by unfold wrap64; omega

/-- What body answers. -/
def BodyAns (w : World) (b : List Nat) (x : Ending) (w' : World) : Prop :=
  Ext w w' ∧ ((∃ (A : Option Addr) (c : Nat) (bd : List Nat), x = .returned (.slice A bd.length c) ∧ Bs w' 0 w'.heap.size (.slice A bd.length c) bd ∧ (∀ y ∈ bd, y < 256) ∧ bd.length ≤ b.length ∧ 4 ≤ b.length ∧ ∀ L, IsB b L → BodyIs L bd) ∨
    (x = .panicked gaveUp ∧ ∀ L, ¬ IsB b L))

set_option maxRecDepth 100000 in
set_option maxHeartbeats 4000000 in
theorem body_any {w : World} {lo hi : Nat} {v : Value} {b : List Nat} (hv : Bs w lo hi v b) (hhi : hi ≤ w.heap.size) (hb : ∀ x ∈ b, x < 256) (hl : b.length ≤ 1000000000) :
    Calls Tryz.prog 151 #[v] w (BodyAns w b) := by
  have HV := Lib.hid hv
  have HB := Lib.hid hb
  have HL := Lib.hid (And.intro hhi hl)
  obtain ⟨A, c, rfl, hc1, hc2, hn, hby⟩ := hv
  have HC := Lib.hid (And.intro hc1 (And.intro hc2 hn))
  have HBY := Lib.hid hby
  clear hhi hb hl hc1 hc2 hn hby
  rcases Nat.lt_or_ge b.length 4 with h4 | h4
  · have d : decide (wrap64 ((b.length : Int) - 4) < 0) = true := by rw [decide_eq_true_eq]; unfold wrap64; omega
    have H4 := Lib.hid h4
    clear h4
    go_enter Tryz.func151, Tryz.ntmps151
    go_wp2_with fail
    refine (giveUp_any _).mono ?_
    rintro x w' ⟨rfl, rfl⟩
    refine ⟨rfl, Ext.refl _, .inr ⟨rfl, fun L h => ?_⟩⟩
    have h1 := h.last.1
    have h2 := H4.out
    omega
  obtain ⟨n, hn⟩ : ∃ n, n = b.length - 4 := ⟨_, rfl⟩
  have HN : Hid (b.length = n + 4) := by unfold Hid; omega
  have ew : wrap64 ((b.length : Int) - 4) = (n : Int) := by unfold wrap64; have := HL.out.2; omega
  have d : decide ((n : Int) < 0) = false := by rw [decide_eq_false_iff_not]; omega
  obtain ⟨A2, hA2, hA2n, hrun⟩ := tail_run A b.length c n (by omega) HC.out.1
  have hrun' : ∀ w, (Instr.slice 26 (.slice A b.length c) (some (.int .i64 (n : Int))) none none).run Tryz.prog w = .ok (.slice A2 4 (c - n)) w := fun w => by rw [hrun, HN.out]; congr 2; omega
  obtain ⟨t, ht⟩ : ∃ t, t = b.drop n := ⟨_, rfl⟩
  have HT : Hid (By w lo hi A2 t) := by rw [ht]; exact hA2 b rfl _ _ _ HBY.out
  have HT4 : Hid (t.length = 4) := by rw [ht]; unfold Hid; rw [List.length_drop]; omega
  have HTB : Hid (∀ x ∈ t, x < 256) := fun x hx => HB.out x (by rw [ht] at hx; exact List.mem_of_mem_drop hx)
  have HTE : Hid (t = b.drop (b.length - 4)) := by rw [ht, hn]; exact rfl
  obtain ⟨tb, tq, rfl⟩ : ∃ x y, A2 = some ⟨x, y, none⟩ := by
    obtain ⟨b', o, e, _⟩ := HT.out.at_ (i := 0) (by rw [HT4.out]; omega)
    exact ⟨_, _, e⟩
  clear hA2 hA2n hrun ht h4 hn
  go_enter Tryz.func151, Tryz.ntmps151
  go_wp2_with fail
  go_loopw [4, 6, 17] (fun m y i wr => ∃ (k r : Nat), k ≤ 4 ∧ i = .int .i64 (k : Int) ∧ m = .int .i64 (r : Int) ∧ Hid (r = num4 (t.take k)) ∧ wr = w) (fun _ _ i _ => 4 - (intOf i).toNat)
  case atStart => exact ⟨0, 0, Nat.zero_le _, rfl, rfl, rfl, rfl⟩
  case round =>
    obtain ⟨k, r, hk, rfl, rfl, HR, rfl⟩ := hrel
    by_cases hlt : k < 4
    · have hkl : k < t.length := by rw [HT4.out]; exact hlt
      obtain ⟨b', o', e1, _, _, hc⟩ := HT.out.at_ hkl
      injection e1 with e1
      injection e1 with e1 e2
      subst e1 e2
      obtain ⟨y, hy⟩ : ∃ y, y = t[k] := ⟨_, rfl⟩
      rw [← hy] at hc
      have HM : Hid (r < 16777216) := by rw [HR.out]; exact num4_lt3 HT4.out HTB.out hlt
      have hc256 : y < 256 := by rw [hy]; exact HTB.out _ (List.getElem_mem hkl)
      have HO := Lib.hid (or_byte HM.out hc256)
      have HTT : Hid (num4 (t.take (k + 1)) = r * 256 + y) := by rw [HR.out, hy]; exact num4_take hkl
      have n1 : (0 : Int) ≤ (k : Int) := by omega
      have n2 : (k : Int) < 4 := by omega
      clear hy
      go_wp2_with fail
      go_roundw
      case rel =>
        refine ⟨k + 1, r * 256 + y, by omega, by go_num, ?_, HTT.out.symm, ?_⟩
        · rw [wrap_256 HM.out, HO.out]
        · trivial
      case measure => simp [intOf]; omega
    · clear HT
      obtain rfl : k = 4 := by omega
      have hr : r = num4 t := by rw [HR.out, List.take_of_length_le (by rw [HT4.out]; exact Nat.le_refl _)]
      have HRE := Lib.hid hr
      have HR32 : Hid (r < 4294967296) := by rw [hr]; exact num4_lt HT4.out HTB.out
      clear hr
      have hq := wrap_q (n := n) (by have := HN.out; have := HL.out.2; omega)
      obtain ⟨q, hqe⟩ : ∃ q, q = n / 4 := ⟨_, rfl⟩
      rw [← hqe] at hq
      by_cases hgt : q < r
      · have dg : decide ((q : Int) < (r : Int)) = true := by rw [decide_eq_true_eq]; exact Int.ofNat_lt.2 hgt
        have dgn : decide (q < r) = true := by rw [decide_eq_true_eq]; exact hgt
        have HGT := Lib.hid hgt
        have HQE := Lib.hid hqe
        clear hgt hqe
        go_wp2_with fail
        refine (giveUp_any _).mono ?_
        rintro x w' ⟨rfl, rfl⟩
        refine ⟨rfl, Ext.refl _, .inr ⟨rfl, fun L h => ?_⟩⟩
        obtain ⟨h1, h2, h3, h4⟩ := h.last
        rw [← HTE.out, ← HRE.out] at h3
        have h5 := HGT.out
        have h6 := HQE.out
        have h7 := HN.out
        clear hq ew
        omega
      · have dg : decide ((q : Int) < (r : Int)) = false := by rw [decide_eq_false_iff_not]; exact fun h => hgt (Int.ofNat_lt.1 h)
        have dgn : decide (q < r) = false := by rw [decide_eq_false_iff_not]; exact hgt
        have hle : 4 * r ≤ n := by clear hq ew; omega
        have hw4 := wrap_four HR32.out
        have hwm := wrap_less (n := n) (m := 4 * r) (by have := HN.out; have := HL.out.2; clear hq ew hw4; omega) hle
        obtain ⟨m, hm⟩ : ∃ m, m = n - 4 * r := ⟨_, rfl⟩
        obtain ⟨j, hj⟩ : ∃ j, j = 4 * r := ⟨_, rfl⟩
        rw [← hm] at hwm
        rw [← hj] at hw4 hwm
        have HM : Hid (m ≤ b.length ∧ m = b.length - 4 - 4 * num4 (b.drop (b.length - 4))) := by
          rw [← HTE.out, ← HRE.out]
          have := HN.out
          clear hq ew hw4 hwm
          unfold Hid; omega
        obtain ⟨A3, hA3, hA3n, hrun3⟩ := head_run .i64 A b.length c m HM.out.1 HC.out.1
        have HA3 := Lib.hid (And.intro hA3 hA3n)
        clear hm hj hgt hqe hle hA3 hA3n
        go_wp2_with fail
        go_ret
        have hlm : (b.take m).length = m := by rw [List.length_take]; have := HM.out.1; clear hq ew hw4 hwm; omega
        refine ⟨Ext.refl _, .inl ⟨A3, c, b.take m, by rw [hlm]; rfl, ?_, fun y hy => HB.out y (List.mem_of_mem_take hy), by rw [hlm]; exact HM.out.1, by rw [HN.out]; exact Nat.le_add_left _ _, fun L h => ?_⟩⟩
        · refine ⟨A3, c, rfl, by rw [hlm]; exact Nat.le_trans HM.out.1 HC.out.1, HC.out.2.1, fun e => HC.out.2.2 (HA3.out.2 e), ?_⟩
          exact Sl.wide (HA3.out.1 b rfl _ _ _ HBY.out) (Nat.zero_le _) HL.out.1
        · have h1 := h.body
          unfold bodyOf at h1
          rw [← HM.out.2] at h1
          exact h1
end Go.Proofs.YthhgjeeangepaaaGreat

/- bytes.Equal; entries. -/
namespace Go.Proofs.YthhgjeeangepaaaGreat
open Go.ChangeShapes Go.WideShapes Go.ChangeAt Go.RowKit

theorem bequal_any {w : World} {lo hi lo2 hi2 : Nat} {u v : Value} {a b : List Nat} (hu : Bs w lo hi u a) (hv : Bs w lo2 hi2 v b) (ha : ∀ x ∈ a, x < 256) (hb : ∀ x ∈ b, x < 256) :
    Calls Tryz.prog 92 #[u, v] w fun e w' => (∃ z : Bool, (z = true ↔ a = b) ∧ e = .returned (.bool z)) ∧ w' = w := by
  obtain ⟨A, c, rfl, _, _, _, hA⟩ := hu
  obtain ⟨B, c2, rfl, _, _, _, hB⟩ := hv
  have t1 := run_text (P := Tryz.prog) w 26 5 Tryz.underlying26 Tryz.underlying5 hA a.length c rfl 9 Tryz.underlying9
  have t2 := run_text (P := Tryz.prog) w 26 5 Tryz.underlying26 Tryz.underlying5 hB b.length c2 rfl 9 Tryz.underlying9
  have HI : Hid (tx a = tx b ↔ a = b) := ⟨fun h => tx_inj ha hb h, fun h => by rw [h]⟩
  obtain ⟨X, hX⟩ : ∃ X, X = tx a := ⟨_, rfl⟩
  obtain ⟨Y, hY⟩ : ∃ Y, Y = tx b := ⟨_, rfl⟩
  rw [← hX, ← hY] at HI
  rw [← hX] at t1
  rw [← hY] at t2
  clear hX hY hA hB ha hb
  go_enter Tryz.func92, Tryz.ntmps92
  go_wp2_with fail
  go_ret
  refine ⟨⟨X.toList == Y.toList, ?_, rfl⟩, rfl⟩
  rw [beq_iff_eq, ← HI.out]
  refine ⟨fun h => ?_, fun h => by rw [h]⟩
  rw [ByteArray.toList_eq, ByteArray.toList_eq] at h
  exact ByteArray.ext (Array.toList_inj.1 h)
theorem entries_any (A : Option Addr) (n c : Nat) (w : World) : Calls Tryz.prog 150 #[.slice A n c] w fun e w' => e = .returned (.func (.func 166) #[] #[.pointer (some ⟨w.heap.size, 0, none⟩)]) ∧ w' = w.alloc (.cells #[.slice A n c] 26) := by
  have hmf := mkf
  go_enter Tryz.func150, Tryz.ntmps150
  go_wp2_with fail
  go_ret
  exact ⟨rfl, rfl⟩
end Go.Proofs.YthhgjeeangepaaaGreat

/- Entries that came in. -/
namespace Go.Proofs.YthhgjeeangepaaaGreat
open Go.ChangeShapes Go.WideShapes Go.ChangeAt Go.RowKit Go.Joins

theorem reach_is : reachBytes = 140737488351232 := by decide
section
variable {H : Type} {enc : TypeId × Value → H} {W : World}

set_option maxRecDepth 100000 in
/-- A field that is a slice of bytes. -/
theorem cell_bytes {fuel : Nat} {cs : List Value} {y : DataW H × List MemPlace} (h : DataW.trod enc Tryz.prog W 0 (fun _ => true) true fuel 26 cs = some y) :
    ∃ (A : Option Addr) (c : Nat) (l : List Nat), cs = [.slice A l.length c] ∧ (∀ b ∈ l, b < 256) ∧ Bs W 0 W.heap.size (.slice A l.length c) l ∧ ((∀ n ∈ y.1.weights Tryz.prog 26, n ≤ reachBytes) → l.length ≤ reachBytes) := by
  rcases open_ints Tryz.underlying26 Tryz.underlying5 (by kernel_rfl) h with ⟨hcs, _⟩ | ⟨x, l, c, zs, hcs, _, hl', hm', hz, hdx, hcell, hwz⟩
  · exact ⟨none, 0, [], hcs, by simp, Bs.nil _ _ _, fun _ => by simp⟩
  · obtain ⟨l', q1, q2, q3⟩ := bs_cells hl' hm' (by simpa using hz) hcell hwz
    refine ⟨some x, c, l', by rw [q1]; exact hcs, q2, by rw [q1]; exact q3, fun hw => ?_⟩
    have hb1 : Tryz.prog.bytesOf 5 = 1 := by kernel_rfl
    have h4 := hw (((zs.take l).length + (zs.drop l).length) * Tryz.prog.bytesOf 5) (by rw [hdx]; simp [DataW.weights, Tryz.underlying26, lits])
    rw [hb1, List.length_take, List.length_drop] at h4
    simp at hz
    omega

set_option maxRecDepth 100000 in
/-- The cells of an entry. -/
theorem cells_entry {fuel : Nat} {cs : List Value} {y : DataW H × List MemPlace} (h : DataW.trod enc Tryz.prog W 0 (fun _ => true) true fuel 55 cs = some y) :
    ∃ (e : Ent) (g : Hd), cs = ecells (e, g) ∧ Em W 0 W.heap.size e g ∧ ((∀ n ∈ y.1.weights Tryz.prog 55, n ≤ reachBytes) → e.key.length ≤ reachBytes ∧ e.val.length ≤ reachBytes) := by
  obtain ⟨y0, y1, y2, y3, n, hx, hl, h0, h1, h2, h3⟩ := trod_struct4 Tryz.underlying55 h
  have hC : Tryz.prog.cellsOf 55 = 4 := by kernel_rfl
  have hC0 : Tryz.prog.cellsOf 26 = 1 := by kernel_rfl
  have hC1 : Tryz.prog.cellsOf 2 = 1 := by kernel_rfl
  have hC2 : Tryz.prog.cellsOf 53 = 1 := by kernel_rfl
  rw [hC] at hl
  obtain ⟨a, b, c, d, rfl⟩ : ∃ a b c d, cs = [a, b, c, d] := by
    match cs, hl with
    | [a, b, c, d], _ => exact ⟨a, b, c, d, rfl⟩
  simp only [hC0, hC1, hC2, List.drop_zero, List.take_succ_cons, List.take_zero, List.drop_succ_cons] at h0 h1 h2 h3
  obtain ⟨A, c0, k, e0, bk, hk, wk⟩ := cell_bytes h0
  obtain ⟨s, e1, _, ws⟩ := DataW.trod_int Tryz.underlying2 h1
  obtain ⟨t, e2, _, wt⟩ := DataW.trod_int Tryz.underlying53 h2
  obtain ⟨A3, c3, v, e3, bv', hv, wv⟩ := cell_bytes h3
  injection e0 with e0
  injection e1 with e1
  injection e2 with e2
  injection e3 with e3
  subst e0 e1 e2 e3
  have hws := i64_wf ws
  have hwt := i64_wf wt
  refine ⟨⟨k, s, t, v⟩, ⟨A, c0, A3, c3⟩, rfl, ⟨hk, hv, bk, bv', hws.1, hws.2, hwt.1, hwt.2⟩, fun hw => ?_⟩
  have hwe : ∀ n ∈ DataW.weightsEach Tryz.prog [26, 2, 53, 26] [y0.1, y1.1, y2.1, y3.1], n ≤ reachBytes := fun n hn => hw n (by
    rw [hx]
    simp only [DataW.weights, Tryz.underlying55]
    exact hn)
  exact ⟨wk fun n hn => hwe n (DataW.weights_mem_each (j := 0) rfl rfl n hn), wv fun n hn => hwe n (DataW.weights_mem_each (j := 3) rfl rfl n hn)⟩

theorem weightsAll_at {P : Program} {e : TypeId} : ∀ {l : List (DataW H)} {d : DataW H}, d ∈ l → ∀ n ∈ d.weights P e, n ∈ DataW.weightsAll P e l
  | d' :: r, d, hd, n, hn => by
    simp only [DataW.weightsAll, List.mem_append]
    rcases List.mem_cons.1 hd with rfl | h
    · exact Or.inl hn
    · exact Or.inr (weightsAll_at h n hn)
set_option maxRecDepth 100000 in
/-- Entries that came in, in a row. -/
theorem open_entries {v : Value} {d : DataW H} {p : List MemPlace} {b0 : Nat} (hv : Value.okWide Tryz.prog W .any b0 22 v) (h : DataW.Trod enc Tryz.prog W 0 (fun _ => true) true 22 v d p)
    {ts : List TypeId} {ds : List (DataW H)} (hsz : (DataW.weightsEach Tryz.prog ts ds).all (· ≤ reachBytes) = true) {jj : Nat} (hts : ts[jj]? = some 22) (hds : ds[jj]? = some d) :
    ∃ (A : Option Addr) (c : Nat) (L : List (Ent × Hd)), v = .slice A L.length c ∧ L.length ≤ c ∧ c ≤ maxLen ∧ Es W 0 W.heap.size A L ∧ (∀ p ∈ L, p.1.key.length ≤ 140737488351232 ∧ p.1.val.length ≤ 140737488351232) ∧ L.length ≤ 2199023255552 := by
  obtain ⟨a0, len0, cap0, rfl⟩ := okWide_slice Tryz.underlying22 hv
  obtain ⟨fuel, hf⟩ := h
  have hC : Tryz.prog.cellsOf 55 = 4 := by kernel_rfl
  rcases Go.Deep.open_slice Tryz.underlying22 hf with ⟨hcs, _⟩ | ⟨a, len, cap, m, n, D, Pl, hcs, _, hl, hm, hmm, hdd, hx⟩
  · simp [Value.cells] at hcs
    obtain ⟨rfl, rfl, rfl⟩ := hcs
    exact ⟨none, 0, [], rfl, by simp, by simp [maxLen], ⟨Sl.nil _ _ _ _, by simp⟩, by simp, by simp⟩
  · simp [Value.cells] at hcs
    obtain ⟨rfl, rfl, rfl⟩ := hcs
    have hmc : m = cap0 := by rw [hmm]; simp
    have hdd1 : d = .slice ((List.range len0).map D) ((List.range (m - len0)).map fun j => D (len0 + j)) := congrArg Prod.fst hdd
    have hwt : ∀ i, i < len0 → ∀ n ∈ (D i).weights Tryz.prog 55, n ≤ reachBytes := fun i hi n hn => by
      refine of_decide_eq_true (List.all_eq_true.1 hsz _ (DataW.weights_mem_each hts hds n ?_))
      rw [hdd1]
      simp only [DataW.weights, Tryz.underlying22, List.mem_cons, List.mem_append]
      exact Or.inr (Or.inl (weightsAll_at (List.mem_map.2 ⟨i, List.mem_range.2 hi, rfl⟩) n hn))
    have hlen : len0 ≤ 2199023255552 := by
      have h3 := sized_slice hsz hts (by rw [hds, hdd1]) Tryz.underlying22
      have hb1 : Tryz.prog.bytesOf 55 = 64 := by kernel_rfl
      rw [hb1, reach_is] at h3
      simp at h3
      omega
    have each : ∀ i : Nat, ∃ t : Ent × Hd, i < len0 → (∀ j v, j < 4 → (ecells t)[j]? = some v → W.cell? ((a.add (i * 4)).add j) = some v) ∧ Em W 0 W.heap.size t.1 t.2 ∧ t.1.key.length ≤ 140737488351232 ∧ t.1.val.length ≤ 140737488351232 := by
      intro i
      by_cases hi : i < len0
      · obtain ⟨cs', hc', ht'⟩ := hx i (by omega)
        rw [hC] at hc'
        obtain ⟨_, hcl, hat⟩ := World.cells?_some hc'
        obtain ⟨e, g, hcc, hem, hw⟩ := cells_entry ht'
        have hw2 := hw (hwt i hi)
        rw [reach_is] at hw2
        exact ⟨(e, g), fun _ => ⟨fun j v hj hv => by rw [hat j hj, hcc]; exact hv, hem, hw2⟩⟩
      · exact ⟨(⟨[], 0, 0, []⟩, ⟨none, 0, none, 0⟩), fun h => absurd h hi⟩
    obtain ⟨F, hF⟩ := Classical.axiomOfChoice each
    have hat : ∀ i u, (erow ((List.range len0).map F))[i]? = some u → W.cell? (a.add i) = some u := by
      intro i u hu
      have hi : i < len0 * 4 := by
        have := (List.getElem?_eq_some_iff.1 hu).1
        rw [erow_length] at this
        simpa using this
      have hi4 : i / 4 < len0 := by omega
      have e1 : i = i / 4 * 4 + i % 4 := by omega
      rw [e1, erow_at _ (by simpa using hi4) (by omega)] at hu
      have h1 := (hF (i / 4) hi4).1 (i % 4) u (by omega) (by simpa using hu)
      have e2 : (a.add (i / 4 * 4)).add (i % 4) = a.add i := by
        obtain ⟨b, o, s⟩ := a
        have hc0 := (hF 0 (by omega)).1 0 _ (by omega) rfl
        have hs : s = none := by
          have := World.cell?_spot hc0
          simpa [Addr.add] using this
        subst hs
        rw [addr_add, addr_add, addr_add]
        congr 1; omega
      rw [← e2]; exact h1
    refine ⟨some a, cap0, (List.range len0).map F, by simp, by simpa using hl, hm, ⟨?_, ?_⟩, ?_, by simpa using hlen⟩
    · by_cases h0 : len0 = 0
      · exact .inl (by simp [h0, erow])
      · obtain ⟨b, o, spot⟩ := a
        have hc0 := (hF 0 (by omega)).1 0 _ (by omega) rfl
        have hspot : spot = none := by
          have := World.cell?_spot hc0
          simpa [Addr.add] using this
        subst hspot
        have hblt : b < W.heap.size := by
          have := World.block_lt_of_cell? W _ hc0
          rw [addr_add, addr_add] at this
          exact this
        exact .inr ⟨b, o, rfl, Nat.zero_le _, hblt, fun i u hu => by have := hat i u hu; rwa [addr_add] at this⟩
    · intro q hq
      simp only [List.mem_map, List.mem_range] at hq
      obtain ⟨i, hi, rfl⟩ := hq
      exact (hF i hi).2.1
    · intro q hq
      simp only [List.mem_map, List.mem_range] at hq
      obtain ⟨i, hi, rfl⟩ := hq
      exact (hF i hi).2.2
end
end Go.Proofs.YthhgjeeangepaaaGreat

/- What is collected: rows of entries, their blocks; a piece from a place on (out of XSrput). -/
namespace Go.Proofs.YthhgjeeangepaaaGreat
open Go.ChangeShapes Go.WideShapes Go.ChangeAt Go.RowKit

theorem Got.rs {B : Nat} {A : Option Addr} {c : Nat} {R : List (Ent × Hd)} {w : World} (h : Got B (.slice A R.length c) R w) : Es w 0 w.heap.size A R := by
  refine ⟨?_, fun p hp => (h.each p hp).em⟩
  rcases h.row.2 with ⟨h1, h2⟩ | ⟨g, cap, cur, hv, hg, hh, r⟩
  · injection h1 with e1 e2 _
    have : R = [] := List.eq_nil_of_length_eq_zero e2
    subst this; exact Sl.nil _ _ _ _
  · injection hv with e1 _ _
    subst e1
    refine .inr ⟨g, 0, rfl, Nat.zero_le _, (Array.getElem?_eq_some_iff.1 hh).1, fun i u hu => ?_⟩
    have := h.row.cells (g := g) rfl i u hu
    rwa [addr_add] at this
theorem Got.capd {B : Nat} {A : Option Addr} {c : Nat} {R : List (Ent × Hd)} {w : World} (h : Got B (.slice A R.length c) R w) : R.length ≤ c ∧ (A = none → c = 0) := by
  rcases h.row.2 with ⟨he, hx⟩ | ⟨g, cap, cur, hv, _, hh, _, hcs⟩
  · injection he with e1 e2 e3; subst e1 e3; exact ⟨by omega, fun _ => rfl⟩
  · injection hv with e1 e2 e3; subst e1 e3; exact ⟨by omega, fun e => by cases e⟩
theorem eslice_from (A : Option Addr) (n c k : Nat) (hkn : k ≤ n) (_hc : n ≤ c) (w : World) :
    (Instr.slice 22 (.slice A n c) (some (.int .i64 (k : Int))) none none).run Tryz.prog w = .ok (.slice (if c = k then A else A.map (·.add (k * 4))) (n - k) (c - k)) w := by
  have he : Tryz.prog.underlying 22 = some (.slice (Tryz.prog.elem 22)) := by kernel_rfl
  rw [run_slice_l w 22 A n c he .i64 (k : Int) (by omega) (by omega), esize w]
  simp [Result.andThen, sliced]

/-- The blocks of a row and of its entries. -/
def Blk (v : Value) (R : List (Ent × Hd)) (b : Nat) : Prop := v.ownBlock = some b ∨ ∃ p ∈ R, (Value.slice p.2.kA p.1.key.length p.2.kc).ownBlock = some b ∨ (Value.slice p.2.vA p.1.val.length p.2.vc).ownBlock = some b
theorem Got.blk {B : Nat} {v : Value} {R : List (Ent × Hd)} {w : World} (h : Got B v R w) {b : Nat} (hb : Blk v R b) : B ≤ b ∧ b < w.heap.size := by
  rcases hb with hb | ⟨p, hp, hb | hb⟩
  · exact ⟨(rowN_lt h.row b hb).1, (rowN_lt h.row b hb).2.1⟩
  · exact row_lt (h.each p hp).k b hb
  · exact row_lt (h.each p hp).v b hb
theorem Got.keepS {B : Nat} {v : Value} {R : List (Ent × Hd)} {w w' : World} {S : Nat → Prop} (h : Got B v R w) (hc : Chg S w w') (hS : ∀ b, Blk v R b → ¬ S b) : Got B v R w' :=
  ⟨rowN_kept h.row fun g hg => hc.block g (rowN_lt h.row g hg).2.1 (hS g (.inl hg)), fun p hp => ⟨row_kept (h.each p hp).k fun g hg => hc.block g (row_lt (h.each p hp).k g hg).2 (hS g (.inr ⟨p, hp, .inl hg⟩)),
    row_kept (h.each p hp).v fun g hg => hc.block g (row_lt (h.each p hp).v g hg).2 (hS g (.inr ⟨p, hp, .inr hg⟩)), (h.each p hp).good⟩⟩
end Go.Proofs.YthhgjeeangepaaaGreat

/- taken: the entries of a block's bytes, or it gives up. -/
namespace Go.Proofs.YthhgjeeangepaaaGreat
open Go.ChangeShapes Go.WideShapes Go.ChangeAt Go.RowKit Go.Shelf
attribute [local go_sem] Oper.semAt_some

/-- 'append(l, e)', within a fence; where the row then lies. -/
theorem wpListIn_putent {F : Fence} {nF : Nat} {ops : Array Oper} {rest : List Oper} {o : Oper} {a : Act} {Q : Exit → Act → World → Prop} {u : World} (hgd : o.guard = none) (s x : Operand)
    (ho : o.op = .call { callee := .builtin .append, args := #[s, x], argTypes := #[22, 22] }) (B : Nat) (v : Value) (R : List (Ent × Hd)) (hs : a.eval s = v) (hgot : Got B v R u)
    (p : Ent × Hd) (gb : Nat) (hx : a.eval x = .slice (some ⟨gb, 0, none⟩) 1 1) (hblk : u.heap[gb]? = some (.cells (ecells p).toArray 55 (0, 0))) (hp : Mine B p u) (hlen : R.length ≤ 1000000000000) (hB : B ≤ u.heap.size)
    (h : ∀ A' c' w', Got B (.slice A' (R.length + 1) c') (R ++ [p]) w' → u.grownBy w' v.ownBlock → (∀ g, (Value.slice A' (R.length + 1) c').ownBlock = some g → v.ownBlock = some g ∨ g = u.heap.size) → wpListIn F nF Tryz.prog ops Q rest (a.put o.dst (.slice A' (R.length + 1) c')) w') :
    wpListIn F nF Tryz.prog ops Q (o :: rest) a u := by
  obtain ⟨i0, hi0', ix0, ix1, ix2⟩ := info_parts einfo
  refine wpListIn_plain hgd fun K hK => ?_
  obtain ⟨v', w5, hr, ho2, hgr, _, hat⟩ := run_append_own_at (P := Tryz.prog) u B 22 o.type 55 i0 _ 4 64 Tryz.underlying22 hi0' ix0 ix1 ix2 rfl (by decide) v R.length (erow R) hgot.row ⟨gb, 0, none⟩ 1 1 (ecells p) rfl
    (fun j q hj => by rw [addr_add, Nat.zero_add]; exact cell_of hblk (by simpa using hj)) (fun q hq => erow_one [p] q (by simpa [erow] using hq)) (by unfold maxLen; omega) (by omega) hB
  have hke : ∀ q : Ent × Hd, Mine B q u → Mine B q w5 := fun q hq => by
    have hk : ∀ {l : List Nat} {x : Value}, Own B l x u → Own B l x w5 := fun hx => row_kept hx fun g' hg' => hgr.block g' (row_lt hx g' hg').2 (fun e => rows_apart hx hgot.row (by decide) hg' e.symm)
    exact ⟨hk hq.k, hk hq.v, hq.good⟩
  have hgot' : Got B v' (R ++ [p]) w5 := by
    refine ⟨by rw [List.length_append, erow_append]; simpa [erow] using ho2, fun q hq => ?_⟩
    rcases List.mem_append.1 hq with hq | hq
    · exact hke q (hgot.each q hq)
    · rw [List.mem_singleton] at hq; subst hq; exact hke q hp
  obtain ⟨A', c', rfl⟩ := rowN_slice ho2
  have hfin := h A' c' w5 hgot' hgr (fun g hg => by
    rcases hat with e | e
    · exact .inl (e ▸ hg)
    · rw [e] at hg; injection hg with hg; exact .inr hg.symm)
  unfold Oper.wpIn
  refine ⟨?_, ?_⟩
  · simp [Oper.about, ho, resolve, Target.leads, Sem.run_pure]
  · rw [Oper.semAt_plain F _ _ (by rw [ho]; intro c hc'; cases hc')]
    simp [execOp, ho, resolve, invoke, builtin, hs, hx, hr, Result.andThen]
    exact hK _ _ hfin

/-- What taken answers. -/
def TakenAns (w : World) (b : List Nat) (x : Ending) (w' : World) : Prop :=
  Ext w w' ∧ ((∃ (R : List (Ent × Hd)) (A : Option Addr) (c : Nat), IsB b (R.map Prod.fst) ∧ x = .returned (.slice A R.length c) ∧ Got w.heap.size (.slice A R.length c) R w') ∨ (x = .panicked gaveUp ∧ ∀ L, ¬ IsB b L))

theorem Free.grow {D D' : Nat → Prop} {v : Value} {n : Nat} (h : Free D v) (hb : ∀ b, v.ownBlock = some b → b < n) (hD : ∀ i, D' i → D i ∨ n ≤ i) : Free D' v := fun b hv hd => by
  rcases hD b hd with h1 | h1
  · exact h b hv h1
  · have := hb b hv; omega
/-- What is collected between two rounds. -/
structure TkR (base lb : Nat) (bd : List Nat) (D K : Nat → Prop) (k : Nat) (A : World) (X : Option Addr) (c : Nat) (R : List (Ent × Hd)) : Prop where
  box : Boxed A lb 22 (.slice X R.length c)
  got : Got base (.slice X R.length c) R A
  len : R.length = k
  is : ∀ L, BodyIs L bd → k ≤ L.length ∧ L.take k = R.map Prod.fst
  fd : Free D (.slice X R.length c)
  fk : Free K (.slice X R.length c)
  fe : ∀ p ∈ R, Free D (.slice p.2.kA p.1.key.length p.2.kc) ∧ Free D (.slice p.2.vA p.1.val.length p.2.vc)
structure TkI (w : World) (lb s3 : Nat) (bd : List Nat) (D K : Nat → Prop) (k : Nat) (A : World) : Prop where
  below : Below w.heap.size w A
  z : s3 ≤ A.heap.size
  dz : ∀ i, D i → s3 ≤ i
  ex : ∃ X c R, TkR w.heap.size lb bd D K k A X c R ∧ k ≤ 1024
theorem TkI.chg {w A A' : World} {lb s3 : Nat} {bd : List Nat} {D K D' K' : Nat → Prop} {k : Nat} (h : TkI w lb s3 bd D K k A) (hlb : lb < s3) (hs : w.heap.size ≤ s3) (hc : Chg D A A') (hD : ∀ i, D' i → D i ∨ A.heap.size ≤ i) (hK : ∀ i, K' i → K i ∨ A.heap.size ≤ i) : TkI w lb s3 bd D' K' k A' := by
  obtain ⟨h1, h2, h3, X, c, R, t, hk⟩ := h
  refine ⟨h1.trans (hc.below (fun i hi => Nat.le_trans hs (h3 i hi)) h1.size), Nat.le_trans h2 hc.size, fun i hi => by rcases hD i hi with h | h; exact h3 i h; omega, X, c, R, ⟨boxed_chg t.box hc (fun hd => by have := h3 lb hd; omega), ⟨rowN_kept t.got.row fun g hg => hc.block g (rowN_lt t.got.row g hg).2.1 (t.fd g hg), fun p hp => ?_⟩, t.len, t.is, t.fd.grow (fun b hb => (rowN_lt t.got.row b hb).2.1) hD, t.fk.grow (fun b hb => (rowN_lt t.got.row b hb).2.1) hK, fun p hp => ?_⟩, hk⟩
  · have hm := t.got.each p hp
    exact ⟨row_kept hm.k fun g hg => hc.block g (row_lt hm.k g hg).2 ((t.fe p hp).1 g hg), row_kept hm.v fun g hg => hc.block g (row_lt hm.v g hg).2 ((t.fe p hp).2 g hg), hm.good⟩
  · have hm := t.got.each p hp
    exact ⟨(t.fe p hp).1.grow (fun b hb => (row_lt hm.k b hb).2) hD, (t.fe p hp).2.grow (fun b hb => (row_lt hm.v b hb).2) hD⟩
/-- What is collected when it is left: one too many. -/
def TkX (w : World) (lb s3 : Nat) (bd : List Nat) (c : Code) (A : World) : Prop := c = .exit 0 ∧ Below w.heap.size w A ∧ ∃ X cc R, Boxed A lb 22 (.slice X R.length cc) ∧ Got w.heap.size (.slice X R.length cc) R A ∧ R.length = 1025 ∧ (∀ L, BodyIs L bd → 1025 ≤ L.length) ∧ ∀ b, Blk (.slice X R.length cc) R b → b ≠ s3 + 1

theorem tk_box {A3 w5 : World} {lb B : Nat} {o : Obj} {X : Option Addr} {c n : Nat} {R : List (Ent × Hd)} (hb : Boxed A3 lb 22 (.slice X n c)) (hg : Got B (.slice X R.length c) R A3) (hgr : (A3.alloc o).grownBy w5 (Value.slice X R.length c).ownBlock) : Boxed w5 lb 22 (.slice X n c) :=
  (hgr.block lb (by have := hb.lt; simp; omega) (Boxed.not_row (ext_heap (ext_alloc A3 o) hb) (by decide) (hg.below (ext_alloc A3 o)).row)).trans (ext_heap (ext_alloc A3 o) hb)

theorem blk_box {W : World} {lb B : Nat} {u v : Value} {R : List (Ent × Hd)} (hb : Boxed W lb 22 u) (hg : Got B v R W) : ∀ b, Blk v R b → b ≠ lb := by
  rintro b (h | ⟨p, hp, h | h⟩) e
  · exact Boxed.not_row hb (by decide) hg.row (by rw [h, e])
  · exact Boxed.not_row hb (by decide) (hg.each p hp).k (by rw [h, e])
  · exact Boxed.not_row hb (by decide) (hg.each p hp).v (by rw [h, e])
theorem got_not {W : World} {B : Nat} {v : Value} {R : List (Ent × Hd)} (hg : Got B v R W) {b : Nat} (hb : Blk v R b) (hD : W.heap[b]? = some (.deferred (some []))) : False := by
  have hcell : ∃ c t f, W.heap[b]? = some (.cells c t f) := by
    rcases hb with h | ⟨p, hp, h | h⟩
    · obtain ⟨_, _, c, hc⟩ := rowN_lt hg.row b h; exact ⟨_, _, _, hc⟩
    · obtain ⟨_, _, c, hc⟩ := rowN_lt (hg.each p hp).k b h; exact ⟨_, _, _, hc⟩
    · obtain ⟨_, _, c, hc⟩ := rowN_lt (hg.each p hp).v b h; exact ⟨_, _, _, hc⟩
  obtain ⟨c, t, f, hc⟩ := hcell
  rw [hD] at hc; cases hc
theorem wr_lt {L : List Ent} (_hm : MayB L) (hb : ∀ e ∈ L, (∀ x ∈ e.key, x < 256) ∧ ∀ x ∈ e.val, x < 256) : ∀ x ∈ wr L, x < 256 := by
  intro x hx
  unfold wr at hx
  rcases List.mem_append.1 hx with hx | hx
  · exact upto_lt hb _ x hx
  · rcases List.mem_append.1 hx with hx | hx
    · obtain ⟨n, _, hn⟩ := List.mem_flatMap.1 hx
      exact be4_lt n x hn
    · exact be4_lt _ x hx
/-- What stands behind an append. -/
structure TkN (w : World) (lb : Nat) (D K : Nat → Prop) (A3 w6 : World) (X : Option Addr) (c : Nat) (R' : List (Ent × Hd)) : Prop where
  box : Boxed w6 lb 22 (.slice X R'.length c)
  got : Got w.heap.size (.slice X R'.length c) R' w6
  below : Below w.heap.size w w6
  step : StepK K A3 w6
  size : A3.heap.size ≤ w6.heap.size
  fd : Free D (.slice X R'.length c)
  fk : Free K (.slice X R'.length c)
theorem tk_next {w A3 w5 w6 : World} {lb s3 : Nat} {bd : List Nat} {D K : Nat → Prop} {k cR N c5 : Nat} {X X5 : Option Addr} {R : List (Ent × Hd)} {p : Ent × Hd} {o : Obj} (hT : TkR w.heap.size lb bd D K k A3 X cR R) (hbw : Below w.heap.size w A3) (hlb : lb < s3) (hwl : w.heap.size ≤ lb)
    (hD : ∀ i, D i → s3 ≤ i ∧ i < A3.heap.size) (hK : ∀ i, K i → s3 ≤ i ∧ i < A3.heap.size)
    (hN : N = R.length + 1) (hg5 : Got w.heap.size (.slice X5 N c5) (R ++ [p]) w5) (hgr : (A3.alloc o).grownBy w5 (Value.slice X R.length cR).ownBlock)
    (hat : ∀ g, (Value.slice X5 N c5).ownBlock = some g → (Value.slice X R.length cR).ownBlock = some g ∨ g = (A3.alloc o).heap.size) (hw6 : w6 = w5.setCell ⟨lb, 0, none⟩ (.slice X5 N c5)) : TkN w lb D K A3 w6 X5 c5 (R ++ [p]) := by
  have hlen : N = (R ++ [p]).length := by rw [hN]; simp
  subst hlen
  have hb5 := tk_box hT.box hT.got hgr
  have hb6 : Boxed w6 lb 22 (.slice X5 (R ++ [p]).length c5) := by rw [hw6]; exact hb5.set _
  have hc : Chg (fun i => (Value.slice X R.length cR).ownBlock = some i ∨ i = lb) A3 w6 := by
    rw [hw6]
    exact ((Chg.alloc (S := fun i => (Value.slice X R.length cR).ownBlock = some i ∨ i = lb) A3 o).trans (Chg.grown hgr fun g hg => .inl hg)).trans (Chg.setCell _ _ _ (.inr rfl))
  have hrow := fun g hg => rowN_lt hT.got.row g hg
  refine ⟨hb6, ?_, hbw.trans (hc.below (fun i hi => by rcases hi with hi | hi; exact (hrow i hi).1; omega) hbw.size), StepK.of_chg hc (fun i _ hk hs => by rcases hs with hs | hs; exact hT.fk i hs hk; have := hK i hk; omega), hc.size, fun g hg hd => ?_, fun g hg hd => ?_⟩
  · rw [hw6]
    exact hg5.keepS (Chg.setCell (S := fun i => i = lb) w5 ⟨lb, 0, none⟩ _ rfl) (fun b hb => blk_box hb5 hg5 b hb)
  · rcases hat g hg with h | h
    · exact hT.fd g h hd
    · have := (hD g hd).2; rw [h] at this; simp at this; omega
  · rcases hat g hg with h | h
    · exact hT.fk g h hd
    · have := (hK g hd).2; rw [h] at this; simp at this; omega

set_option maxRecDepth 100000 in
set_option maxHeartbeats 16000000 in
theorem taken_any {w : World} {lo hi : Nat} {v : Value} {b : List Nat} (hv : Bs w lo hi v b) (hhi : hi ≤ w.heap.size) (hb : ∀ x ∈ b, x < 256) (hl : b.length ≤ 1000000000) :
    Calls Tryz.prog 130 #[v] w (TakenAns w b) := by
  obtain ⟨w1, hw1⟩ : ∃ w1, w1 = w.alloc (.cells #[.slice none 0 0] 22) := ⟨_, rfl⟩
  have HX1 : Hid (Ext w w1) := by rw [hw1]; exact ext_alloc _ _
  have HZ1 : Hid (w1.heap.size = w.heap.size + 1) := by rw [hw1]; simp [Hid]
  have HB1 : Hid (Boxed w1 w.heap.size 22 (.slice none 0 0)) := by rw [hw1]; exact heap_at _ _ rfl
  have HBO := Lib.hid (body_any (hv.below HX1.out hhi) (Nat.le_trans hhi HX1.out.size) hb hl)
  have HV := Lib.hid hv
  have HHI := Lib.hid hhi
  have HBY := Lib.hid hb
  have HL := Lib.hid hl
  obtain ⟨A, c, rfl, _, _, _, _⟩ := hv
  clear hhi hb hl
  refine (callsIn_wide (n := 6)).1 ?_
  refine callsIn_of_wp_marks Tryz.func130 rfl trivial ?_
  simp only [Tryz.ntmps130, List.size_toArray, List.length_cons, List.length_nil, Nat.reduceAdd, Nat.reduceSub, Array.replicate_succ, Array.replicate_zero, List.push_toArray, List.append_toArray, List.nil_append, List.cons_append]
  refine wpIn_wide.2 ?_
  go_wp2_with fail
  rw [← hw1]
  clear hw1
  refine HBO.out.mono ?_
  rintro x w2 ⟨hx2, (⟨BA, bc, bd, rfl, hbs, hbb, hbl, h4, hbi⟩ | ⟨rfl, hno⟩)⟩
  rotate_left
  · exact ⟨Ext.trans HX1.out hx2, .inr ⟨rfl, hno⟩⟩
  have HX2 : Hid (Ext w w2) := Ext.trans HX1.out hx2
  have HX12 := Lib.hid hx2
  have HBS := Lib.hid hbs
  have HBB := Lib.hid hbb
  have HBL := Lib.hid (And.intro hbl h4)
  have HBI := Lib.hid hbi
  clear hx2 hbs hbb hbl h4 hbi HBO
  go_wp2_with fail
  refine (entries_any _ _ _ _).mono ?_
  rintro x w3 ⟨rfl, hw3⟩
  have HX3 : Hid (Ext w2 w3) := by rw [hw3]; exact ext_alloc _ _
  have HZ3 : Hid (w3.heap.size = w2.heap.size + 1) := by rw [hw3]; simp [Hid]
  have HC3 : Hid (w3.cell? ⟨w2.heap.size, 0, none⟩ = some (.slice BA bd.length bc)) := by rw [hw3]; exact cell_of (heap_at _ _ rfl) rfl
  have HXW : Hid (Ext w w3) := Ext.trans HX2.out HX3.out
  clear hw3
  go_wp2_with fail
  rename_i ak
  refine (wpIn_wide (n := 6)).1 ?_
  have HIT := Lib.hid (entries_iter (HBS.out.below HX3.out (Nat.le_refl _)) HX3.out.size HBB.out (Nat.le_trans HBL.out.1 HL.out) HC3.out)
  have HLB : Hid (w.heap.size < w3.heap.size) := by have := HZ1.out; have := HX12.out.size; have := HX3.out.size; unfold Hid; omega
  refine wpIn_overP rfl enters_entries1 HIT.out (fun _ => rfl) (TkI w w.heap.size w3.heap.size bd) (TkX w w.heap.size w3.heap.size bd) (fun _ _ _ _ _ => trivial) ?hI ?hIx ?h0 ?round ?hok ?done ?pan ?stop
  case hI => exact fun D K k A1 A2 => fun D' K' h hc hD hK => h.chg HLB.out (Nat.le_of_lt HLB.out) hc hD hK
  case hIx =>
    rintro cd A1 A2 ⟨rfl, hb, X, cc, R, h1, h2, h3, h4, h5⟩ hc
    exact ⟨rfl, hb.trans (hc.below (fun i e => by have := HLB.out; omega) hb.size), X, cc, R, boxed_chg h1 hc (fun e => by have := HLB.out; omega), h2.keepS hc (fun b hb2 e => h5 b hb2 e), h3, h4, h5⟩
  case h0 =>
    intro A1 D K hx hD hK
    refine ⟨Ext.trans HXW.out hx, hx.size, hD, none, 0, [], ⟨ext_heap (Ext.trans (Ext.trans HX12.out HX3.out) hx) HB1.out, Got.nil _ _, rfl, fun L _ => ⟨Nat.zero_le _, rfl⟩, fun b hb => (by cases hb), fun b hb => (by cases hb), fun p hp => (by cases hp)⟩, Nat.zero_le _⟩
  case round =>
    rintro l D K k ⟨e, g⟩ A1 rfl hDl hKl hD hK hi ⟨hek, hm, hf1, hf2⟩
    have HI1 := Lib.hid hi
    have HEK := Lib.hid hek
    have HM1 := Lib.hid hm
    have HFR := Lib.hid (And.intro hf1 hf2)
    have HDK := Lib.hid (And.intro hD hK)
    have HLK := Lib.hid (And.intro hDl hKl)
    clear hDl hKl hD hK hi hek hm hf1 hf2
    dsimp only at HEK HFR
    dsimp only [entV, Ent.at_]
    gi_wp2
    obtain ⟨A2, hA2⟩ : ∃ A2, A2 = A1.alloc (.cells #[.slice g.kA e.key.length g.kc, .int .i64 e.seq, .int .i64 e.kind, .slice g.vA e.val.length g.vc] 55) := ⟨_, rfl⟩
    rw [← hA2]
    have HX2 : Hid (Ext A1 A2) := by rw [hA2]; exact ext_alloc _ _
    have HBE : Hid (A2.heap[A1.heap.size]? = some (.cells #[.slice g.kA e.key.length g.kc, .int .i64 e.seq, .int .i64 e.kind, .slice g.vA e.val.length g.vc] 55 (0, 0))) := by rw [hA2]; exact heap_at _ _ rfl
    clear hA2
    refine ⟨StepK.of_chg (S := fun _ => False) (Chg.of_ext HX2.out) (fun _ _ _ h => h), fun A3 hc => ?_⟩
    have HC23 := Lib.hid hc
    have HCH : Hid (Chg D A1 A3) := ((Chg.of_ext (S := D) HX2.out).trans (hc.mono fun i _ e => by rw [e]; exact HLK.out.1))
    have HI3 := Lib.hid (HI1.out.chg HLB.out (Nat.le_of_lt HLB.out) HCH.out (fun i h => .inl h) (fun i h => .inl h))
    obtain ⟨X, cR, R, hT, hk1024⟩ := HI3.out.ex
    have HT := Lib.hid hT
    have HM3 : Hid (Mine w.heap.size (e, g) A3) := by
      have hk := HM1.out.base (B' := w.heap.size) HXW.out.size
      exact ⟨row_kept hk.k fun b hb => HCH.out.block b (row_lt hk.k b hb).2 (HFR.out.1 b hb), row_kept hk.v fun b hb => HCH.out.block b (row_lt hk.v b hb).2 (HFR.out.2 b hb), hk.good⟩
    have HB3 : Hid (A3.heap[A1.heap.size]? = some (.cells #[.slice g.kA e.key.length g.kc, .int .i64 e.seq, .int .i64 e.kind, .slice g.vA e.val.length g.vc] 55 (0, 0))) :=
      (hc.block _ (Array.getElem?_eq_some_iff.1 HBE.out).1 (fun e => by have := HDK.out.2 _ HLK.out.2; omega)).trans HBE.out
    have HRL : Hid (R.length = k ∧ k ≤ 1024) := ⟨HT.out.len, hk1024⟩
    have q0 := hT.box.cell
    have e0 := cell_of HB3.out (k := 0) rfl
    have e1 := cell_of HB3.out (k := 1) rfl
    have e2 := cell_of HB3.out (k := 2) rfl
    have e3 := cell_of HB3.out (k := 3) rfl
    have HZA : Hid (w.heap.size ≤ A3.heap.size ∧ w3.heap.size ≤ A3.heap.size ∧ A1.heap.size < A3.heap.size) := ⟨by have := HI3.out.z; have := HLB.out; omega, HI3.out.z, (Array.getElem?_eq_some_iff.1 HB3.out).1⟩
    clear hc hT hk1024
    obtain ⟨N, hN⟩ : ∃ N, N = R.length + 1 := ⟨_, rfl⟩
    have HN := Lib.hid hN
    by_cases hbig : 1024 < N
    · have d : decide ((1024 : Int) < (N : Int)) = true := by rw [decide_eq_true_eq]; exact Int.ofNat_lt.2 hbig
      have dn : decide (1024 < N) = true := by rw [decide_eq_true_eq]; exact hbig
      have HBIG := Lib.hid hbig
      clear hbig hN
      gi_wp2_with (gi_at_builtin; refine wpListIn_putent rfl (.tmp 11) (.tmp 13) rfl w.heap.size _ R rfl (HT.out.got.below (ext_alloc _ _)) (e, g) A3.heap.size rfl (heap_at _ _ rfl) (HM3.out.below (ext_alloc _ _)) (by have := HRL.out; omega) (Nat.le_trans HZA.out.1 (by simp)) ?_; rw [← HN.out]; intro X5 c5 w5 hgot5 hgr5 hat5; have HG5 := Lib.hid hgot5; have HGR5 := Lib.hid hgr5; have HAT5 := Lib.hid hat5; have q1 := tk_box HT.out.box HT.out.got hgr5; have HQ1 := Lib.hid q1; have q2 := q1.cell; have q3 := q1.frozen; clear hgot5 hgr5 hat5 q1)
      obtain ⟨w6, hw6⟩ : ∃ w6, w6 = w5.setCell ⟨w.heap.size, 0, none⟩ (.slice X5 N c5) := ⟨_, rfl⟩
      rw [← hw6]
      have hnx := tk_next HT.out HI3.out.below HLB.out (Nat.le_refl _) (fun i h => ⟨(HDK.out.1 i h).1, by have := (HDK.out.1 i h).2; have := HZA.out; omega⟩) (fun i h => ⟨(HDK.out.2 i h).1, by have := (HDK.out.2 i h).2; have := HZA.out; omega⟩) HN.out HG5.out HGR5.out HAT5.out hw6
      clear hw6 q2 q3
      have hl := HLK.out
      refine ⟨hnx.step, rfl, hnx.below, X5, c5, R ++ [(e, g)], hnx.box, hnx.got, ?_, fun L hL => ?_, ?_⟩
      · have := HRL.out; have := HBIG.out; have := HN.out; simp; omega
      · have h1 := (List.getElem?_eq_some_iff.1 (HEK.out L hL)).1
        have := HRL.out; have := HBIG.out; have := HN.out; omega
      · rintro b (h | ⟨p, hp, h⟩) e1
        · subst e1; exact hnx.fk _ h hl.2
        · subst e1
          rcases List.mem_append.1 hp with hp | hp
          · rcases h with h | h
            · exact (HT.out.fe p hp).1 _ h hl.1
            · exact (HT.out.fe p hp).2 _ h hl.1
          · rw [List.mem_singleton] at hp; subst hp
            rcases h with h | h
            · exact HFR.out.1 _ h hl.1
            · exact HFR.out.2 _ h hl.1
    · have d : decide ((1024 : Int) < (N : Int)) = false := by rw [decide_eq_false_iff_not]; exact fun h => hbig (Int.ofNat_lt.1 h)
      have dn : decide (1024 < N) = false := by rw [decide_eq_false_iff_not]; exact hbig
      have HBIG := Lib.hid hbig
      clear hbig hN
      gi_wp2_with (gi_at_builtin; refine wpListIn_putent rfl (.tmp 11) (.tmp 13) rfl w.heap.size _ R rfl (HT.out.got.below (ext_alloc _ _)) (e, g) A3.heap.size rfl (heap_at _ _ rfl) (HM3.out.below (ext_alloc _ _)) (by have := HRL.out; omega) (Nat.le_trans HZA.out.1 (by simp)) ?_; rw [← HN.out]; intro X5 c5 w5 hgot5 hgr5 hat5; have HG5 := Lib.hid hgot5; have HGR5 := Lib.hid hgr5; have HAT5 := Lib.hid hat5; have q1 := tk_box HT.out.box HT.out.got hgr5; have HQ1 := Lib.hid q1; have q2 := q1.cell; have q3 := q1.frozen; clear hgot5 hgr5 hat5 q1)
      obtain ⟨w6, hw6⟩ : ∃ w6, w6 = w5.setCell ⟨w.heap.size, 0, none⟩ (.slice X5 N c5) := ⟨_, rfl⟩
      rw [← hw6]
      have hnx := tk_next HT.out HI3.out.below HLB.out (Nat.le_refl _) (fun i h => ⟨(HDK.out.1 i h).1, by have := (HDK.out.1 i h).2; have := HZA.out; omega⟩) (fun i h => ⟨(HDK.out.2 i h).1, by have := (HDK.out.2 i h).2; have := HZA.out; omega⟩) HN.out HG5.out HGR5.out HAT5.out hw6
      clear hw6 q2 q3
      refine ⟨hnx.step, hnx.below, by have := hnx.size; have := HZA.out; omega, fun i h => (HDK.out.1 i h).1, X5, c5, R ++ [(e, g)], ⟨hnx.box, hnx.got, ?_, fun L hL => ?_, hnx.fd, hnx.fk, fun p hp => ?_⟩, ?_⟩
      · rw [List.length_append, HRL.out.1]; rfl
      · have h1 := HEK.out L hL
        obtain ⟨h2, h3⟩ := HT.out.is L hL
        have h4 := (List.getElem?_eq_some_iff.1 h1).1
        refine ⟨h4, ?_⟩
        rw [List.take_add_one, h3, h1, List.map_append]; rfl
      · rcases List.mem_append.1 hp with hp | hp
        · exact HT.out.fe p hp
        · rw [List.mem_singleton] at hp; subst hp; exact HFR.out
      · have := HRL.out; have := HBIG.out; have := HN.out; omega
  case hok =>
    rintro D K D' K' k x A1 ⟨h1, h2, h3, h4⟩ ⟨od, hd⟩ ⟨ol, hl⟩ hD' _ _ _
    have hfr : ∀ {l : List Nat} {u : Value}, Own w3.heap.size l u A1 → Free D u → Free D' u := fun ho hf b hb hd' => by
      obtain ⟨_, _, cc, hcc⟩ := rowN_lt ho b hb
      rcases hD' b hd' with h | h | h
      · exact hf b hb h
      · rw [h, hd] at hcc; cases hcc
      · rw [h, hl] at hcc; cases hcc
    exact ⟨h1, h2, hfr h2.k h3, hfr h2.v h4⟩
  case done =>
    rintro D k W D0 K0 hDl hi hdn hD
    obtain ⟨X, cR, R, t, hk⟩ := hi.ex
    have HBOX := Lib.hid t.box
    have HGOT := Lib.hid t.got
    have HLEN : Hid (R.length ≤ 1025) := by have := t.len; unfold Hid; omega
    have HBW := Lib.hid hi.below
    have HDD := Lib.hid hD
    have HDL := Lib.hid hDl
    have HEQ : Hid (∀ L, IsB b L → L = R.map Prod.fst) := fun L hL => by
      have hB := HBI.out L hL
      have h1 := (t.is L hB).2
      have h2 := hdn L hB
      rw [← h2, List.take_length] at h1
      exact h1
    clear hDl hi hdn hD t hk
    refine ak _ _ ?_
    have q0 := HBOX.out.cell
    have HW := Lib.hid (write_any (c := cR) HGOT.out.rs (Nat.le_refl _) HGOT.out.capd.1 (by have := HLEN.out; omega))
    go_wp2_with fail
    refine HW.out.mono ?_
    rintro x w4 ⟨hx4, (⟨hmb, B, cb, rfl, hown⟩ | ⟨hmb, rfl⟩)⟩
    · have HX4 := Lib.hid hx4
      have HMB := Lib.hid hmb
      have HOW := Lib.hid hown
      have HB4 : Hid (Below w.heap.size w w4) := HBW.out.trans (hx4.mono HBW.out.size)
      have HEQL := Lib.hid (bequal_any hown.bs (HV.out.below (HBW.out.trans (hx4.mono HBW.out.size)) HHI.out) (wr_lt hmb (fun e he => by obtain ⟨p, hp, rfl⟩ := List.mem_map.1 he; exact ⟨(HGOT.out.each p hp).good.bk, (HGOT.out.each p hp).good.bv⟩)) HBY.out)
      have q1 := ext_cell hx4 q0
      have HDD4 : Hid (w4.heap[D]? = some (.deferred (some []))) := ext_heap hx4 HDD.out
      have HG4 := Lib.hid (HGOT.out.below hx4)
      clear hx4 hmb hown q0
      go_wp2_with fail
      refine HEQL.out.mono ?_
      rintro x w5 ⟨⟨z, hz, rfl⟩, rfl⟩
      have HZ := Lib.hid hz
      clear hz
      have HF : Hid (Below w.heap.size w (w5.putObj D (.deferred none))) := HB4.out.trans ((putObj_chg w5 D _).below (fun i e => by have := HDL.out; have := HLB.out; omega) HB4.out.size)
      have HGF : Hid (Got w.heap.size (.slice X R.length cR) R (w5.putObj D (.deferred none))) := HG4.out.keepS (putObj_chg w5 D _) (fun bb hbb e => got_not HG4.out hbb (by rw [e]; exact HDD4.out))
      cases z with
      | true =>
        have HIS : Hid (IsB b (R.map Prod.fst)) := ⟨HMB.out, HZ.out.1 rfl⟩
        go_wp2_with fail
        refine ⟨by simp, .inl ⟨_, _, rfl, run_takeDeferred HDD4.out, ?_⟩⟩
        exact ⟨_, results_tmp rfl _ _ _, HF.out, .inl ⟨R, X, cR, HIS.out, rfl, HGF.out⟩⟩
      | false =>
        have HNO : Hid (∀ L, ¬ IsB b L) := fun L hL => by
          have h1 := HEQ.out L hL
          have h2 := HZ.out.2 (by rw [← h1]; exact hL.2)
          cases h2
        go_wp2_with fail
        refine (giveUp_any _).mono ?_
        rintro x w6 ⟨rfl, rfl⟩
        refine ⟨by simp, .inl ⟨_, _, rfl, run_takeDeferred HDD4.out, ?_⟩⟩
        exact ⟨HF.out, .inr ⟨rfl, HNO.out⟩⟩
    · have HX4 := Lib.hid hx4
      have HB4 : Hid (Below w.heap.size w w4) := HBW.out.trans (hx4.mono HBW.out.size)
      have HEQL := Lib.hid (bequal_any (Bs.nil w4 0 0) (HV.out.below (HBW.out.trans (hx4.mono HBW.out.size)) HHI.out) (by simp) HBY.out)
      have HDD4 : Hid (w4.heap[D]? = some (.deferred (some []))) := ext_heap hx4 HDD.out
      have HNO : Hid (∀ L, ¬ IsB b L) := fun L hL => hmb (by rw [← HEQ.out L hL]; exact hL.1)
      clear hx4 hmb q0
      go_wp2_with fail
      refine HEQL.out.mono ?_
      rintro x w5 ⟨⟨z, hz, rfl⟩, rfl⟩
      have hz0 : z = false := by
        cases z with
        | false => rfl
        | true => have h1 := hz.1 rfl; have h2 := HBL.out.2; rw [← h1] at h2; simp at h2
      subst hz0
      clear hz
      have HF : Hid (Below w.heap.size w (w5.putObj D (.deferred none))) := HB4.out.trans ((putObj_chg w5 D _).below (fun i e => by have := HDL.out; have := HLB.out; omega) HB4.out.size)
      go_wp2_with fail
      refine (giveUp_any _).mono ?_
      rintro x w6 ⟨rfl, rfl⟩
      refine ⟨by simp, .inl ⟨_, _, rfl, run_takeDeferred HDD4.out, ?_⟩⟩
      exact ⟨HF.out, .inr ⟨rfl, HNO.out⟩⟩
  case pan =>
    rintro D k W D0 K0 ch hDl hi ⟨rfl, hno⟩ hD
    have hbw := hi.below
    refine ⟨by simp, .inl ⟨_, _, rfl, run_takeDeferred hD, ?_⟩⟩
    exact ⟨hbw.trans ((putObj_chg W D _).below (fun i e => by have := HLB.out; omega) hbw.size), .inr ⟨rfl, fun L hL => hno L (HBI.out L hL)⟩⟩
  case stop =>
    rintro D cd W hDl ⟨rfl, hb, X, cR, R, h1, h2, h3, h4, h5⟩ hD
    have HBOX := Lib.hid h1
    have HGOT := Lib.hid h2
    have HLEN : Hid (R.length ≤ 1025) := Nat.le_of_eq h3
    have HBW := Lib.hid hb
    have HDD := Lib.hid hD
    have HDL := Lib.hid hDl
    have HEQ : Hid (∀ L, IsB b L → L = R.map Prod.fst) := fun L hL => by
      have h6 := h4 L (HBI.out L hL)
      have h7 := hL.1.2.1
      omega
    clear hDl hb h1 h2 h3 h4 h5 hD
    refine wpIn_wide.2 ?_
    have q0 := HBOX.out.cell
    have HW := Lib.hid (write_any (c := cR) HGOT.out.rs (Nat.le_refl _) HGOT.out.capd.1 (by have := HLEN.out; omega))
    go_wp2_with fail
    refine HW.out.mono ?_
    rintro x w4 ⟨hx4, (⟨hmb, B, cb, rfl, hown⟩ | ⟨hmb, rfl⟩)⟩
    · have HX4 := Lib.hid hx4
      have HMB := Lib.hid hmb
      have HOW := Lib.hid hown
      have HB4 : Hid (Below w.heap.size w w4) := HBW.out.trans (hx4.mono HBW.out.size)
      have HEQL := Lib.hid (bequal_any hown.bs (HV.out.below (HBW.out.trans (hx4.mono HBW.out.size)) HHI.out) (wr_lt hmb (fun e he => by obtain ⟨p, hp, rfl⟩ := List.mem_map.1 he; exact ⟨(HGOT.out.each p hp).good.bk, (HGOT.out.each p hp).good.bv⟩)) HBY.out)
      have q1 := ext_cell hx4 q0
      have HDD4 : Hid (w4.heap[D]? = some (.deferred (some []))) := ext_heap hx4 HDD.out
      have HG4 := Lib.hid (HGOT.out.below hx4)
      clear hx4 hmb hown q0
      go_wp2_with fail
      refine HEQL.out.mono ?_
      rintro x w5 ⟨⟨z, hz, rfl⟩, rfl⟩
      have HZ := Lib.hid hz
      clear hz
      have HF : Hid (Below w.heap.size w (w5.putObj D (.deferred none))) := HB4.out.trans ((putObj_chg w5 D _).below (fun i e => by have := HDL.out; have := HLB.out; omega) HB4.out.size)
      have HGF : Hid (Got w.heap.size (.slice X R.length cR) R (w5.putObj D (.deferred none))) := HG4.out.keepS (putObj_chg w5 D _) (fun bb hbb e => got_not HG4.out hbb (by rw [e]; exact HDD4.out))
      cases z with
      | true =>
        have HIS : Hid (IsB b (R.map Prod.fst)) := ⟨HMB.out, HZ.out.1 rfl⟩
        go_wp2_with fail
        refine ⟨by simp, .inl ⟨_, _, rfl, run_takeDeferred HDD4.out, ?_⟩⟩
        exact ⟨_, results_tmp rfl _ _ _, HF.out, .inl ⟨R, X, cR, HIS.out, rfl, HGF.out⟩⟩
      | false =>
        have HNO : Hid (∀ L, ¬ IsB b L) := fun L hL => by
          have h1 := HEQ.out L hL
          have h2 := HZ.out.2 (by rw [← h1]; exact hL.2)
          cases h2
        go_wp2_with fail
        refine (giveUp_any _).mono ?_
        rintro x w6 ⟨rfl, rfl⟩
        refine ⟨by simp, .inl ⟨_, _, rfl, run_takeDeferred HDD4.out, ?_⟩⟩
        exact ⟨HF.out, .inr ⟨rfl, HNO.out⟩⟩
    · have HX4 := Lib.hid hx4
      have HB4 : Hid (Below w.heap.size w w4) := HBW.out.trans (hx4.mono HBW.out.size)
      have HEQL := Lib.hid (bequal_any (Bs.nil w4 0 0) (HV.out.below (HBW.out.trans (hx4.mono HBW.out.size)) HHI.out) (by simp) HBY.out)
      have HDD4 : Hid (w4.heap[D]? = some (.deferred (some []))) := ext_heap hx4 HDD.out
      have HNO : Hid (∀ L, ¬ IsB b L) := fun L hL => hmb (by rw [← HEQ.out L hL]; exact hL.1)
      clear hx4 hmb q0
      go_wp2_with fail
      refine HEQL.out.mono ?_
      rintro x w5 ⟨⟨z, hz, rfl⟩, rfl⟩
      have hz0 : z = false := by
        cases z with
        | false => rfl
        | true => have h1 := hz.1 rfl; have h2 := HBL.out.2; rw [← h1] at h2; simp at h2
      subst hz0
      clear hz
      have HF : Hid (Below w.heap.size w (w5.putObj D (.deferred none))) := HB4.out.trans ((putObj_chg w5 D _).below (fun i e => by have := HDL.out; have := HLB.out; omega) HB4.out.size)
      go_wp2_with fail
      refine (giveUp_any _).mono ?_
      rintro x w6 ⟨rfl, rfl⟩
      refine ⟨by simp, .inl ⟨_, _, rfl, run_takeDeferred HDD4.out, ?_⟩⟩
      exact ⟨HF.out, .inr ⟨rfl, HNO.out⟩⟩
end Go.Proofs.YthhgjeeangepaaaGreat

/- Read: a block's entries; who gives up by the way is recovered. -/
namespace Go.Proofs.YthhgjeeangepaaaGreat
open Go.ChangeShapes Go.WideShapes Go.ChangeAt Go.RowKit

theorem catch_panicking (p q : Nat) (v0 v1 : Value) (u : TypeId) (pv : Value) (older : List PanicEntry) (w : World) (hp : Boxed w p 22 v0) (hq : Boxed w q 27 v1) (hne : p ≠ q) :
    CallsD Tryz.prog 129 #[.pointer (some ⟨p, 0, none⟩), .pointer (some ⟨q, 0, none⟩)] (.panicking ({ v := .iface u pv, recovered := false } :: older)) w fun e u' w' =>
      e = .returned (.tuple #[]) ∧ u' = .panicking ({ v := .iface u pv, recovered := true } :: older) ∧ w' = (w.setCell ⟨p, 0, none⟩ (.slice none 0 0)).setCell ⟨q, 0, none⟩ (.int .i64 4) := by
  have hc := hp.cell
  have hz := hp.frozen
  have hq2 : Boxed (w.setCell ⟨p, 0, none⟩ (.slice none 0 0)) q 27 v1 := (Below.heap_setCell _ _ _ _ (by exact fun e => hne e.symm)).trans hq
  have hc2 := hq2.cell
  have hz2 := hq2.frozen
  refine callsD_of_wpS Tryz.func129 rfl fun c₀ cs hu => ?_
  apply wpS_seq
  apply wpS_region
  simp [wpOpsS, go_sem, recoverD, hu, Tryz.ntmps129, Exit.thenS]
  refine wpS_cond (t := true) (by simp [Act.eval, Array.replicate]) ?_
  simp only [if_true]
  apply wpS_region
  simp [wpOpsS, go_sem, hc, hz, hc2, hz2, bodyPostS, results, Tryz.results129]

theorem catch_idle (p q : Nat) (w : World) :
    CallsD Tryz.prog 129 #[.pointer (some ⟨p, 0, none⟩), .pointer (some ⟨q, 0, none⟩)] .returning w fun e u' w' => e = .returned (.tuple #[]) ∧ u' = .returning ∧ w' = w := by
  refine callsD_of_wpS Tryz.func129 rfl fun c₀ cs hu => ?_
  apply wpS_seq
  apply wpS_region
  simp [wpOpsS, go_sem, recoverD, hu, Tryz.ntmps129, Exit.thenS]
  refine wpS_cond (t := false) (by simp [Act.eval, Array.replicate]) ?_
  simp only [Bool.false_eq_true, if_false]
  refine wpS_of_wp (wp_skip ?_)
  cases c₀
  simp_all [bodyPostS, results, Tryz.results129]

/-- What Read answers. -/
def ReadBAns (w : World) (b : List Nat) (x : Ending) (w' : World) : Prop :=
  Ext w w' ∧ ((∃ (R : List (Ent × Hd)) (A : Option Addr) (c : Nat), IsB b (R.map Prod.fst) ∧ x = .returned (.tuple #[.slice A R.length c, .int .i64 0]) ∧ Got w.heap.size (.slice A R.length c) R w') ∨ ((∀ L, ¬ IsB b L) ∧ x = .returned (.tuple #[.slice none 0 0, .int .i64 4])))
theorem results_read (tmps : Array Value) (w : World) (g k : Nat) (v v' : Value) (hp : tmps.getD 2 undef = .pointer (some ⟨g, 0, none⟩)) (hq : tmps.getD 3 undef = .pointer (some ⟨k, 0, none⟩)) (hc : w.cell? ⟨g, 0, none⟩ = some v) (hc' : w.cell? ⟨k, 0, none⟩ = some v') :
    (results Tryz.f103 tmps).run Tryz.prog w = .ok (.tuple #[v, v']) w := by
  simp only [results, Tryz.results103]
  have hp' : tmps[2]?.getD undef = .pointer (some ⟨g, 0, none⟩) := by simpa using hp
  have hq' : tmps[3]?.getD undef = .pointer (some ⟨k, 0, none⟩) := by simpa using hq
  simp [Sem.run_bind, hp', hq', go_sem, hc, hc']

set_option maxRecDepth 100000 in
set_option maxHeartbeats 4000000 in
theorem bread_any {w : World} {lo hi : Nat} {v : Value} {b : List Nat} (hv : Bs w lo hi v b) (hhi : hi ≤ w.heap.size) (hb : ∀ x ∈ b, x < 256) (hl : b.length ≤ 1000000000) :
    Calls Tryz.prog 103 #[v] w (ReadBAns w b) := by
  obtain ⟨w1, hw1⟩ : ∃ w1, w1 = (w.alloc (.cells #[.slice none 0 0] 22)).alloc (.cells #[.int .i64 0] 27) := ⟨_, rfl⟩
  have HX1 : Hid (Ext w w1) := by rw [hw1]; exact Ext.trans (ext_alloc _ _) (ext_alloc _ _)
  have HA1 : Hid (Boxed w1 w.heap.size 22 (.slice none 0 0)) := by rw [hw1]; exact ext_heap (ext_alloc _ _) (heap_at _ _ rfl)
  have HB1 : Hid (Boxed w1 (w.heap.size + 1) 27 (.int .i64 0)) := by rw [hw1]; exact heap_at _ _ (by simp)
  have HT := Lib.hid (taken_any (hv.below HX1.out hhi) (Nat.le_trans hhi HX1.out.size) hb hl)
  have HZ1 : Hid (w1.heap.size = w.heap.size + 2) := by rw [hw1]; simp [Hid]
  obtain ⟨A, c, rfl, _, _, _, _⟩ := hv
  have hmf := mkf
  clear hhi hb hl
  go_enter_defers Tryz.func103, Tryz.ntmps103
  go_wp2_with fail
  rw [← hw1]
  clear hw1
  refine HT.out.mono ?_
  rintro x w2 ⟨hx2, (⟨R, X, cR, his, rfl, hgot⟩ | ⟨rfl, hno⟩)⟩
  · have HX2 := Lib.hid hx2
    have HIS := Lib.hid his
    have HG := Lib.hid hgot
    have ha : Boxed w2 w.heap.size 22 (.slice none 0 0) := ext_heap hx2 HA1.out
    have hb : Boxed w2 (w.heap.size + 1) 27 (.int .i64 0) := ext_heap hx2 HB1.out
    have HA2 := Lib.hid ha
    have HB2 := Lib.hid hb
    have q0 := ha.cell
    have q1 := ha.frozen
    have hb2 : Boxed (w2.setCell ⟨w.heap.size, 0, none⟩ (.slice X R.length cR)) (w.heap.size + 1) 27 (.int .i64 0) := (Below.heap_setCell _ _ _ _ (by show w.heap.size + 1 ≠ w.heap.size; omega)).trans hb
    have q2 := hb2.cell
    have q3 := hb2.frozen
    have HB3 := Lib.hid hb2
    clear hx2 his hgot ha hb hb2
    go_wp2_with fail
    obtain ⟨w3, hw3⟩ : ∃ w3, w3 = (w2.setCell ⟨w.heap.size, 0, none⟩ (.slice X R.length cR)).setCell ⟨w.heap.size + 1, 0, none⟩ (.int .i64 0) := ⟨_, rfl⟩
    rw [← hw3]
    have ha3 : Boxed w3 w.heap.size 22 (.slice X R.length cR) := by rw [hw3]; exact (Below.heap_setCell _ _ _ _ (by show w.heap.size ≠ w.heap.size + 1; omega)).trans (HA2.out.set _)
    have hb3 : Boxed w3 (w.heap.size + 1) 27 (.int .i64 0) := by rw [hw3]; exact HB3.out.set _
    have hc3 : Chg (fun i => i = w.heap.size ∨ i = w.heap.size + 1) w2 w3 := by rw [hw3]; exact (Chg.setCell _ _ _ (.inl rfl)).trans (Chg.setCell _ _ _ (.inr rfl))
    have hx : Ext w w3 := Below.trans (Ext.trans HX1.out HX2.out) (hc3.below (fun i h => by omega) (Ext.trans HX1.out HX2.out).size)
    clear hw3
    refine leaves_cons (f := 129) (args := #[.pointer (some ⟨w.heap.size, 0, none⟩), .pointer (some ⟨w.heap.size + 1, 0, none⟩)]) (by simp) (by simp [go_sem]) ?_
    refine (catch_idle _ _ _).mono ?_
    rintro e u' w4 ⟨rfl, rfl, rfl⟩
    refine ⟨_, results_read _ _ _ _ _ _ rfl rfl ha3.cell hb3.cell, hx, .inl ⟨R, X, cR, HIS.out, rfl, ?_⟩⟩
    exact (HG.out.keepS hc3 (fun bb hbb e => by have := (HG.out.blk hbb).1; have := HZ1.out; omega)).base HX1.out.size
  · have HX2 := Lib.hid hx2
    have HNO := Lib.hid hno
    have ha : Boxed w2 w.heap.size 22 (.slice none 0 0) := ext_heap hx2 HA1.out
    have hb : Boxed w2 (w.heap.size + 1) 27 (.int .i64 0) := ext_heap hx2 HB1.out
    refine leaves_cons (f := 129) (args := #[.pointer (some ⟨w.heap.size, 0, none⟩), .pointer (some ⟨w.heap.size + 1, 0, none⟩)]) (by simp) (by simp [go_sem]) ?_
    refine (catch_panicking _ _ _ _ _ _ [] _ ha hb (by omega)).mono ?_
    rintro e u' w4 ⟨rfl, rfl, hw4⟩
    have ha3 : Boxed w4 w.heap.size 22 (.slice none 0 0) := by rw [hw4]; exact (Below.heap_setCell _ _ _ _ (by show w.heap.size ≠ w.heap.size + 1; omega)).trans (ha.set _)
    have hb3 : Boxed w4 (w.heap.size + 1) 27 (.int .i64 4) := by
      rw [hw4]
      have h1 : Boxed (w2.setCell ⟨w.heap.size, 0, none⟩ (.slice none 0 0)) (w.heap.size + 1) 27 (.int .i64 0) := (Below.heap_setCell _ _ _ _ (by show w.heap.size + 1 ≠ w.heap.size; omega)).trans hb
      exact h1.set _
    have hc3 : Chg (fun i => i = w.heap.size ∨ i = w.heap.size + 1) w2 w4 := by rw [hw4]; exact (Chg.setCell _ _ _ (.inl rfl)).trans (Chg.setCell _ _ _ (.inr rfl))
    have hx : Ext w w4 := Below.trans (Ext.trans HX1.out HX2.out) (hc3.below (fun i h => by omega) (Ext.trans HX1.out HX2.out).size)
    exact ⟨_, results_read _ _ _ _ _ _ rfl rfl ha3.cell hb3.cell, hx, .inr ⟨HNO.out, rfl⟩⟩

/-- What Restarts answers. -/
def RestAns (w : World) (b : List Nat) (x : Ending) (w' : World) : Prop :=
  Ext w w' ∧ ((∃ (L : List Ent) (A : Option Addr) (c : Nat), IsB b L ∧ x = .returned (.tuple #[.slice A (ats L L.length).length c, .int .i64 0]) ∧ OwnI w.heap.size (ats L L.length) (.slice A (ats L L.length).length c) w') ∨ ((∀ L, ¬ IsB b L) ∧ x = .returned (.tuple #[.slice none 0 0, .int .i64 4])))
end Go.Proofs.YthhgjeeangepaaaGreat

/- first: where the first one of rising entries stands that is not ahead, by halves. -/
namespace Go.Proofs.YthhgjeeangepaaaGreat
open Go.ChangeShapes Go.WideShapes Go.ChangeAt Go.RowKit

theorem rise_lt {L : List Ent} (h : Rise L) : ∀ (d i : Nat) (a b : Ent), L[i]? = some a → L[i + d + 1]? = some b → cmpE a b < 0 := by
  intro d
  induction d with
  | zero => intro i a b ha hb; exact h i a b ha hb
  | succ d ih =>
    intro i a b ha hb
    have hlt := (List.getElem?_eq_some_iff.1 hb).1
    obtain ⟨m, hm⟩ : ∃ m, L[i + d + 1]? = some m := ⟨_, List.getElem?_eq_getElem (by omega)⟩
    have h1 := ih i a m ha hm
    have h2 := h (i + d + 1) m b hm hb
    have r1 := cmpE_range a m
    have r2 := cmpE_range m b
    have := cmpE_lt_trans (a := a) (b := m) (c := b) (by omega) (by omega)
    omega
theorem rise_at {L : List Ent} (h : Rise L) {i j : Nat} {a b : Ent} (hij : i < j) (ha : L[i]? = some a) (hb : L[j]? = some b) : cmpE a b < 0 := by
  obtain ⟨d, rfl⟩ : ∃ d, j = i + d + 1 := ⟨j - i - 1, by omega⟩
  exact rise_lt h d i a b ha hb
/-- Ahead of n all are ahead of it, from n on none is. -/
structure Cut (L : List Ent) (x : Ent) (n : Nat) : Prop where
  le : n ≤ L.length
  lo : ∀ j a, j < n → L[j]? = some a → cmpE a x < 0
  hi : ∀ j a, n ≤ j → L[j]? = some a → 0 ≤ cmpE a x
theorem cut_lo {L : List Ent} (h : Rise L) {x a : Ent} {m : Nat} (hm : L[m]? = some a) (hc : cmpE a x < 0) : ∀ j b, j < m + 1 → L[j]? = some b → cmpE b x < 0 := by
  intro j b hj hb
  rcases Nat.lt_or_ge j m with h1 | h1
  · have h2 := rise_at h h1 hb hm
    have r1 := cmpE_range b a
    have r2 := cmpE_range a x
    have := cmpE_lt_trans (a := b) (b := a) (c := x) (by omega) (by omega)
    omega
  · have : j = m := by omega
    subst this
    rw [hm] at hb; injection hb with hb; subst hb; exact hc
theorem cut_hi {L : List Ent} (h : Rise L) {x a : Ent} {m : Nat} (hm : L[m]? = some a) (hc : 0 ≤ cmpE a x) : ∀ j b, m ≤ j → L[j]? = some b → 0 ≤ cmpE b x := by
  intro j b hj hb
  rcases Nat.lt_or_ge m j with h1 | h1
  · have h2 := rise_at h h1 hm hb
    rcases Int.lt_or_le (cmpE b x) 0 with h3 | h3
    · have r1 := cmpE_range a b
      have r2 := cmpE_range b x
      have := cmpE_lt_trans (a := a) (b := b) (c := x) (by omega) (by omega)
      omega
    · exact h3
  · have : j = m := by omega
    subst this
    rw [hm] at hb; injection hb with hb; subst hb; exact hc
theorem wrap_sum {l h : Nat} (k : l + h < 1000000) : wrap64 ((l : Int) + (h : Int)) = ((l + h : Nat) : Int) := by unfold wrap64; omega
theorem wrap_div {m : Nat} (k : m < 1000000) : wrap64 ((m : Int) / 2) = ((m / 2 : Nat) : Int) := by unfold wrap64; omega

set_option maxRecDepth 100000 in
set_option maxHeartbeats 8000000 in
theorem first_any {w : World} {lo hi lo2 hi2 c : Nat} {A : Option Addr} {L : List (Ent × Hd)} {x : Ent} {g : Hd} (h : Es w lo hi A L) (hhi : hi ≤ w.heap.size) (hn : L.length ≤ 1024) (hr : Rise (L.map Prod.fst)) (hx : Em w lo2 hi2 x g) (hhi2 : hi2 ≤ w.heap.size) :
    Calls Tryz.prog 104 #[.slice A L.length c, x.at_ g] w fun e w' => ∃ n : Nat, Cut (L.map Prod.fst) x n ∧ e = .returned (.int .i64 (n : Int)) ∧ Ext w w' := by
  obtain ⟨w1, hw1⟩ : ∃ w1, w1 = w.alloc (.cells #[.slice g.kA x.key.length g.kc, .int .i64 x.seq, .int .i64 x.kind, .slice g.vA x.val.length g.vc] 55) := ⟨_, rfl⟩
  have HX1 : Hid (Ext w w1) := by rw [hw1]; exact ext_alloc _ _
  have HB1 : Hid (w1.heap[w.heap.size]? = some (.cells #[.slice g.kA x.key.length g.kc, .int .i64 x.seq, .int .i64 x.kind, .slice g.vA x.val.length g.vc] 55 (0, 0))) := by rw [hw1]; exact heap_at _ _ rfl
  have HE := Lib.hid (h.below HX1.out hhi)
  have HM := Lib.hid (hx.below HX1.out hhi2)
  have HH : Hid (hi ≤ w1.heap.size ∧ hi2 ≤ w1.heap.size) := ⟨Nat.le_trans hhi HX1.out.size, Nat.le_trans hhi2 HX1.out.size⟩
  have HR := Lib.hid hr
  have HN := Lib.hid hn
  clear h hhi hn hr hx hhi2
  unfold Ent.at_
  go_enter Tryz.func104, Tryz.ntmps104
  go_upto_region 1 with (fail)
  rw [← hw1]
  clear hw1
  go_step3
  go_wp2_with fail
  go_step3
  go_wp2_with fail
  go_loopw [5, 6, 7] (fun a b _ wr => ∃ l k : Nat, l ≤ k ∧ k ≤ L.length ∧ a = .int .i64 (l : Int) ∧ b = .int .i64 (k : Int) ∧ Hid (∀ j y, j < l → (L.map Prod.fst)[j]? = some y → cmpE y x < 0) ∧ Hid (∀ j y, k ≤ j → (L.map Prod.fst)[j]? = some y → 0 ≤ cmpE y x) ∧ Hid (Ext w1 wr))
    (fun a b _ _ => (intOf b).toNat - (intOf a).toNat)
  case atStart => exact ⟨0, L.length, Nat.zero_le _, Nat.le_refl _, rfl, rfl, fun j y h => absurd h (Nat.not_lt_zero _), fun j y h hy => by have := (List.getElem?_eq_some_iff.1 hy).1; rw [List.length_map] at this; omega, Ext.refl _⟩
  case round =>
    obtain ⟨l, k, hlk, hkn, rfl, rfl, HLO, HHI, HX⟩ := hrel
    by_cases hlt : l < k
    · have d : decide ((l : Int) < (k : Int)) = true := by rw [decide_eq_true_eq]; exact Int.ofNat_lt.2 hlt
      have dn : decide (l < k) = true := by rw [decide_eq_true_eq]; exact hlt
      obtain ⟨m, hm⟩ : ∃ m, m = (l + k) / 2 := ⟨_, rfl⟩
      have HMM : Hid (l ≤ m ∧ m < k ∧ k ≤ L.length ∧ L.length ≤ 1024) := by have := HN.out; unfold Hid; omega
      have hs1 := wrap_sum (l := l) (h := k) (by have := HN.out; omega)
      obtain ⟨s, hs⟩ : ∃ s, s = l + k := ⟨_, rfl⟩
      rw [← hs] at hs1 hm
      have hs2 := wrap_div (m := s) (by have := HN.out; omega)
      rw [← hm] at hs2
      have HS2 := Lib.hid hs2
      have hml : m < L.length := by have := HMM.out; omega
      obtain ⟨p, hp⟩ : ∃ p, L[m]? = some p := ⟨_, List.getElem?_eq_getElem hml⟩
      have HP := Lib.hid hp
      obtain ⟨bb, oo, rfl⟩ := HE.out.base (by omega)
      have HEr := Lib.hid (HE.out.below HX.out HH.out.1)
      obtain ⟨c0, c1, c2, c3⟩ := HEr.out.get hp
      have HBr : Hid (wr.heap[w.heap.size]? = some (.cells #[.slice g.kA x.key.length g.kc, .int .i64 x.seq, .int .i64 x.kind, .slice g.vA x.val.length g.vc] 55 (0, 0))) := ext_heap HX.out HB1.out
      have e0 := cell_of HBr.out (k := 0) rfl
      have e1 := cell_of HBr.out (k := 1) rfl
      have e2 := cell_of HBr.out (k := 2) rfl
      have e3 := cell_of HBr.out (k := 3) rfl
      have n1 : (0 : Int) ≤ (m : Int) := Int.natCast_nonneg _
      have n2 : (m : Int) < (L.length : Int) := Int.ofNat_lt.2 hml
      have HCK : Hid (∀ u, Ext wr u → Calls Tryz.prog 102 #[p.1.at_ p.2, x.at_ g] u fun y w' => y = .returned (.int .i64 (cmpE p.1 x)) ∧ Ext u w') := fun u hu => by
        have hz := HX.out.size
        exact compare_any ((HEr.out.each p (List.mem_of_getElem? HP.out)).below hu (Nat.le_trans HH.out.1 hz)) (HM.out.below (Ext.trans HX.out hu) HH.out.2) (Nat.le_trans HH.out.1 (Nat.le_trans hz hu.size)) (Nat.le_trans HH.out.2 (Nat.le_trans hz hu.size))
      obtain ⟨z, hz⟩ : ∃ z, z = cmpE p.1 x := ⟨_, rfl⟩
      have HZ := Lib.hid hz
      rw [← hz] at HCK
      have HPM : Hid ((L.map Prod.fst)[m]? = some p.1) := by rw [List.getElem?_map, HP.out]; exact rfl
      unfold Ent.at_ at HCK
      clear hlt hp hml hm hs hlk hkn hz
      by_cases hneg : z < 0
      · have dz : decide (z < 0) = true := decide_eq_true hneg
        have HNG := Lib.hid hneg
        clear hneg
        go_upto_region 4 with (fail)
        refine flow (by kernel_rfl) [Is (.slice (some ⟨bb, oo, none⟩) L.length c), Is (.int .i64 (m : Int)), Is (.pointer (some ⟨bb, oo + m * 4, none⟩)), Is (.agg #[.slice p.2.kA p.1.key.length p.2.kc, .int .i64 p.1.seq, .int .i64 p.1.kind, .slice p.2.vA p.1.val.length p.2.vc]), Is (.agg #[.slice g.kA x.key.length g.kc, .int .i64 x.seq, .int .i64 x.kind, .slice g.vA x.val.length g.vc]), Is (.int .i64 z), Is (.bool true)] (by kernel_rfl) (by kernel_rfl) ?mono (fun f1 => ?obl) ?fin
        case mono =>
          simp only [List.forall_mem_cons, List.not_mem_nil, false_imp_iff, implies_true, and_true]
          exact ⟨.is _, .is _, .is _, .is _, .is _, .is _, .is _⟩
        case fin =>
          intro g1 u hu hg
          simp only [puts, Act.put, List.setIfInBounds_toArray, List.set_cons_zero, List.set_cons_succ]
          have hxu := Ext.trans (Ext.drew wr) hu
          have HXU : Hid (Ext w1 u) := Ext.trans HX.out hxu
          have e6 : g1 6 = .bool true := hg 6 (by decide)
          rw [e6]
          clear hxu hu hg e6 hs1 hs2 e0 e1 e2 e3 c0 c1 c2 c3
          go_wp2_with fail
          go_roundw
          case rel =>
            have hmm := HMM.out
            refine ⟨m + 1, k, by omega, by omega, ?_, rfl, ?_, HHI, HXU⟩
            · rw [HS2.out, wrap_succ (by omega)]
            · exact cut_lo HR.out HPM.out (by rw [← HZ.out]; exact HNG.out)
          case measure =>
            have hmm := HMM.out
            rw [HS2.out, wrap_succ (by omega)]
            simp [intOf]; omega
        case obl =>
          refine ⟨fun u hu hd => ?_, ?_⟩
          · go_simp
            exact ⟨Ext.refl _, rfl⟩
          refine ⟨fun u hu hd => ?_, ?_⟩
          · simp only [Act.put, List.setIfInBounds_toArray, List.set_cons_zero, List.set_cons_succ]
            go_simp
            exact ⟨Ext.refl _, rfl⟩
          refine ⟨fun u hu hd => ?_, ?_⟩
          · simp only [Act.put, List.setIfInBounds_toArray, List.set_cons_zero, List.set_cons_succ]
            have e0 : f1 0 = .slice (some ⟨bb, oo, none⟩) L.length c := hd 0 (by kernel_rfl)
            have e1 : f1 1 = .int .i64 (m : Int) := hd 1 (by kernel_rfl)
            go_simp
            exact ⟨Ext.refl _, rfl⟩
          refine ⟨fun u hu hd => ?_, ?_⟩
          · simp only [Act.put, List.setIfInBounds_toArray, List.set_cons_zero, List.set_cons_succ]
            have e2 : f1 2 = .pointer (some ⟨bb, oo + m * 4, none⟩) := hd 2 (by kernel_rfl)
            have hu2 := Ext.trans (Ext.drew wr) hu
            have q0 := ext_cell hu2 c0
            have q1 := ext_cell hu2 c1
            have q2 := ext_cell hu2 c2
            have q3 := ext_cell hu2 c3
            go_simp
            exact ⟨Ext.refl _, rfl⟩
          refine ⟨fun u hu hd => ?_, ?_⟩
          · simp only [Act.put, List.setIfInBounds_toArray, List.set_cons_zero, List.set_cons_succ]
            have hu2 := Ext.trans (Ext.drew wr) hu
            have q0 := ext_cell hu2 e0
            have q1 := ext_cell hu2 e1
            have q2 := ext_cell hu2 e2
            have q3 := ext_cell hu2 e3
            go_simp
            exact ⟨Ext.refl _, rfl⟩
          refine ⟨fun u hu hd => ?_, ?_⟩
          · simp only [Act.put, List.setIfInBounds_toArray, List.set_cons_zero, List.set_cons_succ]
            have e3 : f1 3 = .agg #[.slice p.2.kA p.1.key.length p.2.kc, .int .i64 p.1.seq, .int .i64 p.1.kind, .slice p.2.vA p.1.val.length p.2.vc] := hd 3 (by kernel_rfl)
            have e4 : f1 4 = .agg #[.slice g.kA x.key.length g.kc, .int .i64 x.seq, .int .i64 x.kind, .slice g.vA x.val.length g.vc] := hd 4 (by kernel_rfl)
            have hu2 := Ext.trans (Ext.drew wr) hu
            go_simp
            refine (HCK.out _ hu2).mono ?_
            rintro y w9 ⟨rfl, hx9⟩
            exact ⟨_, rfl, hx9, rfl⟩
          refine ⟨fun u hu hd => ?_, ?_⟩
          · simp only [Act.put, List.setIfInBounds_toArray, List.set_cons_zero, List.set_cons_succ]
            have e5 : f1 5 = .int .i64 z := hd 5 (by kernel_rfl)
            go_simp
            exact ⟨Ext.refl _, rfl⟩
          trivial
      · have dz : decide (z < 0) = false := decide_eq_false hneg
        have HNG := Lib.hid hneg
        clear hneg
        go_upto_region 4 with (fail)
        refine flow (by kernel_rfl) [Is (.slice (some ⟨bb, oo, none⟩) L.length c), Is (.int .i64 (m : Int)), Is (.pointer (some ⟨bb, oo + m * 4, none⟩)), Is (.agg #[.slice p.2.kA p.1.key.length p.2.kc, .int .i64 p.1.seq, .int .i64 p.1.kind, .slice p.2.vA p.1.val.length p.2.vc]), Is (.agg #[.slice g.kA x.key.length g.kc, .int .i64 x.seq, .int .i64 x.kind, .slice g.vA x.val.length g.vc]), Is (.int .i64 z), Is (.bool false)] (by kernel_rfl) (by kernel_rfl) ?mono (fun f1 => ?obl) ?fin
        case mono =>
          simp only [List.forall_mem_cons, List.not_mem_nil, false_imp_iff, implies_true, and_true]
          exact ⟨.is _, .is _, .is _, .is _, .is _, .is _, .is _⟩
        case fin =>
          intro g1 u hu hg
          simp only [puts, Act.put, List.setIfInBounds_toArray, List.set_cons_zero, List.set_cons_succ]
          have hxu := Ext.trans (Ext.drew wr) hu
          have HXU : Hid (Ext w1 u) := Ext.trans HX.out hxu
          have e6 : g1 6 = .bool false := hg 6 (by decide)
          rw [e6]
          clear hxu hu hg e6 hs1 hs2 e0 e1 e2 e3 c0 c1 c2 c3
          go_wp2_with fail
          go_roundw
          case rel =>
            have hmm := HMM.out
            refine ⟨l, m, by omega, by omega, rfl, by rw [HS2.out], HLO, ?_, HXU⟩
            exact cut_hi HR.out HPM.out (by rw [← HZ.out]; have := HNG.out; omega)
          case measure =>
            have hmm := HMM.out
            rw [HS2.out]
            simp [intOf]; omega
        case obl =>
          refine ⟨fun u hu hd => ?_, ?_⟩
          · go_simp
            exact ⟨Ext.refl _, rfl⟩
          refine ⟨fun u hu hd => ?_, ?_⟩
          · simp only [Act.put, List.setIfInBounds_toArray, List.set_cons_zero, List.set_cons_succ]
            go_simp
            exact ⟨Ext.refl _, rfl⟩
          refine ⟨fun u hu hd => ?_, ?_⟩
          · simp only [Act.put, List.setIfInBounds_toArray, List.set_cons_zero, List.set_cons_succ]
            have e0 : f1 0 = .slice (some ⟨bb, oo, none⟩) L.length c := hd 0 (by kernel_rfl)
            have e1 : f1 1 = .int .i64 (m : Int) := hd 1 (by kernel_rfl)
            go_simp
            exact ⟨Ext.refl _, rfl⟩
          refine ⟨fun u hu hd => ?_, ?_⟩
          · simp only [Act.put, List.setIfInBounds_toArray, List.set_cons_zero, List.set_cons_succ]
            have e2 : f1 2 = .pointer (some ⟨bb, oo + m * 4, none⟩) := hd 2 (by kernel_rfl)
            have hu2 := Ext.trans (Ext.drew wr) hu
            have q0 := ext_cell hu2 c0
            have q1 := ext_cell hu2 c1
            have q2 := ext_cell hu2 c2
            have q3 := ext_cell hu2 c3
            go_simp
            exact ⟨Ext.refl _, rfl⟩
          refine ⟨fun u hu hd => ?_, ?_⟩
          · simp only [Act.put, List.setIfInBounds_toArray, List.set_cons_zero, List.set_cons_succ]
            have hu2 := Ext.trans (Ext.drew wr) hu
            have q0 := ext_cell hu2 e0
            have q1 := ext_cell hu2 e1
            have q2 := ext_cell hu2 e2
            have q3 := ext_cell hu2 e3
            go_simp
            exact ⟨Ext.refl _, rfl⟩
          refine ⟨fun u hu hd => ?_, ?_⟩
          · simp only [Act.put, List.setIfInBounds_toArray, List.set_cons_zero, List.set_cons_succ]
            have e3 : f1 3 = .agg #[.slice p.2.kA p.1.key.length p.2.kc, .int .i64 p.1.seq, .int .i64 p.1.kind, .slice p.2.vA p.1.val.length p.2.vc] := hd 3 (by kernel_rfl)
            have e4 : f1 4 = .agg #[.slice g.kA x.key.length g.kc, .int .i64 x.seq, .int .i64 x.kind, .slice g.vA x.val.length g.vc] := hd 4 (by kernel_rfl)
            have hu2 := Ext.trans (Ext.drew wr) hu
            go_simp
            refine (HCK.out _ hu2).mono ?_
            rintro y w9 ⟨rfl, hx9⟩
            exact ⟨_, rfl, hx9, rfl⟩
          refine ⟨fun u hu hd => ?_, ?_⟩
          · simp only [Act.put, List.setIfInBounds_toArray, List.set_cons_zero, List.set_cons_succ]
            have e5 : f1 5 = .int .i64 z := hd 5 (by kernel_rfl)
            go_simp
            exact ⟨Ext.refl _, rfl⟩
          trivial
    · have d : decide ((l : Int) < (k : Int)) = false := by rw [decide_eq_false_iff_not]; exact fun h => hlt (Int.ofNat_lt.1 h)
      have dn : decide (l < k) = false := by rw [decide_eq_false_iff_not]; exact hlt
      have HLK : Hid (l = k ∧ k ≤ L.length) := ⟨by omega, hkn⟩
      clear hlt hlk hkn
      go_wp2_with fail
      rw [Exit.noGoto_ret]
      go_ret
      exact ⟨l, ⟨by rw [List.length_map]; have := HLK.out; omega, HLO.out, by rw [HLK.out.1]; exact HHI.out⟩, rfl, Ext.trans HX1.out HX.out⟩
end Go.Proofs.YthhgjeeangepaaaGreat
