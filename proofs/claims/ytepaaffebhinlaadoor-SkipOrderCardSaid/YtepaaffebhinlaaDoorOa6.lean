/- Sheight Sput, joined. -/
import Derived.Test.YtepaaffebhinlaaDoorOa5
import Derived.Test.YtepaaffebhinlaaDoorOa1
import Derived.Lib.TrailingZeros
import Derived.LoopTactic
import Derived.Laws.Bits64b
import Derived.Laws.ShiftsVar
import Derived.Laws.ShiftsVarLaws
import Derived.Test.YtepaaffebhinlaaDoorOa4

/- How high a tower is. -/
namespace Go.Proofs.YtepaaffebhinlaaDoor
open Go.ChangeShapes Go.WideShapes Go.ChangeAt Go.RowKit Go.Shelf

/-- The table of trailing noughts, in its variable. -/
def Tab (w : World) : Prop := ∀ j, j < Lib.deBruijn32tab.length → w.cell? ⟨0, j, none⟩ = some (.int .u8 (Lib.deBruijn32tab.getD j 0 : Nat))

theorem wrap_u32'' (n : Int) : IntKind.u32.wrap n = n % 4294967296 := by simp [IntKind.wrap, IntKind.signed, IntKind.bits]
theorem and_u32_nat (a b : Nat) (ha : a < 4294967296) (hb : b < 4294967296) : bits .and .u32 (a : Int) (b : Int) = ((a &&& b : Nat) : Int) := by
  have hx : a &&& b < 2 ^ 32 := Nat.and_lt_two_pow _ (by omega)
  have h1 : (BitVec.ofInt 32 (a : Int)).toNat = a := by
    rw [BitVec.ofInt_natCast, BitVec.toNat_ofNat]; exact Nat.mod_eq_of_lt (by omega)
  have h2 : (BitVec.ofInt 32 (b : Int)).toNat = b := by
    rw [BitVec.ofInt_natCast, BitVec.toNat_ofNat]; exact Nat.mod_eq_of_lt (by omega)
  show IntKind.u32.wrap ((BitVec.ofInt 32 (a : Int) &&& BitVec.ofInt 32 (b : Int)).toNat : Int) = _
  rw [BitVec.toNat_and, h1, h2, wrap_u32'']
  omega
theorem xor_u32_nat (a b : Nat) (ha : a < 4294967296) (hb : b < 4294967296) : bits .xor .u32 (a : Int) (b : Int) = ((a ^^^ b : Nat) : Int) := by
  have hx : a ^^^ b < 2 ^ 32 := Nat.xor_lt_two_pow (by omega) (by omega)
  have h1 : (BitVec.ofInt 32 (a : Int)).toNat = a := by
    rw [BitVec.ofInt_natCast, BitVec.toNat_ofNat]; exact Nat.mod_eq_of_lt (by omega)
  have h2 : (BitVec.ofInt 32 (b : Int)).toNat = b := by
    rw [BitVec.ofInt_natCast, BitVec.toNat_ofNat]; exact Nat.mod_eq_of_lt (by omega)
  show IntKind.u32.wrap ((BitVec.ofInt 32 (a : Int) ^^^ BitVec.ofInt 32 (b : Int)).toNat : Int) = _
  rw [BitVec.toNat_xor, h1, h2, wrap_u32'']
  omega

theorem tz_core (x k idx : Nat) (w : World) (hx0 : ((x : Int) == 0) = false) (key : bits BinOp.and IntKind.u32 (x : Int) (-(x : Int) % 4294967296) * 125613361 % 4294967296 / 134217728 = (idx : Int))
    (hi : idx < 32) (hk : k < 32) (hcell : w.cell? ⟨0, idx, none⟩ = some (.int .u8 k)) :
    Calls Tryd.prog 46 #[.int .u32 x] w fun e w' => e = .returned (.int .i64 k) ∧ w' = w := by
  go_enter Tryd.func46, Tryd.ntmps46
  go_wp2_with (simp only [key])
  go_ret
  exact ⟨rfl, rfl⟩
theorem tz_zero (w : World) : Calls Tryd.prog 46 #[.int .u32 0] w fun e w' => e = .returned (.int .i64 32) ∧ w' = w := by
  go_enter Tryd.func46, Tryd.ntmps46
  go_wp2
  go_ret
  exact ⟨rfl, rfl⟩
theorem tz_key (x a : Nat) (hx : x < 4294967296) (hx0 : x ≠ 0) (hlow : x &&& (4294967296 - x) = a) :
    bits BinOp.and IntKind.u32 (x : Int) (-(x : Int) % 4294967296) * 125613361 % 4294967296 / 134217728 = ((a * 125613361 % 4294967296 / 134217728 : Nat) : Int) := by
  have e1 : -(x : Int) % 4294967296 = ((4294967296 - x : Nat) : Int) := by omega
  rw [e1, and_u32_nat x _ hx (by omega), hlow]
  omega
theorem tz_any (x : Nat) (hx : x < 4294967296) (w : World) (hT : Tab w) : Calls Tryd.prog 46 #[.int .u32 x] w fun e w' => e = .returned (.int .i64 (Lib.ctz 32 x)) ∧ w' = w := by
  by_cases hx0 : x = 0
  · subst hx0
    exact tz_zero w
  · obtain ⟨hlow, hk⟩ := Lib.lowest_bit 32 x hx0 hx
    obtain ⟨hi, htab⟩ := Lib.deBruijn32_at _ hk
    have hcell := hT _ hi
    rw [htab] at hcell
    exact tz_core x _ _ w (by simp; omega) (tz_key x _ hx hx0 hlow) hi hk hcell

theorem fnv_int (h b : Nat) (hh : h < 4294967296) (hb : b < 256) : bits .xor .u32 (h : Int) (b : Int) * 16777619 % 4294967296 = (fnv h b : Int) := by
  rw [xor_u32_nat h b hh (by omega)]
  unfold fnv
  omega

set_option maxHeartbeats 2000000 in
theorem height_any {w : World} {lo hi : Nat} {v : Value} {key : List Nat} {s : Int} (hk : Bs w lo hi v key) (bk : ∀ x ∈ key, x < 256) (s1 : -9223372036854775808 ≤ s) (s2 : s ≤ 9223372036854775807) (hT : Tab w) (hl : key.length ≤ 1099511627776) :
    Calls Tryd.prog 25 #[v, .int .i64 s] w fun e w' => e = .returned (.int .i64 (hgt key s : Int)) ∧ w' = w := by
  obtain ⟨A, c, rfl, hcl, hcm, hnil, hby⟩ := hk
  have HBY := Lib.hid hby
  have HB := Lib.hid bk
  have HT := Lib.hid hT
  have hlI : (key.length : Int) ≤ 1099511627776 := by omega
  clear hby bk hT hnil
  go_enter Tryd.func25, Tryd.ntmps25
  go_wp2
  go_loop [5, 11] (fun h i => ∃ k : Nat, k ≤ key.length ∧ i = .int .i64 (k : Int) ∧ h = .int .u32 (((key.take k).foldl fnv 2166136261 : Nat) : Int)) (fun _ i => key.length - (intOf i).toNat)
  case atStart => exact ⟨0, Nat.zero_le _, rfl, rfl⟩
  case round =>
    obtain ⟨k, hk, rfl, rfl⟩ := hrel
    obtain ⟨h, hh⟩ : ∃ h, h = (key.take k).foldl fnv 2166136261 := ⟨_, rfl⟩
    rw [← hh]
    have HHL : Hid (h < 4294967296) := by rw [hh]; exact fold_lt _ _ (by decide)
    have HH := Lib.hid hh
    clear hh
    by_cases hlt : k < key.length
    · have d : decide ((k : Int) < (key.length : Int)) = true := by simp; omega
      have dn : decide (k < key.length) = true := by simp; omega
      obtain ⟨b, o, rfl, _, _, hc⟩ := HBY.out.at_ hlt
      have n1 : (0 : Int) ≤ (k : Int) := by omega
      have n2 : (k : Int) < (key.length : Int) := by omega
      have hx := HB.out key[k] (List.getElem_mem hlt)
      have HX := Lib.hid hx
      have HST : Hid ((key.take (k + 1)).foldl fnv 2166136261 = fnv h key[k]) := by unfold Hid; rw [List.take_succ_eq_append_getElem hlt, List.foldl_append, ← HH.out, List.foldl_cons, List.foldl_nil]
      have HF := Lib.hid (fnv_int h key[k] HHL.out hx)
      have HLT := Lib.hid hlt
      obtain ⟨x, hxx⟩ : ∃ x : Nat, x = key[k]'hlt := ⟨_, rfl⟩
      rw [← hxx] at hc hx HX HST HF
      clear hxx hx hk hlt
      have hx0 : (x : Int) % 4294967296 = (x : Int) := by have := HX.out; omega
      have hF := HF.out
      clear s1 s2 hl
      go_wp2
      clear hF hx0 hc hlI
      refine ⟨⟨k + 1, HLT.out, rfl, ?_⟩, ?_⟩
      · rw [HST.out, HF.out]
      · have := HLT.out; simp [intOf]; omega
    · have d : decide ((k : Int) < (key.length : Int)) = false := by simp; omega
      have dn : decide (k < key.length) = false := by simp; omega
      obtain rfl : k = key.length := by omega
      have HKEY : Hid (h = sumK key) := by unfold Hid sumK; rw [HH.out, List.take_length]
      clear hlt hk HH
      have hS1 := Lib.hid s1
      have hS2 := Lib.hid s2
      clear s1 s2 hl d dn
      go_wp2
      go_loop [5, 8] (fun hv sv => ∃ j : Nat, j ≤ 8 ∧ sv = .int .i64 (56 - 8 * (j : Int)) ∧ hv = .int .u32 (((sbytes s j).foldl fnv h : Nat) : Int)) (fun _ sv => (intOf sv + 8).toNat)
      case atStart => exact ⟨0, Nat.zero_le _, rfl, rfl⟩
      case round =>
        obtain ⟨j, hj, rfl, rfl⟩ := hrel
        obtain ⟨h', hh'⟩ : ∃ h', h' = (sbytes s j).foldl fnv h := ⟨_, rfl⟩
        rw [← hh']
        have HHL' : Hid (h' < 4294967296) := by rw [hh']; exact fold_lt _ _ HHL.out
        have HH' := Lib.hid hh'
        obtain ⟨n, hn⟩ : ∃ n : Int, n = 56 - 8 * (j : Int) := ⟨_, rfl⟩
        have HNJ := Lib.hid hn
        rw [← hn]
        clear hh'
        by_cases hj8 : j = 8
        · obtain rfl : n = -8 := by omega
          have HJ8 := Lib.hid hj8
          have HC := Lib.hid (tz_any h' HHL'.out w HT.out)
          have hc32 : Lib.ctz 32 h' ≤ 32 := by
            unfold Lib.ctz; split
            · exact Nat.le_refl _
            · exact Lib.ctzFrom_le 32 h'
          have HGT : Hid (hgt key s = min (1 + Lib.ctz 32 h' / 2) 8) := by unfold Hid hgt sumS; rw [HH'.out, HJ8.out, HKEY.out]
          clear hn hj hj8
          generalize Lib.ctz 32 h' = z at HC hc32 HGT
          go_wp2_with fail
          refine Calls.mono HC.out ?_
          rintro x w2 ⟨rfl, rfl⟩
          go_wp2
          go_ret
          refine ⟨?_, rfl⟩
          have e : (min (1 + (z : Int) / 2) 8) = ((hgt key s : Nat) : Int) := by rw [HGT.out]; omega
          rw [← e]
          exact Eq.refl _
        · have n1 : 0 ≤ n := by omega
          have n2 : n ≤ 56 := by omega
          have d1 : decide (0 ≤ n) = true := by simp; omega
          have hj1 : j + 1 ≤ 8 := by omega
          have HJ1 := Lib.hid hj1
          have hb : s / 2 ^ n.toNat % 256 = ((sbyte s j : Nat) : Int) := by
            unfold sbyte
            rw [show n.toNat = 56 - 8 * j by omega]
            omega
          have HSB := Lib.hid hb
          have HF := Lib.hid (fnv_int h' (sbyte s j) HHL'.out (sbyte_lt s j))
          have HST : Hid ((sbytes s (j + 1)).foldl fnv h = fnv h' (sbyte s j)) := by
            unfold Hid sbytes
            rw [List.range_succ, List.map_append, List.foldl_append, List.map_cons, List.map_nil, List.foldl_cons, List.foldl_nil]
            rw [HH'.out]; unfold sbytes; exact Eq.refl _
          clear hn hj hj8 hj1 hb
          go_wp2
          refine ⟨⟨j + 1, HJ1.out, ?_, ?_⟩, ?_⟩
          · rw [HNJ.out]; congr 1; omega
          · rw [HST.out, ← HF.out, ← HSB.out]
          · clear d1; simp [intOf]; omega
end Go.Proofs.YtepaaffebhinlaaDoor

/- Put: an entry is put to its place. -/
namespace Go.Proofs.YtepaaffebhinlaaDoor
open Go.ChangeShapes Go.WideShapes Go.ChangeAt Go.RowKit Go.Shelf

/-- What Put answers. -/
def SPutAns (w : World) (D : Nat → Prop) (lb hb : Nat) (T : List Tw) (x : Ent) (e : Ending) (w' : World) : Prop :=
  ∃ (T' : List Tw) (c : Int), putE (T.map Tw.e) x = (T'.map Tw.e, c) ∧ e = .returned (.int .i64 c) ∧ Sk w' (fun k => D k ∨ w.heap.size ≤ k) lb hb T' ∧ Chg (Sks D w) w w'
theorem last_zero {H : List Tw} {p i : Nat} (hall : ∀ t ∈ H, 1 ≤ t.h) (hp : p ≤ H.length) (h : LastAt H p 0 i) : i + 1 = p := by
  rcases Nat.lt_or_ge (i + 1) p with hlt | hge
  · have h1 := h.last (i + 1) H[i + 1] (Nat.lt_succ_self _) hlt (List.getElem?_eq_getElem (by omega))
    have h2 := hall H[i + 1] (List.getElem_mem _)
    omega
  · have := h.lt; omega
theorem nxt_first {R : List Tw} (hall : ∀ t ∈ R, 1 ≤ t.h) : nxt 0 R = R.head?.map Tw.b := by
  cases R with
  | nil => rfl
  | cons a l => rw [nxt, if_pos (by have := hall a (by simp); omega)]; rfl
theorem putE_no {L : List Ent} {x : Ent} (h : x.may = false) : putE L x = (L, 2) := by unfold putE; rw [if_neg (by rw [h]; decide)]
theorem putE_there {L : List Ent} {x e : Ent} (h : x.may = true) (he : L[cutOf (aheadE x.key x.seq) L]? = some e) (hc : cmpE e x = 0) : putE L x = (L, 7) := by unfold putE; rw [if_pos h]; simp only [he]; rw [if_pos hc]
theorem putE_new {L : List Ent} {x : Ent} (h : x.may = true) (hne : ∀ e, L[cutOf (aheadE x.key x.seq) L]? = some e → cmpE e x ≠ 0) : putE L x = (L.take (cutOf (aheadE x.key x.seq) L) ++ x :: L.drop (cutOf (aheadE x.key x.seq) L), 0) := by
  unfold putE
  rw [if_pos h]
  cases he : L[cutOf (aheadE x.key x.seq) L]? with
  | none => rfl
  | some e => simp only []; rw [if_neg (hne e he)]
/-- Nothing is put. -/
theorem SPutAns.same {w w' : World} {D : Nat → Prop} {lb hb : Nat} {T : List Tw} {x : Ent} {c : Int} (h : Sk w D lb hb T) (hx : Ext w w') (hp : putE (T.map Tw.e) x = (T.map Tw.e, c)) : SPutAns w D lb hb T x (.returned (.int .i64 c)) w' :=
  ⟨T, c, hp, rfl, (h.ext hx).wide (fun _ _ hd => .inl hd), Chg.of_ext hx⟩

/-- Facts of the region that makes the tower. -/
def CpF (B : Nat) (e : Ent) (v : Value) (u : World) : Prop := ∃ g : Hd, v = e.at_ g ∧ Own B e.key (.slice g.kA e.key.length g.kc) u ∧ Own B e.val (.slice g.vA e.val.length g.vc) u
def TvF (B : Nat) (e : Ent) (born : Int) (v : Value) (u : World) : Prop := ∃ g : Hd, v = .agg (tc e g born fun _ => .pointer none) ∧ Own B e.key (.slice g.kA e.key.length g.kc) u ∧ Own B e.val (.slice g.vA e.val.length g.vc) u
def TbF (B : Nat) (e : Ent) (born : Int) (v : Value) (u : World) : Prop := ∃ (g : Hd) (b : Nat), v = .pointer (some ⟨b, 0, none⟩) ∧ B ≤ b ∧ u.heap[b]? = some (.cells (tc e g born fun _ => .pointer none) 63 (0, 0)) ∧ Own B e.key (.slice g.kA e.key.length g.kc) u ∧ Own B e.val (.slice g.vA e.val.length g.vc) u
theorem Mono.cpf (B : Nat) (e : Ent) : Mono (CpF B e) := fun _ _ _ ⟨g, h, a, b⟩ hu => ⟨g, h, a.below hu, b.below hu⟩
theorem Mono.tvf (B : Nat) (e : Ent) (born : Int) : Mono (TvF B e born) := fun _ _ _ ⟨g, h, a, b⟩ hu => ⟨g, h, a.below hu, b.below hu⟩
theorem Mono.tbf (B : Nat) (e : Ent) (born : Int) : Mono (TbF B e born) := fun _ _ _ ⟨g, b, h, hB, hb, a, c⟩ hu => ⟨g, b, h, hB, ext_heap hu hb, a.below hu, c.below hu⟩
theorem Em.keepC {w w' : World} {lo hi : Nat} {e : Ent} {g : Hd} {S : Nat → Prop} (h : Em w lo hi e g) (hhi : hi ≤ w.heap.size) (hc : Chg S w w') (hS : ∀ k, S k → k < lo ∨ hi ≤ k) : Em w' lo hi e g := by
  have hk : ∀ p : Addr, lo ≤ p.block → p.block < hi → w'.cell? p = w.cell? p := fun p h1 h2 => World.cell?_of_block (hc.block p.block (by omega) (fun hs => by have := hS _ hs; omega))
  exact ⟨h.k.of fun _ h => Sl.keep h hk, h.v.of fun _ h => Sl.keep h hk, h.bk, h.bv, h.s1, h.s2, h.d1, h.d2⟩
theorem bytesE_le {L : List Ent} (h : ∀ e ∈ L, e.may = true) : bytesE L ≤ L.length * 65700 := by
  unfold bytesE
  induction L with
  | nil => simp
  | cons a l ih =>
    have h1 := ih fun e he => h e (by simp [he])
    have h2 := Ent.form_len (h a (by simp))
    simp only [List.map_cons, List.sum_cons, List.length_cons]
    omega
theorem Chain.list {w w' : World} {D : Nat → Prop} {hi : Int} {H : List Tw} {lb : Nat} {c : Array Value} (h : Chain w D hi H) (hl : w.heap[lb]? = some (.cells c 49 (0, 0))) (hc : Chg (fun i => i = lb) w w') : Chain w' D hi H := by
  intro i t ht
  obtain ⟨h1, g, born, h2, h3, h4, h5, h6, h7, h8⟩ := h i t ht
  have hsk : Skb w lb := ⟨c, _, .inr hl⟩
  have hne : t.b ≠ lb := fun e => by rw [e, hl] at h2; injection h2 with h2; injection h2 with _ h2 _; exact absurd h2 (by decide)
  exact ⟨h1, g, born, (hc.block t.b (Array.getElem?_eq_some_iff.1 h2).1 hne).trans h2, h3, h4, row_kept h5 fun k hk => hc.block k (row_lt h5 k hk).2 (fun e => h5.skb hk (by rw [e]; exact hsk)), row_kept h6 fun k hk => hc.block k (row_lt h6 k hk).2 (fun e => h6.skb hk (by rw [e]; exact hsk)), h7, h8⟩
theorem nodup_new {X R : List Tw} {t : Tw} (h : ((X ++ R).map Tw.b).Nodup) (hn : ∀ u ∈ X ++ R, u.b ≠ t.b) : ((X ++ t :: R).map Tw.b).Nodup := by
  rw [List.map_append, List.nodup_append] at h ⊢
  rw [List.map_cons, List.nodup_cons]
  refine ⟨h.1, ⟨fun hm => ?_, h.2.1⟩, fun a ha b hb => ?_⟩
  · obtain ⟨u, hu, e⟩ := List.mem_map.1 hm
    exact hn u (List.mem_append_right _ hu) e
  · rcases List.mem_cons.1 hb with rfl | hb
    · obtain ⟨u, hu, rfl⟩ := List.mem_map.1 ha
      exact hn u (List.mem_append_left _ hu)
    · exact h.2.2 a ha b hb
theorem arr8 (F : Nat → Value) {m : Nat} (hm : m < 8) : #[F 0, F 1, F 2, F 3, F 4, F 5, F 6, F 7][m]? = some (F m) := by
  match m, hm with
  | 0, _ => rfl
  | 1, _ => rfl
  | 2, _ => rfl
  | 3, _ => rfl
  | 4, _ => rfl
  | 5, _ => rfl
  | 6, _ => rfl
  | 7, _ => rfl
theorem optp_is (o : Option Nat) : ∃ p, optp o = .pointer p := by cases o <;> exact ⟨_, rfl⟩
theorem Tab.ext {w w' : World} (h : Tab w) (hx : Ext w w') : Tab w' := fun j hj => ext_cell hx (h j hj)

set_option maxRecDepth 100000 in
set_option maxHeartbeats 8000000 in
theorem sput_any {w : World} {D : Nat → Prop} {lb hb lo hi : Nat} {T : List Tw} {x : Ent} {g : Hd} (h : Sk w D lb hb T) (hm : Em w lo hi x g) (hhi : hi ≤ w.heap.size) (hap : ∀ k, D k → k < lo ∨ hi ≤ k) (hT : Tab w) (hDT : ¬ D 0) (hfew : T.length ≤ 1000000) (hk : x.key.length ≤ 1099511627776) (hv : x.val.length ≤ 1099511627776) :
    Calls Tryd.prog 14 #[.pointer (some ⟨lb, 0, none⟩), x.at_ g] w (SPutAns w D lb hb T x) := by
  obtain ⟨w1, hw1⟩ : ∃ w1, w1 = w.alloc (.cells #[.slice g.kA x.key.length g.kc, .int .i64 x.seq, .int .i64 x.kind, .slice g.vA x.val.length g.vc] 28) := ⟨_, rfl⟩
  have HX1 : Hid (Ext w w1) := by rw [hw1]; exact ext_alloc _ _
  have HB1 : Hid (w1.heap[w.heap.size]? = some (.cells #[.slice g.kA x.key.length g.kc, .int .i64 x.seq, .int .i64 x.kind, .slice g.vA x.val.length g.vc] 28)) := by rw [hw1]; exact heap_at _ _ rfl
  have HZ1 : Hid (w1.heap.size = w.heap.size + 1) := by rw [hw1]; simp [Hid]
  have H := Lib.hid h
  have HM := Lib.hid hm
  have HHI := Lib.hid hhi
  have HT := Lib.hid hT
  have HDT := Lib.hid hDT
  have HFEW := Lib.hid hfew
  have HAP := Lib.hid hap
  have HKL := Lib.hid hk
  have HVL := Lib.hid hv
  have HN := Lib.hid (none_no (ext_heap HX1.out h.list))
  have HMAY := Lib.hid (may_any g.kA g.vA x.key.length g.kc x.val.length g.vc x.seq x.kind w1)
  have HME : Hid (mayN x.key.length x.seq x.kind x.val.length = x.may) := rfl
  have c0 := cell_of (v := .slice g.kA x.key.length g.kc) HB1.out (k := 0) rfl
  have c1 := cell_of (v := .int .i64 x.seq) HB1.out (k := 1) rfl
  have c2 := cell_of (v := .int .i64 x.kind) HB1.out (k := 2) rfl
  have c3 := cell_of (v := .slice g.vA x.val.length g.vc) HB1.out (k := 3) rfl
  clear h hm hhi hT hDT hfew hk hv hap
  unfold Ent.at_
  obtain ⟨z, hz⟩ : ∃ z, z = x.may := ⟨_, rfl⟩
  have HZ := Lib.hid hz
  rw [HME.out, ← hz] at HMAY
  clear hz HME
  subst hw1
  go_enter Tryd.func14, Tryd.ntmps14
  go_wp2_with fail
  refine Calls.mono HN.out ?_
  rintro e w' ⟨rfl, rfl⟩
  go_wp2_with fail
  refine Calls.mono HMAY.out ?_
  rintro e w2 ⟨rfl, hx2⟩
  have HX2 := Lib.hid (Ext.trans HX1.out hx2)
  have HB2 := Lib.hid (ext_heap hx2 HB1.out)
  clear hx2 c0 c1 c2 c3
  cases z with
  | false =>
    go_wp2_with fail
    go_ret
    exact SPutAns.same H.out HX2.out (putE_no HZ.out.symm)
  | true =>
    have c0 := cell_of (v := .slice g.kA x.key.length g.kc) HB2.out (k := 0) rfl
    have c1 := cell_of (v := .int .i64 x.seq) HB2.out (k := 1) rfl
    go_wp2_with fail
    refine Calls.mono (aheadOf_any _ _ _ _ _) ?_
    rintro e w3 ⟨rfl, hw3⟩
    have hk2 := HM.out.k.below HX2.out HHI.out
    have HX3 : Hid (Ext w2 w3) := by rw [hw3]; exact ext_alloc _ _
    have hwx := Ext.trans HX2.out HX3.out
    have hhi3 := Nat.le_trans HHI.out hwx.size
    have HAF := Lib.hid (ahead1_fn (HM.out.k.below hwx HHI.out) hhi3 HM.out.bk HM.out.s1 HM.out.s2 (p := w2.heap.size) (by rw [hw3]; exact heap_at _ _ rfl))
    have HBF := Lib.hid (before_any (H.out.ext hwx) HAF.out (H.out.asc.ahead _ _))
    clear hw3 hk2 hwx hhi3 c0 c1
    go_wp2_with fail
    refine Calls.mono HBF.out ?_
    rintro e w4 ⟨hx4, f, hf, rfl⟩
    have HX4 := Lib.hid (Ext.trans (Ext.trans HX2.out HX3.out) hx4)
    have HB4 := Lib.hid (ext_heap (Ext.trans HX3.out hx4) HB2.out)
    have HF := Lib.hid hf
    clear hx4 hf
    obtain ⟨HH, hHH⟩ : ∃ HH, HH = headT hb :: T := ⟨_, rfl⟩
    obtain ⟨p, hp⟩ : ∃ p, p = 1 + cutOf (aheadE x.key x.seq) (T.map Tw.e) := ⟨_, rfl⟩
    rw [← hHH] at HF ⊢
    rw [← hp] at HF
    have HHH := Lib.hid hHH
    have HP := Lib.hid hp
    clear hHH hp
    go_upto_region 6 with (fail)
    obtain ⟨w5, hw5⟩ : ∃ w5, w5 = w4.alloc (.cells #[.pointer (some ⟨bAt HH (f 0), 0, none⟩), .pointer (some ⟨bAt HH (f 1), 0, none⟩), .pointer (some ⟨bAt HH (f 2), 0, none⟩), .pointer (some ⟨bAt HH (f 3), 0, none⟩), .pointer (some ⟨bAt HH (f 4), 0, none⟩), .pointer (some ⟨bAt HH (f 5), 0, none⟩), .pointer (some ⟨bAt HH (f 6), 0, none⟩), .pointer (some ⟨bAt HH (f 7), 0, none⟩)] 61) := ⟨_, rfl⟩
    rw [← hw5]
    have HX45 : Hid (Ext w4 w5) := by rw [hw5]; exact ext_alloc _ _
    have HX5 : Hid (Ext w w5) := Ext.trans HX4.out HX45.out
    have HB5 := Lib.hid (ext_heap HX45.out HB4.out)
    have HPB : Hid (w5.heap[w4.heap.size]? = some (.cells #[.pointer (some ⟨bAt HH (f 0), 0, none⟩), .pointer (some ⟨bAt HH (f 1), 0, none⟩), .pointer (some ⟨bAt HH (f 2), 0, none⟩), .pointer (some ⟨bAt HH (f 3), 0, none⟩), .pointer (some ⟨bAt HH (f 4), 0, none⟩), .pointer (some ⟨bAt HH (f 5), 0, none⟩), .pointer (some ⟨bAt HH (f 6), 0, none⟩), .pointer (some ⟨bAt HH (f 7), 0, none⟩)] 61 (0, 0))) := by rw [hw5]; exact heap_at _ _ rfl
    clear hw5 HB4
    have hlen : HH.length = T.length + 1 := by rw [HHH.out]; rfl
    have hcle : cutOf (aheadE x.key x.seq) (T.map Tw.e) ≤ T.length := by have := cutOf_le (aheadE x.key x.seq) (T.map Tw.e); rwa [List.length_map] at this
    have HPL : Hid (1 ≤ p ∧ p ≤ HH.length) := by have := HP.out; unfold Hid; omega
    have HALL : Hid (∀ t ∈ HH, 1 ≤ t.h ∧ t.h ≤ 8) := fun t ht => by
      rw [HHH.out] at ht
      rcases List.mem_cons.1 ht with rfl | ht
      · show 1 ≤ 8 ∧ 8 ≤ 8; omega
      · rw [H.out.hts t ht]; exact hgt_le _ _
    have HCH : Hid (Chain w5 D T.length HH) := by rw [HHH.out]; exact H.out.chain.ext HX5.out
    have HF0 : Hid (f 0 + 1 = p) := last_zero (fun t ht => (HALL.out t ht).1) HPL.out.2 (HF.out 0 (by decide))
    have HGT : Hid (HH[p]? = T[cutOf (aheadE x.key x.seq) (T.map Tw.e)]?) := by
      unfold Hid
      rw [HP.out, HHH.out, Nat.add_comm, List.getElem?_cons_succ]
    have HNX : Hid (nxt 0 (HH.drop p) = HH[p]?.map Tw.b) := by
      unfold Hid
      rw [nxt_first (fun t ht => (HALL.out t (List.mem_of_mem_drop ht)).1), List.head?_drop]
    obtain ⟨t0, ht0⟩ : ∃ t0, HH[f 0]? = some t0 := ⟨_, List.getElem?_eq_getElem (by have := HF0.out; have := HPL.out; omega)⟩
    obtain ⟨_, g0, born0, hb0, _⟩ := HCH.out (f 0) t0 ht0
    have q0 := cell_of (v := .pointer (some ⟨bAt HH (f 0), 0, none⟩)) HPB.out (k := 0) rfl
    have q1 : w5.cell? ⟨bAt HH (f 0), 5, none⟩ = some (optp (HH[p]?.map Tw.b)) := by
      rw [bAt_of ht0]
      refine cell_of hb0 ((tcells_next _ _ _ _ (n := 0) (by decide)).trans ?_)
      unfold nextOf
      rw [if_pos (by have := (HALL.out t0 (List.mem_of_getElem? ht0)).1; omega), HF0.out, HNX.out]
    clear hlen hcle hb0 ht0
    obtain ⟨v6, hv6⟩ : ∃ v6, v6 = optp (HH[p]?.map Tw.b) := ⟨_, rfl⟩
    rw [← hv6] at q1
    have HV6 := Lib.hid hv6
    clear hv6
    go_upto_region 7 with (fail)
    clear q0 q1
    rename_i K hK
    have HK := Lib.hid hK
    clear hK
    have htail : ∀ (v1 v2 v6 v7 v8 v9 v10 v11 v12 v13 v14 v15 v16 v17 v18 v19 v20 v21 v22 v23 v24 v25 v26 v27 v28 v29 v30 v31 v32 v33 v34 v35 v36 : Value) (wa : World), Ext w5 wa → (∀ e, (T.map Tw.e)[cutOf (aheadE x.key x.seq) (T.map Tw.e)]? = some e → cmpE e x ≠ 0) →
        K { tmps := #[.pointer (some ⟨lb, 0, none⟩), v1, v2, .pointer (some ⟨w.heap.size, 0, none⟩), .int .i64 0, .pointer (some ⟨w4.heap.size, 0, none⟩), v6, v7, v8, v9, v10, v11, v12, v13, v14, v15, v16, v17, v18, v19, v20, v21, v22, v23, v24, v25, v26, v27, v28, v29, v30, v31, v32, v33, v34, v35, v36, .bool false, undef, undef, undef, undef, undef, undef, undef, undef, undef, undef, undef, undef, undef, undef, undef, undef, undef, undef, undef, undef, undef, undef, undef, undef, undef, undef, undef, undef, undef, undef, undef, undef, undef, undef, undef, undef, undef, undef, undef, undef, undef, undef, undef, undef, undef, undef, undef, undef, undef, undef, undef, undef, undef, undef], defers := [] } wa := by
      intro v1 v2 v6 v7 v8 v9 v10 v11 v12 v13 v14 v15 v16 v17 v18 v19 v20 v21 v22 v23 v24 v25 v26 v27 v28 v29 v30 v31 v32 v33 v34 v35 v36 wa hxr hne
      have HXR := Lib.hid hxr
      have HNE := Lib.hid hne
      have HBR := Lib.hid (ext_heap hxr HB5.out)
      have hl5 := ext_heap (Ext.trans HX5.out hxr) H.out.list
      have c0 := cell_of (v := .slice g.kA x.key.length g.kc) HBR.out (k := 0) rfl
      have c1 := cell_of (v := .int .i64 x.seq) HBR.out (k := 1) rfl
      have c2 := cell_of (v := .int .i64 x.kind) HBR.out (k := 2) rfl
      have c3 := cell_of (v := .slice g.vA x.val.length g.vc) HBR.out (k := 3) rfl
      have l1 := cell_of (v := .int .i64 (T.length : Int)) hl5 (k := 1) rfl
      clear hxr hne hl5
      refine HK.out _ _ ?_
      dsimp only
      go_upto_region 9 with (fail)
      refine flow (by kernel_rfl) [Is (.agg #[.slice g.kA x.key.length g.kc, .int .i64 x.seq, .int .i64 x.kind, .slice g.vA x.val.length g.vc]), CpF wa.heap.size x, Is (.pointer (some ⟨lb, 0, none⟩)), Is (.pointer (some ⟨lb, 0, none⟩)), Is (.pointer (some ⟨lb, 1, none⟩)), Is (.int .i64 (T.length : Int)), TvF wa.heap.size x (T.length : Int), TbF wa.heap.size x (T.length : Int), TbF wa.heap.size x (T.length : Int)] (by kernel_rfl) (by kernel_rfl) ?mono (fun f1 => ?obl) ?fin
      case mono =>
        simp only [List.forall_mem_cons, List.not_mem_nil, false_imp_iff, implies_true, and_true]
        exact ⟨.is _, .cpf _ _, .is _, .is _, .is _, .is _, .tvf _ _ _, .tbf _ _ _, .tbf _ _ _⟩
      case fin =>
        intro g1 u hu hg
        simp only [puts, Act.put, List.setIfInBounds_toArray, List.set_cons_zero, List.set_cons_succ]
        obtain ⟨g9, tb, e8, hB, hblk, hok, hov⟩ := (show TbF wa.heap.size x (T.length : Int) (g1 8) u from hg 8 (by decide))
        rw [e8]
        have HU := Lib.hid (Ext.trans (Ext.drew wa) hu)
        have HWB := Lib.hid hB
        have HBLK := Lib.hid hblk
        have HOK := Lib.hid hok
        have HOV := Lib.hid hov
        have c0 := ext_cell HU.out c0
        have c1 := ext_cell HU.out c1
        have hux := Ext.trans (Ext.trans HX5.out HXR.out) HU.out
        have HH9 := Lib.hid (height_any (HM.out.k.below hux HHI.out) HM.out.bk HM.out.s1 HM.out.s2 (HT.out.ext hux) HKL.out)
        have HUX := Lib.hid hux
        clear hB hblk hok hov hu hg e8 c2 c3 l1 hux
        go_wp2_with fail
        refine Calls.mono HH9.out ?_
        rintro e w' ⟨rfl, hw'⟩
        have hw' := hw'.symm
        subst hw'
        obtain ⟨n, hn⟩ : ∃ n, n = hgt x.key x.seq := ⟨_, rfl⟩
        have HNN := Lib.hid hn
        have HN8 : Hid (1 ≤ n ∧ n ≤ 8) := by rw [hn]; exact hgt_le _ _
        rw [← hn]
        clear hn
        obtain ⟨X, hX⟩ : ∃ X, X = HH.take p := ⟨_, rfl⟩
        obtain ⟨R, hR⟩ : ∃ R, R = HH.drop p := ⟨_, rfl⟩
        have HXR2 : Hid (X ++ R = HH) := by rw [hX, hR]; exact List.take_append_drop _ _
        have HXX := Lib.hid hX
        have HRR := Lib.hid hR
        have hXl : X.length = p := by rw [hX, List.length_take]; have := HPL.out; omega
        have HXL := Lib.hid hXl
        have hwa : w.heap.size ≤ tb := Nat.le_trans (Ext.trans HX5.out HXR.out).size HWB.out
        have HWT := Lib.hid hwa
        have hwt5 : w5.heap.size ≤ tb := Nat.le_trans HXR.out.size HWB.out
        have HWT5 := Lib.hid hwt5
        have HND : Hid (((X ++ ⟨x, tb, n⟩ :: R).map Tw.b).Nodup) := by
          refine nodup_new (by rw [HXR2.out, HHH.out]; exact H.out.nodup) fun v hv => ?_
          rw [HXR2.out] at hv
          obtain ⟨k, hk⟩ := List.mem_iff_getElem?.1 hv
          have := (HCH.out k v hk).lt
          show v.b ≠ tb
          omega
        have HC0 : Hid (Chain u (fun k => D k ∨ w.heap.size ≤ k) (T.length + 1 : Nat) (X ++ lvl ⟨x, tb, n⟩ 0 :: R)) := by
          refine chain_zero (by rw [HXR2.out]; exact HCH.out) (Ext.trans HXR.out HU.out) (fun _ _ hd => .inl hd) (by omega) ⟨.inr hwa, g9, T.length, ?_, by omega, .inr (by omega), HOK.out.base (Nat.zero_le _), HOV.out.base (Nat.zero_le _), fun k hk => .inr ?_, fun k hk => .inr ?_⟩
          · refine HBLK.out.trans ?_
            rw [tcells_tc]
            congr 2
            all_goals exact tc_congr fun n _ => by unfold nextOf; rw [if_neg (Nat.not_lt_zero _)]
          · have := (row_lt HOK.out k hk).1; have := (Ext.trans HX5.out HXR.out).size; omega
          · have := (row_lt HOV.out k hk).1; have := (Ext.trans HX5.out HXR.out).size; omega
        have HTOB : Hid (∀ k, k < w.heap.size → Tob u k → Tob w k) := fun k hk ⟨c, hc⟩ => ⟨c, by rw [HUX.out.block k hk] at hc; exact hc⟩
        clear hX hR hXl hwa hwt5 c0 c1
        go_wp2_with fail
        go_loopw [51] (fun i wq => ∃ m : Nat, m ≤ n ∧ i = .int .i64 (m : Int) ∧ Hid (Chain wq (fun k => D k ∨ w.heap.size ≤ k) (T.length + 1 : Nat) (X ++ lvl ⟨x, tb, n⟩ m :: R)) ∧ Hid (Chg (Dt (fun k => D k ∨ w.heap.size ≤ k) u) u wq)) (fun i _ => n - (intOf i).toNat)
        case atStart => exact ⟨0, Nat.zero_le _, rfl, HC0, Chg.refl _ _⟩
        case round =>
          obtain ⟨m, hm, rfl, HCM, HCG⟩ := hrel
          by_cases hlt : m < n
          · have d : decide ((m : Int) < (n : Int)) = true := by simp; omega
            have dn : decide (m < n) = true := by simp; omega
            have n1 : (0 : Int) ≤ (m : Int) := by omega
            have n2 : (m : Int) < 8 := by have := HN8.out; omega
            have n3 : m < 8 := by have := HN8.out; omega
            have HLT := Lib.hid hlt
            have HN3 := Lib.hid n3
            obtain ⟨hfp, ⟨uu, huu, hmh⟩, hlast⟩ := HF.out m n3
            have huX : X[f m]? = some uu := by rw [HXX.out, List.getElem?_take, if_pos hfp]; exact huu
            have hlX : ∀ (j : Nat) (v : Tw), f m < j → X[j]? = some v → v.h ≤ m := fun j v hj hv => by
              have hjl := (List.getElem?_eq_some_iff.1 hv).1
              rw [HXX.out, List.getElem?_take, if_pos (by rw [← HXL.out]; exact hjl)] at hv
              exact hlast j v hj (by rw [← HXL.out]; exact hjl) hv
            have hbe : bAt HH (f m) = uu.b := bAt_of huu
            have hpb : wr.heap[w4.heap.size]? = some (.cells #[.pointer (some ⟨bAt HH (f 0), 0, none⟩), .pointer (some ⟨bAt HH (f 1), 0, none⟩), .pointer (some ⟨bAt HH (f 2), 0, none⟩), .pointer (some ⟨bAt HH (f 3), 0, none⟩), .pointer (some ⟨bAt HH (f 4), 0, none⟩), .pointer (some ⟨bAt HH (f 5), 0, none⟩), .pointer (some ⟨bAt HH (f 6), 0, none⟩), .pointer (some ⟨bAt HH (f 7), 0, none⟩)] 61 (0, 0)) := by
              have h1 := ext_heap (Ext.trans HXR.out HU.out) HPB.out
              refine (HCG.out.block _ (Array.getElem?_eq_some_iff.1 h1).1 (fun ⟨_, c, hc⟩ => ?_)).trans h1
              rw [h1] at hc; injection hc with hc; injection hc with _ h2 _; exact absurd h2 (by decide)
            have qp : wr.cell? ⟨w4.heap.size, m, none⟩ = some (.pointer (some ⟨uu.b, 0, none⟩)) := by
              rw [← hbe]
              exact cell_of hpb (arr8 (fun k => .pointer (some ⟨bAt HH (f k), 0, none⟩)) n3)
            have HQP := Lib.hid qp
            obtain ⟨po, hpo⟩ := optp_is (nxt m R)
            obtain ⟨_, gu, bu, hbu, _⟩ := HCM.out (f m) uu (by rw [List.getElem?_append_left (List.getElem?_eq_some_iff.1 huX).1]; exact huX)
            have qu : wr.cell? ⟨uu.b, 5 + m, none⟩ = some (.pointer po) := by
              refine cell_of hbu ((tcells_next _ _ _ _ n3).trans ?_)
              unfold nextOf
              rw [if_pos hmh, List.drop_append_of_le_length (Nat.succ_le_of_lt (List.getElem?_eq_some_iff.1 huX).1), nxt_append, ← hpo]
              · show some (optp (if m < m then some tb else nxt m R)) = _
                rw [if_neg (Nat.lt_irrefl _)]
              · intro v hv
                obtain ⟨j, hj⟩ := List.mem_iff_getElem?.1 hv
                rw [List.getElem?_drop] at hj
                exact hlX (f m + 1 + j) v (by omega) hj
            obtain ⟨_, gt9, bt9, hbt, _⟩ := HCM.out X.length (lvl ⟨x, tb, n⟩ m) (by rw [List.getElem?_append_right (Nat.le_refl _)]; simp)
            have hbt : wr.heap[tb]? = _ := hbt
            have HBT := Lib.hid hbt
            have HBU := Lib.hid hbu
            have HPBR := Lib.hid hpb
            have HPO := Lib.hid hpo
            have HU9 := Lib.hid (And.intro huX (And.intro hmh hlX))
            have HNE : Hid (uu.b < w5.heap.size ∧ w4.heap.size < w5.heap.size) := ⟨(HCH.out _ _ huu).lt, (Array.getElem?_eq_some_iff.1 HPB.out).1⟩
            clear hlt hm hfp huu hmh hlast huX hlX hbe hpb hpo hbu hbt
            go_upto_region 13 with (fail)
            refine flow_tail (by kernel_rfl) [Is (.pointer (some ⟨tb, 0, none⟩)), Is (.int .i64 (m : Int)), Is (.int .i64 (m : Int)), Is (.pointer (some ⟨w4.heap.size, m, none⟩)), Is (.pointer (some ⟨uu.b, 0, none⟩)), Is (.int .i64 (m : Int)), Is (.pointer (some ⟨uu.b, 0, none⟩)), Is (.pointer (some ⟨uu.b, 5, none⟩)), Is (.pointer (some ⟨uu.b, 5 + m, none⟩)), Is (.pointer po), Is (.pointer (some ⟨tb, 0, none⟩)), Is (.pointer (some ⟨tb, 5, none⟩)), Is (.pointer (some ⟨tb, 5 + m, none⟩))] 13 (by kernel_rfl) (by kernel_rfl) (by kernel_rfl) (by kernel_rfl) ?mono2 (fun f1 => ?obl2) ?fin2
            case mono2 =>
              simp only [List.forall_mem_cons, List.not_mem_nil, false_imp_iff, implies_true, and_true]
              exact ⟨.is _, .is _, .is _, .is _, .is _, .is _, .is _, .is _, .is _, .is _, .is _, .is _, .is _⟩
            case fin2 =>
              intro g2 u2 hu hg
              simp only [List.take_succ_cons, List.take_zero, List.drop_succ_cons, List.drop_zero, puts, Act.put, List.setIfInBounds_toArray, List.set_cons_zero, List.set_cons_succ]
              have e9 : g2 9 = .pointer po := hg 9 (by decide)
              have e12 : g2 12 = .pointer (some ⟨tb, 5 + m, none⟩) := hg 12 (by decide)
              rw [e9, e12]
              have HU2 := Lib.hid (Ext.trans (Ext.drew wr) hu)
              have hbt := ext_heap HU2.out HBT.out
              have hbu := ext_heap HU2.out HBU.out
              have hpb := ext_heap HU2.out HPBR.out
              have qz := cell_of hbt (tcells_next _ _ _ _ HN3.out)
              have zz := frozen_four (j := 5 + m) hbt
              clear hu hg qp qu e9 e12
              obtain ⟨w7, hw7⟩ : ∃ w7, w7 = u2.setCell ⟨tb, 5 + m, none⟩ (.pointer po) := ⟨_, rfl⟩
              have hbu7 := (Below.heap_setCell u2 ⟨tb, 5 + m, none⟩ (.pointer po) uu.b (by have := HNE.out.1; have := HWT5.out; show uu.b ≠ tb; omega)).trans hbu
              rw [← hw7] at hbu7
              have hpb7 := (Below.heap_setCell u2 ⟨tb, 5 + m, none⟩ (.pointer po) w4.heap.size (by have := HNE.out.2; have := HWT5.out; show w4.heap.size ≠ tb; omega)).trans hpb
              rw [← hw7] at hpb7
              have qp7 : w7.cell? ⟨w4.heap.size, m, none⟩ = some (.pointer (some ⟨uu.b, 0, none⟩)) := by
                have e : w7.cell? ⟨w4.heap.size, m, none⟩ = wr.cell? ⟨w4.heap.size, m, none⟩ := World.cell?_of_block (hpb7.trans HPBR.out.symm)
                rw [e]; exact HQP.out
              have qu7 := cell_of hbu7 (tcells_next _ _ _ _ HN3.out)
              have zu7 := frozen_four (j := 5 + m) hbu7
              have HW7 := Lib.hid hw7
              clear hbt hbu hpb hbu7 hpb7
              go_upto_region 14 with (fail)
              rw [← hw7]
              clear hw7 qz zz
              go_wp2
              refine ⟨⟨m + 1, HLT.out, rfl, ?_, ?_⟩, ?_⟩
              · have hst := (chain_step (w := u2) HN3.out (HCM.out.ext HU2.out) HND.out HU9.out.1 HU9.out.2.1 HU9.out.2.2).1
                rw [HPO.out] at hst
                unfold Hid
                rw [HW7.out]
                exact hst
              · have hst := (chain_step (w := u2) HN3.out (HCM.out.ext HU2.out) HND.out HU9.out.1 HU9.out.2.1 HU9.out.2.2).2
                rw [HPO.out] at hst
                unfold Hid
                rw [HW7.out]
                refine (HCG.out.trans (Chg.of_ext HU2.out)).trans_new hst fun i hi hs => ?_
                refine ⟨hs.1, Classical.byContradiction fun hno => hno ?_⟩
                obtain ⟨c, hc⟩ := hs.2
                exact ⟨c, ((HCG.out.trans (Chg.of_ext HU2.out)).block i hi (fun h => hno h.2)).symm.trans hc⟩
              · have := HLT.out; simp [intOf]; omega
            case obl2 =>
              refine ⟨fun u hu hd => ?_, ?_⟩
              · go_simp
                exact ⟨Ext.refl _, rfl⟩
              refine ⟨fun u hu hd => ?_, ?_⟩
              · simp only [Act.put, List.setIfInBounds_toArray, List.set_cons_zero, List.set_cons_succ]
                go_simp
                exact ⟨Ext.refl _, rfl⟩
              refine ⟨fun u hu hd => ?_, ?_⟩
              · simp only [Act.put, List.setIfInBounds_toArray, List.set_cons_zero, List.set_cons_succ]
                go_simp
                exact ⟨Ext.refl _, rfl⟩
              refine ⟨fun u hu hd => ?_, ?_⟩
              · simp only [Act.put, List.setIfInBounds_toArray, List.set_cons_zero, List.set_cons_succ]
                have e2 : f1 2 = .int .i64 (m : Int) := hd 2 (by kernel_rfl)
                go_simp
                exact ⟨Ext.refl _, rfl⟩
              refine ⟨fun u hu hd => ?_, ?_⟩
              · simp only [Act.put, List.setIfInBounds_toArray, List.set_cons_zero, List.set_cons_succ]
                have e3 : f1 3 = .pointer (some ⟨w4.heap.size, m, none⟩) := hd 3 (by kernel_rfl)
                have hu2 := Ext.trans (Ext.drew wr) hu
                have q0 := ext_cell hu2 qp
                go_simp
                exact ⟨Ext.refl _, rfl⟩
              refine ⟨fun u hu hd => ?_, ?_⟩
              · simp only [Act.put, List.setIfInBounds_toArray, List.set_cons_zero, List.set_cons_succ]
                go_simp
                exact ⟨Ext.refl _, rfl⟩
              refine ⟨fun u hu hd => ?_, ?_⟩
              · simp only [Act.put, List.setIfInBounds_toArray, List.set_cons_zero, List.set_cons_succ]
                have e4 : f1 4 = .pointer (some ⟨uu.b, 0, none⟩) := hd 4 (by kernel_rfl)
                go_simp
                exact ⟨Ext.refl _, rfl⟩
              refine ⟨fun u hu hd => ?_, ?_⟩
              · simp only [Act.put, List.setIfInBounds_toArray, List.set_cons_zero, List.set_cons_succ]
                have e6 : f1 6 = .pointer (some ⟨uu.b, 0, none⟩) := hd 6 (by kernel_rfl)
                go_simp
                exact ⟨Ext.refl _, rfl⟩
              refine ⟨fun u hu hd => ?_, ?_⟩
              · simp only [Act.put, List.setIfInBounds_toArray, List.set_cons_zero, List.set_cons_succ]
                have e7 : f1 7 = .pointer (some ⟨uu.b, 5, none⟩) := hd 7 (by kernel_rfl)
                have e5 : f1 5 = .int .i64 (m : Int) := hd 5 (by kernel_rfl)
                go_simp
                exact ⟨Ext.refl _, rfl⟩
              refine ⟨fun u hu hd => ?_, ?_⟩
              · simp only [Act.put, List.setIfInBounds_toArray, List.set_cons_zero, List.set_cons_succ]
                have e8 : f1 8 = .pointer (some ⟨uu.b, 5 + m, none⟩) := hd 8 (by kernel_rfl)
                have hu2 := Ext.trans (Ext.drew wr) hu
                have q0 := ext_cell hu2 qu
                go_simp
                exact ⟨Ext.refl _, rfl⟩
              refine ⟨fun u hu hd => ?_, ?_⟩
              · simp only [Act.put, List.setIfInBounds_toArray, List.set_cons_zero, List.set_cons_succ]
                have e0 : f1 0 = .pointer (some ⟨tb, 0, none⟩) := hd 0 (by kernel_rfl)
                go_simp
                exact ⟨Ext.refl _, rfl⟩
              refine ⟨fun u hu hd => ?_, ?_⟩
              · simp only [Act.put, List.setIfInBounds_toArray, List.set_cons_zero, List.set_cons_succ]
                have e10 : f1 10 = .pointer (some ⟨tb, 0, none⟩) := hd 10 (by kernel_rfl)
                go_simp
                exact ⟨Ext.refl _, rfl⟩
              refine ⟨fun u hu hd => ?_, ?_⟩
              · simp only [Act.put, List.setIfInBounds_toArray, List.set_cons_zero, List.set_cons_succ]
                have e11 : f1 11 = .pointer (some ⟨tb, 5, none⟩) := hd 11 (by kernel_rfl)
                have e1 : f1 1 = .int .i64 (m : Int) := hd 1 (by kernel_rfl)
                go_simp
                exact ⟨Ext.refl _, rfl⟩
              trivial
          · have hmn : m = n := by omega
            have d : decide ((m : Int) < (n : Int)) = false := by simp; omega
            have dn : decide (m < n) = false := by simp; omega
            have HMN := Lib.hid hmn
            have hlist := ext_heap HUX.out H.out.list
            have hl9 := (HCG.out.block lb (Array.getElem?_eq_some_iff.1 hlist).1 (fun ⟨_, c, hc⟩ => by rw [hlist] at hc; injection hc with hc; injection hc with _ h2 _; exact absurd h2 (by decide))).trans hlist
            have hbox := ext_heap HU.out HBR.out
            have hb9 := (HCG.out.block w.heap.size (Array.getElem?_eq_some_iff.1 hbox).1 (fun ⟨_, c, hc⟩ => by rw [hbox] at hc; injection hc with hc; injection hc with _ h2 _; exact absurd h2 (by decide))).trans hbox
            have HL9 := Lib.hid hl9
            have HB9 := Lib.hid hb9
            have hlbw : lb < w.heap.size := (Array.getElem?_eq_some_iff.1 H.out.list).1
            have HLBW := Lib.hid hlbw
            have hfI : (T.length : Int) ≤ 1000000 := by have := HFEW.out; omega
            have l1 := cell_of (v := .int .i64 (T.length : Int)) hl9 (k := 1) rfl
            have z1 := frozen_four (j := 1) hl9
            clear hlt hm hmn hlist hl9 hbox hb9 hlbw
            go_upto_region 17 with (fail)
            obtain ⟨w9, hw9⟩ : ∃ w9, w9 = wr.setCell ⟨lb, 1, none⟩ (.int .i64 ((T.length : Int) + 1)) := ⟨_, rfl⟩
            rw [← hw9]
            have hl9 := heap_setCell_same wr lb 1 _ _ (.int .i64 ((T.length : Int) + 1)) HL9.out
            have hb9 := (Below.heap_setCell wr ⟨lb, 1, none⟩ (.int .i64 ((T.length : Int) + 1)) w.heap.size (by have := HLBW.out; show w.heap.size ≠ lb; omega)).trans HB9.out
            have hc9 := Chg.setCell (S := fun i => i = lb) wr ⟨lb, 1, none⟩ (.int .i64 ((T.length : Int) + 1)) rfl
            rw [← hw9] at hl9 hb9 hc9
            have HLN := Lib.hid hl9
            have HC9 : Hid (Chain w9 (fun k => D k ∨ w.heap.size ≤ k) (T.length + 1 : Nat) (X ++ ⟨x, tb, n⟩ :: R)) := by
              have h1 := HCM.out
              rw [HMN.out] at h1
              exact Chain.list h1 HL9.out hc9
            have HCW : Hid (Chg (Sks D w) w w9) := by
              have hcu : Chg (Sks D w) w u := Chg.of_ext HUX.out
              have hcr : Chg (Sks D w) w wr := hcu.trans_new HCG.out (fun i hi hs => ⟨hs.1.resolve_right (by omega), (HTOB.out i hi hs.2).skb⟩)
              exact hcr.trans_new hc9 (fun i _ e => by rw [e]; exact ⟨H.out.lowl, _, _, .inr H.out.list⟩)
            have HM9 := Lib.hid (HM.out.keepC HHI.out HCW.out (fun k hk => HAP.out k hk.1))
            have HHI9 := Lib.hid (Nat.le_trans HHI.out HCW.out.size)
            have HSZ : Hid ((if x.may then (x.form.length : Int) else 0) = (x.form.length : Int)) := by unfold Hid; rw [← HZ.out]; rfl
            have hbyN : bytesE (T.map Tw.e) ≤ 65700000000 := by
              have h1 := bytesE_le (L := T.map Tw.e) (fun e he => by obtain ⟨t, ht, rfl⟩ := List.mem_map.1 he; exact (H.out.ins t ht).may)
              rw [List.length_map] at h1
              have := HFEW.out
              omega
            have hfl : x.form.length ≤ 65700 := Ent.form_len HZ.out.symm
            have hwI : IntKind.i64.wrap ((bytesE (T.map Tw.e) : Int) + (x.form.length : Int)) = (bytesE (T.map Tw.e) : Int) + (x.form.length : Int) := IntWalk.i64_in _ (by omega)
            have HWI := Lib.hid hwI
            have l2 := cell_of (v := .int .i64 (bytesE (T.map Tw.e) : Int)) hl9 (k := 2) rfl
            have c0 := cell_of (v := .slice g.kA x.key.length g.kc) hb9 (k := 0) rfl
            have c1 := cell_of (v := .int .i64 x.seq) hb9 (k := 1) rfl
            have c2 := cell_of (v := .int .i64 x.kind) hb9 (k := 2) rfl
            have c3 := cell_of (v := .slice g.vA x.val.length g.vc) hb9 (k := 3) rfl
            clear hw9 hl9 hb9 hc9 hbyN hfl hwI l1 z1 d dn
            refine flow_tail (by kernel_rfl) [Is (.pointer (some ⟨lb, 0, none⟩)), Is (.pointer (some ⟨lb, 0, none⟩)), Is (.pointer (some ⟨lb, 2, none⟩)), Is (.int .i64 (bytesE (T.map Tw.e) : Int)), Is (.agg #[.slice g.kA x.key.length g.kc, .int .i64 x.seq, .int .i64 x.kind, .slice g.vA x.val.length g.vc]), Is (.int .i64 (x.form.length : Int)), Is (.int .i64 ((bytesE (T.map Tw.e) : Int) + (x.form.length : Int))), Is (.pointer (some ⟨lb, 0, none⟩)), Is (.pointer (some ⟨lb, 2, none⟩))] 9 (by kernel_rfl) (by kernel_rfl) (by kernel_rfl) (by kernel_rfl) ?mono3 (fun f1 => ?obl3) ?fin3
            case mono3 =>
              simp only [List.forall_mem_cons, List.not_mem_nil, false_imp_iff, implies_true, and_true]
              exact ⟨.is _, .is _, .is _, .is _, .is _, .is _, .is _, .is _, .is _⟩
            case fin3 =>
              intro g3 u3 hu hg
              simp only [List.take_succ_cons, List.take_zero, List.drop_succ_cons, List.drop_zero, puts, Act.put, List.setIfInBounds_toArray, List.set_cons_zero, List.set_cons_succ]
              have e6 : g3 6 = .int .i64 ((bytesE (T.map Tw.e) : Int) + (x.form.length : Int)) := hg 6 (by decide)
              have e8 : g3 8 = .pointer (some ⟨lb, 2, none⟩) := hg 8 (by decide)
              rw [e6, e8]
              have HU3 := Lib.hid (Ext.trans (Ext.drew w9) hu)
              have hl3 := ext_heap HU3.out HLN.out
              have HL3 := Lib.hid hl3
              have q2 := cell_of (v := .int .i64 (bytesE (T.map Tw.e) : Int)) hl3 (k := 2) rfl
              have z2 := frozen_four (j := 2) hl3
              clear hu hg e6 e8 l2 c0 c1 c2 c3 hl3
              go_wp2
              go_ret
              have hput := putE_new (L := T.map Tw.e) HZ.out.symm HNE.out
              have hmap : (T.take (cutOf (aheadE x.key x.seq) (T.map Tw.e)) ++ ⟨x, tb, n⟩ :: T.drop (cutOf (aheadE x.key x.seq) (T.map Tw.e))).map Tw.e = (T.map Tw.e).take (cutOf (aheadE x.key x.seq) (T.map Tw.e)) ++ x :: (T.map Tw.e).drop (cutOf (aheadE x.key x.seq) (T.map Tw.e)) := by
                rw [List.map_append, List.map_cons, List.map_take, List.map_drop]
              have hlen : (T.take (cutOf (aheadE x.key x.seq) (T.map Tw.e)) ++ ⟨x, tb, n⟩ :: T.drop (cutOf (aheadE x.key x.seq) (T.map Tw.e))).length = T.length + 1 := by
                have := cutOf_le (aheadE x.key x.seq) (T.map Tw.e)
                rw [List.length_map] at this
                rw [List.length_append, List.length_cons, List.length_take, List.length_drop]
                omega
              have heq : X ++ ⟨x, tb, n⟩ :: R = headT hb :: (T.take (cutOf (aheadE x.key x.seq) (T.map Tw.e)) ++ ⟨x, tb, n⟩ :: T.drop (cutOf (aheadE x.key x.seq) (T.map Tw.e))) := by
                rw [HXX.out, HRR.out, HHH.out, HP.out, Nat.add_comm 1, List.take_succ_cons, List.drop_succ_cons, List.cons_append]
              have hc3 := Chg.setCell (S := fun i => i = lb) u3 ⟨lb, 2, none⟩ (.int .i64 ((bytesE (T.map Tw.e) : Int) + (x.form.length : Int))) rfl
              have hch := Chain.list (HC9.out.ext HU3.out) HL3.out hc3
              rw [heq] at hch
              refine ⟨_, 0, by rw [hput, hmap], rfl, ⟨.inl H.out.lowl, ?_, by rw [hlen]; exact hch, by rw [← heq]; exact HND.out, fun v hv => ?_, fun v hv => ?_, ?_⟩, ?_⟩
              · rw [heap_setCell_same _ _ _ _ _ _ HL3.out, hmap, bytesE_split, hlen]
                rfl
              · rcases List.mem_append.1 hv with hv | hv
                · exact H.out.hts v (List.mem_of_mem_take hv)
                · rcases List.mem_cons.1 hv with rfl | hv
                  · exact HNN.out
                  · exact H.out.hts v (List.mem_of_mem_drop hv)
              · rcases List.mem_append.1 hv with hv | hv
                · exact H.out.ins v (List.mem_of_mem_take hv)
                · rcases List.mem_cons.1 hv with rfl | hv
                  · exact ⟨HM.out.bk, HM.out.bv, HZ.out.symm⟩
                  · exact H.out.ins v (List.mem_of_mem_drop hv)
              · have := H.out.asc.put x
                rw [hput] at this
                rw [hmap]; exact this
              · exact (HCW.out.trans (Chg.of_ext HU3.out)).trans_new hc3 (fun i _ e => by rw [e]; exact ⟨H.out.lowl, _, _, .inr H.out.list⟩)
            case obl3 =>
              refine ⟨fun u hu hd => ?_, ?_⟩
              · go_simp
                exact ⟨Ext.refl _, rfl⟩
              refine ⟨fun u hu hd => ?_, ?_⟩
              · simp only [Act.put, List.setIfInBounds_toArray, List.set_cons_zero, List.set_cons_succ]
                have e0 : f1 0 = .pointer (some ⟨lb, 0, none⟩) := hd 0 (by kernel_rfl)
                go_simp
                exact ⟨Ext.refl _, rfl⟩
              refine ⟨fun u hu hd => ?_, ?_⟩
              · simp only [Act.put, List.setIfInBounds_toArray, List.set_cons_zero, List.set_cons_succ]
                have e1 : f1 1 = .pointer (some ⟨lb, 0, none⟩) := hd 1 (by kernel_rfl)
                go_simp
                exact ⟨Ext.refl _, rfl⟩
              refine ⟨fun u hu hd => ?_, ?_⟩
              · simp only [Act.put, List.setIfInBounds_toArray, List.set_cons_zero, List.set_cons_succ]
                have e2 : f1 2 = .pointer (some ⟨lb, 2, none⟩) := hd 2 (by kernel_rfl)
                have hu2 := Ext.trans (Ext.drew w9) hu
                have q0 := ext_cell hu2 l2
                go_simp
                exact ⟨Ext.refl _, rfl⟩
              refine ⟨fun u hu hd => ?_, ?_⟩
              · simp only [Act.put, List.setIfInBounds_toArray, List.set_cons_zero, List.set_cons_succ]
                have hu2 := Ext.trans (Ext.drew w9) hu
                have q0 := ext_cell hu2 c0
                have q1 := ext_cell hu2 c1
                have q2 := ext_cell hu2 c2
                have q3 := ext_cell hu2 c3
                go_simp
                exact ⟨Ext.refl _, rfl⟩
              refine ⟨fun u hu hd => ?_, ?_⟩
              · simp only [Act.put, List.setIfInBounds_toArray, List.set_cons_zero, List.set_cons_succ]
                have e4 : f1 4 = .agg #[.slice g.kA x.key.length g.kc, .int .i64 x.seq, .int .i64 x.kind, .slice g.vA x.val.length g.vc] := hd 4 (by kernel_rfl)
                have hux := Ext.trans (Ext.drew w9) hu
                go_simp
                refine (size_any (HM9.out.below hux HHI9.out) (Nat.le_trans HHI9.out hux.size)).mono ?_
                rintro x9 w9b ⟨rfl, hx9⟩
                exact ⟨_, rfl, hx9, by rw [HSZ.out]; rfl⟩
              refine ⟨fun u hu hd => ?_, ?_⟩
              · simp only [Act.put, List.setIfInBounds_toArray, List.set_cons_zero, List.set_cons_succ]
                have e3 : f1 3 = .int .i64 (bytesE (T.map Tw.e) : Int) := hd 3 (by kernel_rfl)
                have e5 : f1 5 = .int .i64 (x.form.length : Int) := hd 5 (by kernel_rfl)
                have hwI := HWI.out
                go_simp
                exact ⟨Ext.refl _, rfl⟩
              refine ⟨fun u hu hd => ?_, ?_⟩
              · simp only [Act.put, List.setIfInBounds_toArray, List.set_cons_zero, List.set_cons_succ]
                have e0 : f1 0 = .pointer (some ⟨lb, 0, none⟩) := hd 0 (by kernel_rfl)
                go_simp
                exact ⟨Ext.refl _, rfl⟩
              refine ⟨fun u hu hd => ?_, ?_⟩
              · simp only [Act.put, List.setIfInBounds_toArray, List.set_cons_zero, List.set_cons_succ]
                have e7 : f1 7 = .pointer (some ⟨lb, 0, none⟩) := hd 7 (by kernel_rfl)
                go_simp
                exact ⟨Ext.refl _, rfl⟩
              trivial
      case obl =>
        refine ⟨fun u hu hd => ?_, ?_⟩
        · have hu2 := Ext.trans (Ext.drew wa) hu
          have q0 := ext_cell hu2 c0
          have q1 := ext_cell hu2 c1
          have q2 := ext_cell hu2 c2
          have q3 := ext_cell hu2 c3
          go_simp
          exact ⟨Ext.refl _, rfl⟩
        refine ⟨fun u hu hd => ?_, ?_⟩
        · simp only [Act.put, List.setIfInBounds_toArray, List.set_cons_zero, List.set_cons_succ]
          have e0 : f1 0 = .agg #[.slice g.kA x.key.length g.kc, .int .i64 x.seq, .int .i64 x.kind, .slice g.vA x.val.length g.vc] := hd 0 (by kernel_rfl)
          have hux := Ext.trans (Ext.trans HX5.out HXR.out) (Ext.trans (Ext.drew wa) hu)
          go_simp
          refine (copy_any (HM.out.below hux HHI.out) (Nat.le_trans HHI.out hux.size) HKL.out HVL.out).mono ?_
          rintro x9 w9 ⟨hx9, g9, rfl, ok, ov⟩
          exact ⟨_, rfl, hx9, g9, rfl, ok.base (Ext.trans (Ext.drew wa) hu).size, ov.base (Ext.trans (Ext.drew wa) hu).size⟩
        refine ⟨fun u hu hd => ?_, ?_⟩
        · simp only [Act.put, List.setIfInBounds_toArray, List.set_cons_zero, List.set_cons_succ]
          go_simp
          exact ⟨Ext.refl _, rfl⟩
        refine ⟨fun u hu hd => ?_, ?_⟩
        · simp only [Act.put, List.setIfInBounds_toArray, List.set_cons_zero, List.set_cons_succ]
          have e2 : f1 2 = .pointer (some ⟨lb, 0, none⟩) := hd 2 (by kernel_rfl)
          go_simp
          exact ⟨Ext.refl _, rfl⟩
        refine ⟨fun u hu hd => ?_, ?_⟩
        · simp only [Act.put, List.setIfInBounds_toArray, List.set_cons_zero, List.set_cons_succ]
          have e3 : f1 3 = .pointer (some ⟨lb, 0, none⟩) := hd 3 (by kernel_rfl)
          go_simp
          exact ⟨Ext.refl _, rfl⟩
        refine ⟨fun u hu hd => ?_, ?_⟩
        · simp only [Act.put, List.setIfInBounds_toArray, List.set_cons_zero, List.set_cons_succ]
          have e4 : f1 4 = .pointer (some ⟨lb, 1, none⟩) := hd 4 (by kernel_rfl)
          have hu2 := Ext.trans (Ext.drew wa) hu
          have q0 := ext_cell hu2 l1
          go_simp
          exact ⟨Ext.refl _, rfl⟩
        refine ⟨fun u hu hd => ?_, ?_⟩
        · simp only [Act.put, List.setIfInBounds_toArray, List.set_cons_zero, List.set_cons_succ]
          have e5 : f1 5 = .int .i64 (T.length : Int) := hd 5 (by kernel_rfl)
          obtain ⟨g9, e1, h1, h2⟩ := (show CpF wa.heap.size x (f1 1) u from hd 1 (by kernel_rfl))
          unfold Ent.at_ at e1
          have H1 := Lib.hid h1
          have H2 := Lib.hid h2
          clear h1 h2
          go_simp
          exact ⟨Ext.refl _, g9, rfl, H1.out, H2.out⟩
        refine ⟨fun u hu hd => ?_, ?_⟩
        · simp only [Act.put, List.setIfInBounds_toArray, List.set_cons_zero, List.set_cons_succ]
          obtain ⟨g9, e6, h1, h2⟩ := (show TvF wa.heap.size x (T.length : Int) (f1 6) u from hd 6 (by kernel_rfl))
          unfold tc at e6
          have H1 := Lib.hid h1
          have H2 := Lib.hid h2
          clear h1 h2
          go_simp
          exact ⟨ext_alloc _ _, g9, _, rfl, (Ext.trans (Ext.drew wa) hu).size, heap_at _ _ rfl, H1.out.below (ext_alloc _ _), H2.out.below (ext_alloc _ _)⟩
        refine ⟨fun u hu hd => ?_, ?_⟩
        · simp only [Act.put, List.setIfInBounds_toArray, List.set_cons_zero, List.set_cons_succ]
          obtain ⟨g9, b9, e7, hB, hb9, h1, h2⟩ := (show TbF wa.heap.size x (T.length : Int) (f1 7) u from hd 7 (by kernel_rfl))
          have H1 := Lib.hid h1
          have H2 := Lib.hid h2
          have H3 := Lib.hid hb9
          have H4 := Lib.hid hB
          clear h1 h2 hb9 hB
          go_simp
          exact ⟨Ext.refl _, g9, b9, rfl, H4.out, H3.out, H1.out, H2.out⟩
        trivial
    have HTAIL := Lib.hid htail
    clear htail
    cases hnx : HH[p]? with
    | none =>
      have hv6 := HV6.out
      rw [hnx] at hv6
      obtain rfl : v6 = .pointer none := hv6
      have HNX2 : Hid ((T.map Tw.e)[cutOf (aheadE x.key x.seq) (T.map Tw.e)]? = none) := by
        unfold Hid
        rw [List.getElem?_map, ← HGT.out, hnx]; rfl
      clear hnx
      refine flow (by kernel_rfl) [Is (.pointer none), Is (.bool false), Is (.bool false), Is undef, Is undef, Is undef, Is undef, Is undef, Is undef, Is undef, Is (.bool false)] (by kernel_rfl) (by kernel_rfl) ?mono4 (fun f1 => ?obl4) ?fin4
      case mono4 =>
        simp only [List.forall_mem_cons, List.not_mem_nil, false_imp_iff, implies_true, and_true]
        exact ⟨.is _, .is _, .is _, .is _, .is _, .is _, .is _, .is _, .is _, .is _, .is _⟩
      case fin4 =>
        intro g4 u4 hu hg
        simp only [puts, Act.put, List.setIfInBounds_toArray, List.set_cons_zero, List.set_cons_succ]
        have e10 : g4 10 = .bool false := hg 10 (by decide)
        rw [e10]
        exact HTAIL.out _ _ _ _ _ _ _ _ _ _ _ _ _ _ _ _ _ _ _ _ _ _ _ _ _ _ _ _ _ _ _ _ _ u4 (Ext.trans (Ext.drew w5) hu) (fun e he => by rw [HNX2.out] at he; cases he)
      case obl4 =>
        refine ⟨fun u hu hd => ?_, ?_⟩
        · go_simp
          exact ⟨Ext.refl _, rfl⟩
        refine ⟨fun u hu hd => ?_, ?_⟩
        · simp only [Act.put, List.setIfInBounds_toArray, List.set_cons_zero, List.set_cons_succ]
          have e0 : f1 0 = .pointer none := hd 0 (by kernel_rfl)
          go_simp
          exact ⟨Ext.refl _, rfl⟩
        refine ⟨fun u hu hd => ?_, ?_⟩
        · simp only [Act.put, List.setIfInBounds_toArray, List.set_cons_zero, List.set_cons_succ]
          have e1 : f1 1 = .bool false := hd 1 (by kernel_rfl)
          go_simp
          exact ⟨Ext.refl _, rfl⟩
        refine ⟨fun u hu hd => ?_, ?_⟩
        · simp only [Act.put, List.setIfInBounds_toArray, List.set_cons_zero, List.set_cons_succ]
          have e2 : f1 2 = .bool false := hd 2 (by kernel_rfl)
          go_simp
          rfl
        refine ⟨fun u hu hd => ?_, ?_⟩
        · simp only [Act.put, List.setIfInBounds_toArray, List.set_cons_zero, List.set_cons_succ]
          have e2 : f1 2 = .bool false := hd 2 (by kernel_rfl)
          go_simp
          rfl
        refine ⟨fun u hu hd => ?_, ?_⟩
        · simp only [Act.put, List.setIfInBounds_toArray, List.set_cons_zero, List.set_cons_succ]
          have e2 : f1 2 = .bool false := hd 2 (by kernel_rfl)
          go_simp
          rfl
        refine ⟨fun u hu hd => ?_, ?_⟩
        · simp only [Act.put, List.setIfInBounds_toArray, List.set_cons_zero, List.set_cons_succ]
          have e2 : f1 2 = .bool false := hd 2 (by kernel_rfl)
          go_simp
          rfl
        refine ⟨fun u hu hd => ?_, ?_⟩
        · simp only [Act.put, List.setIfInBounds_toArray, List.set_cons_zero, List.set_cons_succ]
          have e2 : f1 2 = .bool false := hd 2 (by kernel_rfl)
          go_simp
          rfl
        refine ⟨fun u hu hd => ?_, ?_⟩
        · simp only [Act.put, List.setIfInBounds_toArray, List.set_cons_zero, List.set_cons_succ]
          have e2 : f1 2 = .bool false := hd 2 (by kernel_rfl)
          go_simp
          rfl
        refine ⟨fun u hu hd => ?_, ?_⟩
        · simp only [Act.put, List.setIfInBounds_toArray, List.set_cons_zero, List.set_cons_succ]
          have e2 : f1 2 = .bool false := hd 2 (by kernel_rfl)
          go_simp
          rfl
        refine ⟨fun u hu hd => ?_, ?_⟩
        · simp only [Act.put, List.setIfInBounds_toArray, List.set_cons_zero, List.set_cons_succ]
          have e2 : f1 2 = .bool false := hd 2 (by kernel_rfl)
          go_simp
          exact ⟨Ext.refl _, rfl⟩
        trivial
    | some tn =>
      have hv6 := HV6.out
      rw [hnx] at hv6
      obtain rfl : v6 = .pointer (some ⟨tn.b, 0, none⟩) := hv6
      have HNX2 : Hid ((T.map Tw.e)[cutOf (aheadE x.key x.seq) (T.map Tw.e)]? = some tn.e) := by
        unfold Hid
        rw [List.getElem?_map, ← HGT.out, hnx]; rfl
      have hins : InE tn.e := by
        have h1 := HGT.out
        rw [hnx] at h1
        exact H.out.ins tn (List.mem_of_getElem? h1.symm)
      obtain ⟨gn, bn, hbn, _, _, hem⟩ := (HCH.out p tn hnx).em hins
      have HEM := Lib.hid hem
      have c0 := cell_of (v := .slice g.kA x.key.length g.kc) HB5.out (k := 0) rfl
      have c1 := cell_of (v := .int .i64 x.seq) HB5.out (k := 1) rfl
      have c2 := cell_of (v := .int .i64 x.kind) HB5.out (k := 2) rfl
      have c3 := cell_of (v := .slice g.vA x.val.length g.vc) HB5.out (k := 3) rfl
      have d0 := cell_of (v := .slice gn.kA tn.e.key.length gn.kc) hbn (k := 0) rfl
      have d1 := cell_of (v := .int .i64 tn.e.seq) hbn (k := 1) rfl
      have d2 := cell_of (v := .int .i64 tn.e.kind) hbn (k := 2) rfl
      have d3 := cell_of (v := .slice gn.vA tn.e.val.length gn.vc) hbn (k := 3) rfl
      obtain ⟨zc, hzc⟩ : ∃ zc, zc = (cmpE tn.e x == 0) := ⟨_, rfl⟩
      have HZC := Lib.hid hzc
      clear hnx hins hbn hem hzc
      refine flow (by kernel_rfl) [Is (.pointer (some ⟨tn.b, 0, none⟩)), Is (.bool true), Is (.bool true), Is (.pointer (some ⟨tn.b, 0, none⟩)), Is (.pointer (some ⟨tn.b, 0, none⟩)), Is (.pointer (some ⟨tn.b, 0, none⟩)), Is (.agg #[.slice gn.kA tn.e.key.length gn.kc, .int .i64 tn.e.seq, .int .i64 tn.e.kind, .slice gn.vA tn.e.val.length gn.vc]), Is (.agg #[.slice g.kA x.key.length g.kc, .int .i64 x.seq, .int .i64 x.kind, .slice g.vA x.val.length g.vc]), Is (.int .i64 (cmpE tn.e x)), Is (.bool zc), Is (.bool zc)] (by kernel_rfl) (by kernel_rfl) ?mono4 (fun f1 => ?obl4) ?fin4
      case mono4 =>
        simp only [List.forall_mem_cons, List.not_mem_nil, false_imp_iff, implies_true, and_true]
        exact ⟨.is _, .is _, .is _, .is _, .is _, .is _, .is _, .is _, .is _, .is _, .is _⟩
      case fin4 =>
        intro g4 u4 hu hg
        simp only [puts, Act.put, List.setIfInBounds_toArray, List.set_cons_zero, List.set_cons_succ]
        have e10 : g4 10 = .bool zc := hg 10 (by decide)
        rw [e10]
        have HU4 := Lib.hid (Ext.trans (Ext.drew w5) hu)
        clear hu hg e10 c0 c1 c2 c3 d0 d1 d2 d3
        cases zc with
        | true =>
          refine HK.out _ _ ?_
          go_wp2
          go_ret
          exact SPutAns.same H.out (Ext.trans HX5.out HU4.out) (putE_there HZ.out.symm HNX2.out (by have := HZC.out.symm; simpa using this))
        | false =>
          exact HTAIL.out _ _ _ _ _ _ _ _ _ _ _ _ _ _ _ _ _ _ _ _ _ _ _ _ _ _ _ _ _ _ _ _ _ u4 HU4.out (fun e he => by
            rw [HNX2.out] at he; injection he with he; subst he
            have := HZC.out.symm; simpa using this)
      case obl4 =>
        refine ⟨fun u hu hd => ?_, ?_⟩
        · go_simp
          exact ⟨Ext.refl _, rfl⟩
        refine ⟨fun u hu hd => ?_, ?_⟩
        · simp only [Act.put, List.setIfInBounds_toArray, List.set_cons_zero, List.set_cons_succ]
          have e0 : f1 0 = .pointer (some ⟨tn.b, 0, none⟩) := hd 0 (by kernel_rfl)
          go_simp
          exact ⟨Ext.refl _, rfl⟩
        refine ⟨fun u hu hd => ?_, ?_⟩
        · simp only [Act.put, List.setIfInBounds_toArray, List.set_cons_zero, List.set_cons_succ]
          have e1 : f1 1 = .bool true := hd 1 (by kernel_rfl)
          go_simp
          exact ⟨Ext.refl _, rfl⟩
        refine ⟨fun u hu hd => ?_, ?_⟩
        · simp only [Act.put, List.setIfInBounds_toArray, List.set_cons_zero, List.set_cons_succ]
          have e2 : f1 2 = .bool true := hd 2 (by kernel_rfl)
          go_simp
          exact ⟨Ext.refl _, rfl⟩
        refine ⟨fun u hu hd => ?_, ?_⟩
        · simp only [Act.put, List.setIfInBounds_toArray, List.set_cons_zero, List.set_cons_succ]
          have e2 : f1 2 = .bool true := hd 2 (by kernel_rfl)
          have e3 : f1 3 = .pointer (some ⟨tn.b, 0, none⟩) := hd 3 (by kernel_rfl)
          go_simp
          exact ⟨Ext.refl _, rfl⟩
        refine ⟨fun u hu hd => ?_, ?_⟩
        · simp only [Act.put, List.setIfInBounds_toArray, List.set_cons_zero, List.set_cons_succ]
          have e2 : f1 2 = .bool true := hd 2 (by kernel_rfl)
          have e4 : f1 4 = .pointer (some ⟨tn.b, 0, none⟩) := hd 4 (by kernel_rfl)
          go_simp
          exact ⟨Ext.refl _, rfl⟩
        refine ⟨fun u hu hd => ?_, ?_⟩
        · simp only [Act.put, List.setIfInBounds_toArray, List.set_cons_zero, List.set_cons_succ]
          have e2 : f1 2 = .bool true := hd 2 (by kernel_rfl)
          have e5 : f1 5 = .pointer (some ⟨tn.b, 0, none⟩) := hd 5 (by kernel_rfl)
          have hu2 := Ext.trans (Ext.drew w5) hu
          have q0 := ext_cell hu2 d0
          have q1 := ext_cell hu2 d1
          have q2 := ext_cell hu2 d2
          have q3 := ext_cell hu2 d3
          go_simp
          exact ⟨Ext.refl _, rfl⟩
        refine ⟨fun u hu hd => ?_, ?_⟩
        · simp only [Act.put, List.setIfInBounds_toArray, List.set_cons_zero, List.set_cons_succ]
          have e2 : f1 2 = .bool true := hd 2 (by kernel_rfl)
          have hu2 := Ext.trans (Ext.drew w5) hu
          have q0 := ext_cell hu2 c0
          have q1 := ext_cell hu2 c1
          have q2 := ext_cell hu2 c2
          have q3 := ext_cell hu2 c3
          go_simp
          exact ⟨Ext.refl _, rfl⟩
        refine ⟨fun u hu hd => ?_, ?_⟩
        · simp only [Act.put, List.setIfInBounds_toArray, List.set_cons_zero, List.set_cons_succ]
          have e2 : f1 2 = .bool true := hd 2 (by kernel_rfl)
          have e6 : f1 6 = .agg #[.slice gn.kA tn.e.key.length gn.kc, .int .i64 tn.e.seq, .int .i64 tn.e.kind, .slice gn.vA tn.e.val.length gn.vc] := hd 6 (by kernel_rfl)
          have e7 : f1 7 = .agg #[.slice g.kA x.key.length g.kc, .int .i64 x.seq, .int .i64 x.kind, .slice g.vA x.val.length g.vc] := hd 7 (by kernel_rfl)
          have hux := Ext.trans (Ext.drew w5) hu
          have hxx := Ext.trans HX5.out hux
          go_simp
          refine (compare_any (HEM.out.below hux (Nat.le_refl _)) (HM.out.below hxx HHI.out) hux.size (Nat.le_trans HHI.out hxx.size)).mono ?_
          rintro x9 w9b ⟨rfl, hx9⟩
          exact ⟨_, rfl, hx9, rfl⟩
        refine ⟨fun u hu hd => ?_, ?_⟩
        · simp only [Act.put, List.setIfInBounds_toArray, List.set_cons_zero, List.set_cons_succ]
          have e2 : f1 2 = .bool true := hd 2 (by kernel_rfl)
          have e8 : f1 8 = .int .i64 (cmpE tn.e x) := hd 8 (by kernel_rfl)
          have hzc := HZC.out.symm
          go_simp
          exact ⟨Ext.refl _, rfl⟩
        refine ⟨fun u hu hd => ?_, ?_⟩
        · simp only [Act.put, List.setIfInBounds_toArray, List.set_cons_zero, List.set_cons_succ]
          have e2 : f1 2 = .bool true := hd 2 (by kernel_rfl)
          have e9 : f1 9 = .bool zc := hd 9 (by kernel_rfl)
          go_simp
          exact ⟨Ext.refl _, rfl⟩
        trivial
end Go.Proofs.YtepaaffebhinlaaDoor
