/- Smem Iref Sfun Sbefore Schain, joined. -/
import Derived.Test.YtepaaffebhinlaaDoorOa2
import Derived.Test.YtepaaffebhinlaaDoorOa4
import Derived.LoopTactic
import Derived.BigQuiet
import Derived.ScopeJumps
import Derived.Deep.LoopGhost
import Derived.WalkMore
import Derived.Laws.ResultCell

/- The skiplist in memory: towers, each with its next ones; what keeps them. -/
namespace Go.Proofs.YtepaaffebhinlaaDoor
open Go.ChangeShapes Go.WideShapes Go.ChangeAt Go.RowKit

/-- A pointer that may be none. -/
def optp : Option Nat → Value
  | none => .pointer none
  | some b => .pointer (some ⟨b, 0, none⟩)
/-- A tower's cells: t, its entry's rows at g, how many came ahead of it; behind it the towers R. -/
def nextOf (t : Tw) (R : List Tw) (n : Nat) : Value := if n < t.h then optp (nxt n R) else .pointer none
def tcells (t : Tw) (g : Hd) (born : Int) (R : List Tw) : Array Value :=
  #[.slice g.kA t.e.key.length g.kc, .int .i64 t.e.seq, .int .i64 t.e.kind, .slice g.vA t.e.val.length g.vc, .int .i64 born, nextOf t R 0, nextOf t R 1, nextOf t R 2, nextOf t R 3, nextOf t R 4, nextOf t R 5, nextOf t R 6, nextOf t R 7]
theorem tcells_next (t : Tw) (g : Hd) (born : Int) (R : List Tw) {n : Nat} (h : n < 8) : (tcells t g born R)[5 + n]? = some (nextOf t R n) := by
  match n, h with
  | 0, _ => rfl
  | 1, _ => rfl
  | 2, _ => rfl
  | 3, _ => rfl
  | 4, _ => rfl
  | 5, _ => rfl
  | 6, _ => rfl
  | 7, _ => rfl
/-- A block of a skiplist's own: a tower, or the list itself. -/
def Skb (w : World) (i : Nat) : Prop := ∃ c fz, w.heap[i]? = some (.cells c 63 fz) ∨ w.heap[i]? = some (.cells c 49 fz)
/-- One tower in memory. -/
structure Tm (w : World) (D : Nat → Prop) (hi : Int) (t : Tw) (R : List Tw) : Prop where
  low : D t.b
  ex : ∃ (g : Hd) (born : Int), w.heap[t.b]? = some (.cells (tcells t g born R) 63 (0, 0)) ∧ 0 ≤ born ∧ (t.e.key = [] ∨ born < hi) ∧ Own 0 t.e.key (.slice g.kA t.e.key.length g.kc) w ∧ Own 0 t.e.val (.slice g.vA t.e.val.length g.vc) w ∧
    (∀ k, (Value.slice g.kA t.e.key.length g.kc).ownBlock = some k → D k) ∧ (∀ k, (Value.slice g.vA t.e.val.length g.vc).ownBlock = some k → D k)
theorem Own.em {B : Nat} {w : World} {e : Ent} {g : Hd} (hk : Own B e.key (.slice g.kA e.key.length g.kc) w) (hv : Own B e.val (.slice g.vA e.val.length g.vc) w) (h1 : ∀ x ∈ e.key, x < 256) (h2 : ∀ x ∈ e.val, x < 256)
    (s1 : -9223372036854775808 ≤ e.seq) (s2 : e.seq ≤ 9223372036854775807) (d1 : -9223372036854775808 ≤ e.kind) (d2 : e.kind ≤ 9223372036854775807) : Em w 0 w.heap.size e g :=
  ⟨hk.bs, hv.bs, h1, h2, s1, s2, d1, d2⟩
theorem Own.skb {B : Nat} {l : List Nat} {v : Value} {w : World} (h : Own B l v w) {g : Nat} (hg : v.ownBlock = some g) : ¬ Skb w g := by
  have h1 : w.ownsRow B 5 1 v l.length (bv l) := h
  obtain ⟨c0, hc0⟩ : ∃ cur, w.heap[g]? = some (.cells cur 5 (0, 0)) := by
    rcases h1.2 with ⟨rfl, _⟩ | ⟨g', cap, cur, hv, _, hh, _⟩
    · cases hg
    · rw [hv] at hg; injection hg with hg; subst hg; exact ⟨cur, hh⟩
  rintro ⟨c, fz, hc | hc⟩ <;> · rw [hc0] at hc; injection hc with hc; injection hc with _ h2 _; exact absurd h2 (by decide)
/-- Blocks of a skiplist's own, of D. -/
def Sks (D : Nat → Prop) (w : World) (i : Nat) : Prop := D i ∧ Skb w i
theorem Own.keep {B : Nat} {l : List Nat} {v : Value} {w w' : World} {D S : Nat → Prop} (h : Own B l v w) (hd : ∀ k, v.ownBlock = some k → D k) (hc : Chg S w w') (hS : ∀ k, S k → ¬ D k) : Own B l v w' :=
  row_kept h fun g hg => hc.block g (row_lt h g hg).2 (fun hs => hS g hs (hd g hg))
theorem Own.sks {B : Nat} {D : Nat → Prop} {l : List Nat} {v : Value} {w w' : World} (h : Own B l v w) (hc : Chg (Sks D w) w w') : Own B l v w' :=
  row_kept h fun g hg => hc.block g (row_lt h g hg).2 (fun hs => h.skb hg hs.2)
/-- Towers in a row. -/
def Chain (w : World) (D : Nat → Prop) (hi : Int) (H : List Tw) : Prop := ∀ i t, H[i]? = some t → Tm w D hi t (H.drop (i + 1))
theorem Tm.keep {w w' : World} {D S : Nat → Prop} {hi : Int} {t : Tw} {R : List Tw} (h : Tm w D hi t R) (hc : Chg S w w') (hS : ∀ k, S k → ¬ D k) : Tm w' D hi t R := by
  obtain ⟨h1, g, born, h2, h3, h4, h5, h6, h7, h8⟩ := h
  exact ⟨h1, g, born, (hc.block t.b (Array.getElem?_eq_some_iff.1 h2).1 (fun hs => hS _ hs h1)).trans h2, h3, h4, h5.keep h7 hc hS, h6.keep h8 hc hS, h7, h8⟩
theorem Tm.ext {w w' : World} {D : Nat → Prop} {hi : Int} {t : Tw} {R : List Tw} (h : Tm w D hi t R) (hx : Ext w w') : Tm w' D hi t R := h.keep (S := fun _ => False) (Chg.of_ext hx) (fun _ h => h.elim)
theorem Chain.ext {w w' : World} {D : Nat → Prop} {hi : Int} {H : List Tw} (h : Chain w D hi H) (hx : Ext w w') : Chain w' D hi H := fun i t ht => (h i t ht).ext hx
theorem Tm.lt {w : World} {D : Nat → Prop} {hi : Int} {t : Tw} {R : List Tw} (h : Tm w D hi t R) : t.b < w.heap.size := by
  obtain ⟨h1, g, born, h2, _⟩ := h
  exact (Array.getElem?_eq_some_iff.1 h2).1
theorem Tm.wide {w : World} {D D' : Nat → Prop} {hi hi' : Int} {t : Tw} {R : List Tw} (h : Tm w D hi t R) (hD : ∀ k, k < w.heap.size → D k → D' k) (hh : hi ≤ hi') : Tm w D' hi' t R := by
  have hlt := h.lt
  obtain ⟨h1, g, born, h2, h3, h4, h5, h6, h7, h8⟩ := h
  exact ⟨hD _ hlt h1, g, born, h2, h3, h4.imp id (fun h => by omega), h5, h6, fun k hk => hD k (row_lt h5 k hk).2 (h7 k hk), fun k hk => hD k (row_lt h6 k hk).2 (h8 k hk)⟩
/-- The head of a list: no entry, all levels. -/
def zeroE : Ent := ⟨[], 0, 0, []⟩
def headT (hb : Nat) : Tw := ⟨zeroE, hb, 8⟩
/-- An entry that is in a list: what its parts are bounded by. -/
structure InE (e : Ent) : Prop where
  bk : ∀ x ∈ e.key, x < 256
  bv : ∀ x ∈ e.val, x < 256
  may : e.may = true
theorem InE.s {e : Ent} (h : InE e) : 1 ≤ e.key.length ∧ e.key.length ≤ 32 ∧ 1 ≤ e.seq ∧ e.seq ≤ 2147483647 ∧ (e.kind = 1 ∧ e.val.length ≤ 65536 ∨ e.kind = 2 ∧ e.val.length = 0) := mayN_iff.1 h.may
/-- A skiplist. -/
structure Sk (w : World) (D : Nat → Prop) (lb hb : Nat) (T : List Tw) : Prop where
  lowl : D lb
  list : w.heap[lb]? = some (.cells #[.pointer (some ⟨hb, 0, none⟩), .int .i64 (T.length : Int), .int .i64 (bytesE (T.map Tw.e) : Int)] 49 (0, 0))
  chain : Chain w D T.length (headT hb :: T)
  nodup : ((headT hb :: T).map Tw.b).Nodup
  hts : ∀ t ∈ T, t.h = hgt t.e.key t.e.seq
  ins : ∀ t ∈ T, InE t.e
  asc : Asc (T.map Tw.e)
theorem Sk.keep {w w' : World} {D S : Nat → Prop} {lb hb : Nat} {T : List Tw} (h : Sk w D lb hb T) (hc : Chg S w w') (hS : ∀ k, S k → ¬ D k) : Sk w' D lb hb T :=
  ⟨h.lowl, (hc.block lb (Array.getElem?_eq_some_iff.1 h.list).1 (fun hs => hS _ hs h.lowl)).trans h.list, fun i t hi => (h.chain i t hi).keep hc hS, h.nodup, h.hts, h.ins, h.asc⟩
theorem Sk.ext {w w' : World} {D : Nat → Prop} {lb hb : Nat} {T : List Tw} (h : Sk w D lb hb T) (hx : Ext w w') : Sk w' D lb hb T := h.keep (S := fun _ => False) (Chg.of_ext hx) (fun _ h => h.elim)
theorem Sk.wide {w : World} {D D' : Nat → Prop} {lb hb : Nat} {T : List Tw} (h : Sk w D lb hb T) (hD : ∀ k, k < w.heap.size → D k → D' k) : Sk w D' lb hb T :=
  ⟨hD lb (Array.getElem?_eq_some_iff.1 h.list).1 h.lowl, h.list, fun i t hi => (h.chain i t hi).wide hD (Int.le_refl _), h.nodup, h.hts, h.ins, h.asc⟩
/-- The same, of blocks that are there. -/
theorem Sk.tight {w : World} {D : Nat → Prop} {lb hb : Nat} {T : List Tw} (h : Sk w D lb hb T) : Sk w (fun k => D k ∧ k < w.heap.size) lb hb T := h.wide fun _ hk hd => ⟨hd, hk⟩
theorem Tm.em {w : World} {D : Nat → Prop} {hi : Int} {t : Tw} {R : List Tw} (h : Tm w D hi t R) (hE : InE t.e) : ∃ (g : Hd) (born : Int), w.heap[t.b]? = some (.cells (tcells t g born R) 63 (0, 0)) ∧ 0 ≤ born ∧ born < hi ∧ Em w 0 w.heap.size t.e g := by
  obtain ⟨h1, g, born, h2, h3, h4, h5, h6, _⟩ := h
  obtain ⟨a1, a2, a3, a4, a5⟩ := hE.s
  exact ⟨g, born, h2, h3, h4.resolve_left (fun h => by rw [h] at a1; simp at a1), h5.em h6 hE.bk hE.bv (by omega) (by omega) (by rcases a5 with ⟨a, _⟩ | ⟨a, _⟩ <;> omega) (by rcases a5 with ⟨a, _⟩ | ⟨a, _⟩ <;> omega)⟩
end Go.Proofs.YtepaaffebhinlaaDoor

/- The reference: May, CompareKeys, Compare, Bytes; the law's long. -/
namespace Go.Proofs.YtepaaffebhinlaaDoor
open Go.ChangeShapes Go.WideShapes Go.ChangeAt Go.RowKit

set_option maxHeartbeats 1000000 in
theorem rmay_any (kA vA : Option Addr) (kn kc vn vc : Nat) (s d : Int) (w : World) : Calls Tryd.prog 47 #[.agg #[.slice kA kn kc, .int .i64 s, .int .i64 d, .slice vA vn vc]] w fun e w' => e = .returned (.bool (mayN kn s d vn)) ∧ Below w.heap.size w w' := by
  obtain ⟨m, hm⟩ : ∃ m, m = mayN kn s d vn := ⟨_, rfl⟩
  rw [← hm]
  have HX : Hid (Ext w (w.alloc (.cells #[.slice kA kn kc, .int .i64 s, .int .i64 d, .slice vA vn vc] 28))) := ext_alloc _ _
  by_cases h1 : kn < 1
  · obtain rfl : m = false := by rw [hm]; simp [mayN]; omega
    have d1 : decide ((kn : Int) < 1) = true := by simp; omega
    clear hm
    go_enter Tryd.func47, Tryd.ntmps47
    go_wp2_with fail
    go_ret
    exact ⟨rfl, HX.out⟩
  have d1 : decide ((kn : Int) < 1) = false := by simp; omega
  by_cases h2 : 32 < kn
  · obtain rfl : m = false := by rw [hm]; simp [mayN]; omega
    have d2 : decide ((32 : Int) < (kn : Int)) = true := by simp; omega
    clear hm
    go_enter Tryd.func47, Tryd.ntmps47
    go_wp2_with fail
    go_ret
    exact ⟨rfl, HX.out⟩
  have d2 : decide ((32 : Int) < (kn : Int)) = false := by simp; omega
  by_cases h3 : s < 1
  · obtain rfl : m = false := by rw [hm]; simp [mayN]; omega
    have d3 : decide (s < 1) = true := by simp; omega
    clear hm
    go_enter Tryd.func47, Tryd.ntmps47
    go_wp2_with fail
    go_ret
    exact ⟨rfl, HX.out⟩
  have d3 : decide (s < 1) = false := by simp; omega
  by_cases h4 : 2147483647 < s
  · obtain rfl : m = false := by rw [hm]; simp [mayN]; omega
    have d4 : decide ((2147483647 : Int) < s) = true := by simp; omega
    clear hm
    go_enter Tryd.func47, Tryd.ntmps47
    go_wp2_with fail
    go_ret
    exact ⟨rfl, HX.out⟩
  have d4 : decide ((2147483647 : Int) < s) = false := by simp; omega
  by_cases h5 : d = 1
  · subst h5
    by_cases hv : vn ≤ 65536
    · obtain rfl : m = true := by rw [hm, mayN_iff]; omega
      have dv : decide ((vn : Int) ≤ 65536) = true := by simp; omega
      have dvn : decide (vn ≤ 65536) = true := by simp; omega
      clear hm h1 h2 h3 h4 hv
      go_enter Tryd.func47, Tryd.ntmps47
      go_wp2_with fail
      go_ret
      exact ⟨rfl, HX.out⟩
    · obtain rfl : m = false := by rw [hm, Bool.eq_false_iff, ne_eq, mayN_iff]; omega
      have dv : decide ((vn : Int) ≤ 65536) = false := by simp; omega
      have dvn : decide (vn ≤ 65536) = false := by simp; omega
      clear hm h1 h2 h3 h4 hv
      go_enter Tryd.func47, Tryd.ntmps47
      go_wp2_with fail
      go_ret
      exact ⟨rfl, HX.out⟩
  have d5 : (d == 1) = false := by simpa using h5
  by_cases h6 : d = 2
  · subst h6
    obtain rfl : m = ((vn : Int) == 0) := by
      rw [hm, Bool.eq_iff_iff, mayN_iff, beq_iff_eq]; omega
    clear hm h1 h2 h3 h4
    go_enter Tryd.func47, Tryd.ntmps47
    go_wp2_with fail
    go_ret
    exact ⟨rfl, HX.out⟩
  have d6 : (d == 2) = false := by simpa using h6
  obtain rfl : m = false := by
    rw [hm, Bool.eq_false_iff, ne_eq, mayN_iff]; omega
  clear hm h1 h2 h3 h4
  go_enter Tryd.func47, Tryd.ntmps47
  go_wp2_with fail
  go_ret
  exact ⟨rfl, HX.out⟩

theorem cmpK_nil (b : List Nat) : cmpK [] b = if b.length = 0 then 0 else -1 := by cases b <;> simp [cmpK]
theorem cmpK_nil2 (a : List Nat) : cmpK a [] = if a.length = 0 then 0 else 1 := by cases a <;> simp [cmpK]
theorem cmpK_take {a b : List Nat} : ∀ {k : Nat}, k ≤ a.length → k ≤ b.length → a.take k = b.take k → cmpK a b = cmpK (a.drop k) (b.drop k)
  | 0, _, _, _ => by simp
  | k + 1, ha, hb, h => by
    cases a with
    | nil => simp at ha
    | cons x l =>
      cases b with
      | nil => simp at hb
      | cons y r =>
        simp only [List.take_succ_cons, List.cons.injEq] at h
        obtain ⟨rfl, h⟩ := h
        simp only [List.drop_succ_cons, cmpK]
        rw [if_neg (by omega), if_neg (by omega)]
        exact cmpK_take (by simpa using ha) (by simpa using hb) h

set_option maxRecDepth 100000 in
set_option maxHeartbeats 4000000 in
theorem rkeys_any {w : World} {lo hi lo2 hi2 : Nat} {u v : Value} {a b : List Nat} (hu : Bs w lo hi u a) (hv : Bs w lo2 hi2 v b) (ha : ∀ x ∈ a, x < 256) (hb : ∀ x ∈ b, x < 256) (h1 : hi ≤ w.heap.size) (h2 : hi2 ≤ w.heap.size) (hl1 : a.length ≤ 140737488351232) (hl2 : b.length ≤ 140737488351232) :
    Calls Tryd.prog 32 #[u, v] w fun e w' => e = .returned (.int .i64 (cmpK a b)) ∧ Ext w w' := by
  obtain ⟨X, c, rfl, _, _, _, hy1⟩ := hu
  obtain ⟨Y, d, rfl, _, _, _, hy2⟩ := hv
  have H1 := Lib.hid hy1
  have H2 := Lib.hid hy2
  have HHI := Lib.hid (And.intro h1 h2)
  have HBY := Lib.hid (And.intro ha hb)
  have HL := Lib.hid (And.intro hl1 hl2)
  obtain ⟨N, hN⟩ : ∃ N, N = a.length := ⟨_, rfl⟩
  obtain ⟨M, hM⟩ : ∃ M, M = b.length := ⟨_, rfl⟩
  rw [← hN, ← hM]
  have HN := Lib.hid (And.intro hN hM)
  obtain ⟨z, hz⟩ : ∃ z, z = cmpK a b := ⟨_, rfl⟩
  rw [← hz]
  have HZ := Lib.hid hz
  have hlI : (N : Int) ≤ 140737488351232 := by omega
  clear hy1 hy2 h1 h2 ha hb hl1 hl2 hN hM hz
  go_enter Tryd.func32, Tryd.ntmps32
  go_wp2_with fail
  go_loopw [5] (fun x wr => ∃ k : Nat, x = .int .i64 (k : Int) ∧ Hid (k ≤ a.length ∧ k ≤ b.length ∧ a.take k = b.take k) ∧ Hid (Ext w wr)) (fun x _ => N - (intOf x).toNat)
  case atStart => exact ⟨0, rfl, ⟨Nat.zero_le _, Nat.zero_le _, by simp⟩, Ext.refl _⟩
  case round =>
    obtain ⟨k, rfl, HK, HX⟩ := hrel
    by_cases hk1 : k < N
    · have d1 : decide ((k : Int) < (N : Int)) = true := by simp; omega
      have d1n : decide (k < N) = true := by simp; omega
      by_cases hk2 : k < M
      · have d2 : decide ((k : Int) < (M : Int)) = true := by simp; omega
        have d2n : decide (k < M) = true := by simp; omega
        have ha' : k < a.length := by have := HN.out.1; omega
        have hb' : k < b.length := by have := HN.out.2; omega
        obtain ⟨b1, o1, rfl, _, hlt1, q1⟩ := By.at_ H1.out ha'
        obtain ⟨b2, o2, rfl, _, hlt2, q2⟩ := By.at_ H2.out hb'
        replace q1 := ext_cell HX.out q1
        replace q2 := ext_cell HX.out q2
        obtain ⟨x, hx⟩ : ∃ x, x = a[k] := ⟨_, rfl⟩
        obtain ⟨y, hy⟩ : ∃ y, y = b[k] := ⟨_, rfl⟩
        rw [← hx] at q1
        rw [← hy] at q2
        have HXY : Hid (cmpK a b = if x < y then -1 else if y < x then 1 else cmpK (a.drop (k + 1)) (b.drop (k + 1))) := by
          unfold Hid
          rw [cmpK_take HK.out.1 HK.out.2.1 HK.out.2.2, List.drop_eq_getElem_cons ha', List.drop_eq_getElem_cons hb', ← hx, ← hy]
          rfl
        have HE : Hid (x = y → a.take (k + 1) = b.take (k + 1)) := fun e => by
          rw [List.take_succ_eq_append_getElem ha', List.take_succ_eq_append_getElem hb', ← hx, ← hy, HK.out.2.2, e]
        have HKK := Lib.hid (And.intro ha' hb')
        have HK1 := Lib.hid hk1
        have n1 : (0 : Int) ≤ (k : Int) := by omega
        have n2 : (k : Int) < (N : Int) := by omega
        have n3 : (k : Int) < (M : Int) := by omega
        clear hlt1 hlt2 hk1 hk2
        by_cases hlt : x < y
        · have e1 : decide ((x : Int) < (y : Int)) = true := by simp; omega
          have e1n : decide (x < y) = true := by simp; omega
          have HC : Hid (z = -1) := by rw [HZ.out, HXY.out, if_pos hlt]; rfl
          clear hx hy hlt ha' hb'
          go_wp2_with fail
          go_quiet (fail)
          go_wp2_with fail
          go_ret
          have := HC.out
          subst this
          exact ⟨rfl, below_drewN HX.out _⟩
        · have e1 : decide ((x : Int) < (y : Int)) = false := by simp; omega
          have e1n : decide (x < y) = false := by simp; omega
          by_cases hgt : y < x
          · have e2 : decide ((y : Int) < (x : Int)) = true := by simp; omega
            have e2n : decide (y < x) = true := by simp; omega
            have HC : Hid (z = 1) := by rw [HZ.out, HXY.out, if_neg hlt, if_pos hgt]; rfl
            clear hx hy hlt hgt ha' hb'
            go_wp2_with fail
            go_quiet (fail)
            go_wp2_with fail
            go_quiet (fail)
            go_wp2_with fail
            go_ret
            have := HC.out
            subst this
            exact ⟨rfl, below_drewN (below_drewN HX.out _) _⟩
          · have e2 : decide ((y : Int) < (x : Int)) = false := by simp; omega
            have e2n : decide (y < x) = false := by simp; omega
            have HEQ := Lib.hid (HE.out (by omega))
            clear hx hy hlt hgt ha' hb'
            go_wp2_with fail
            go_quiet (fail)
            go_wp2_with fail
            go_quiet (fail)
            go_wp2_with fail
            refine ⟨⟨k + 1, rfl, ⟨HKK.out.1, HKK.out.2, HEQ.out⟩, ?_⟩, ?_⟩
            · exact below_drewN HX.out _
            · have := HK1.out; simp [intOf]; omega
      · have d2 : decide ((k : Int) < (M : Int)) = false := by simp; omega
        have d2n : decide (k < M) = false := by simp; omega
        have HC : Hid (z = 1) := by
          have hkm : k = b.length := by have := HN.out.2; have := HK.out.2.1; omega
          unfold Hid
          rw [HZ.out, cmpK_take HK.out.1 HK.out.2.1 HK.out.2.2, hkm, List.drop_length, cmpK_nil2, List.length_drop, if_neg (by have := HN.out; omega)]
        have e1 : decide ((N : Int) < (M : Int)) = false := by simp; have := HN.out; have := HK.out; omega
        have e1n : decide (N < M) = false := by simp; have := HN.out; have := HK.out; omega
        have e2 : decide ((M : Int) < (N : Int)) = true := by simp; have := HN.out; have := HK.out; omega
        have e2n : decide (M < N) = true := by simp; have := HN.out; have := HK.out; omega
        clear hk1 hk2
        go_wp2_with fail
        go_ret
        have := HC.out
        subst this
        exact ⟨rfl, HX.out⟩
    · have d1 : decide ((k : Int) < (N : Int)) = false := by simp; omega
      have d1n : decide (k < N) = false := by simp; omega
      have hkm : k = a.length := by have := HN.out.1; have := HK.out.1; omega
      have HC : Hid (z = if M = N then 0 else -1) := by
        unfold Hid
        rw [HZ.out, cmpK_take HK.out.1 HK.out.2.1 HK.out.2.2, hkm, List.drop_length, cmpK_nil, List.length_drop, HN.out.1, HN.out.2]
        have h1 := HK.out.2.1
        by_cases h : b.length = a.length
        · rw [if_pos h, if_pos (by omega)]
        · rw [if_neg h, if_neg (by omega)]
      by_cases he : M = N
      · have e1 : decide ((N : Int) < (M : Int)) = false := by simp; omega
        have e1n : decide (N < M) = false := by simp; omega
        have e2 : decide ((M : Int) < (N : Int)) = false := by simp; omega
        have e2n : decide (M < N) = false := by simp; omega
        have HC2 : Hid (z = 0) := by rw [HC.out, if_pos he]; rfl
        clear hk1 he hkm
        go_wp2_with fail
        go_ret
        have := HC2.out
        subst this
        exact ⟨rfl, HX.out⟩
      · have e1 : decide ((N : Int) < (M : Int)) = true := by simp; have := HN.out; have := HK.out; omega
        have e1n : decide (N < M) = true := by simp; have := HN.out; have := HK.out; omega
        have HC2 : Hid (z = -1) := by rw [HC.out, if_neg he]; rfl
        clear hk1 he hkm
        go_wp2_with fail
        go_ret
        have := HC2.out
        subst this
        exact ⟨rfl, HX.out⟩

set_option maxHeartbeats 1000000 in
theorem rcompare_any {w : World} {lo hi lo2 hi2 : Nat} {a b : Ent} {g h : Hd} (hu : Em w lo hi a g) (hv : Em w lo2 hi2 b h) (h1 : hi ≤ w.heap.size) (h2 : hi2 ≤ w.heap.size) (hl1 : a.key.length ≤ 140737488351232) (hl2 : b.key.length ≤ 140737488351232) :
    Calls Tryd.prog 10 #[a.at_ g, b.at_ h] w fun e w' => e = .returned (.int .i64 (cmpE a b)) ∧ Ext w w' := by
  obtain ⟨z, hz⟩ : ∃ z, z = cmpE a b := ⟨_, rfl⟩
  rw [← hz]
  obtain ⟨w1, hw1⟩ : ∃ w1, w1 = (w.alloc (.cells #[.slice g.kA a.key.length g.kc, .int .i64 a.seq, .int .i64 a.kind, .slice g.vA a.val.length g.vc] 28)).alloc (.cells #[.slice h.kA b.key.length h.kc, .int .i64 b.seq, .int .i64 b.kind, .slice h.vA b.val.length h.vc] 28) := ⟨_, rfl⟩
  have HX : Hid (Ext w w1) := by rw [hw1]; exact Ext.trans (ext_alloc _ _) (ext_alloc _ _)
  have HK := Lib.hid (rkeys_any (hu.k.below HX.out h1) (hv.k.below HX.out h2) hu.bk hv.bk (Nat.le_trans h1 HX.out.size) (Nat.le_trans h2 HX.out.size) hl1 hl2)
  have b1 := ext_heap (ext_alloc (w.alloc (.cells #[.slice g.kA a.key.length g.kc, .int .i64 a.seq, .int .i64 a.kind, .slice g.vA a.val.length g.vc] 28)) (.cells #[.slice h.kA b.key.length h.kc, .int .i64 b.seq, .int .i64 b.kind, .slice h.vA b.val.length h.vc] 28)) (heap_at w (.cells #[.slice g.kA a.key.length g.kc, .int .i64 a.seq, .int .i64 a.kind, .slice g.vA a.val.length g.vc] 28) rfl)
  have b2 := heap_at (w.alloc (.cells #[.slice g.kA a.key.length g.kc, .int .i64 a.seq, .int .i64 a.kind, .slice g.vA a.val.length g.vc] 28)) (.cells #[.slice h.kA b.key.length h.kc, .int .i64 b.seq, .int .i64 b.kind, .slice h.vA b.val.length h.vc] 28) (k := w.heap.size + 1) (by simp)
  rw [← hw1] at b1 b2
  have q1 := cell_of b1 (k := 1) rfl
  have q2 := cell_of b2 (k := 1) rfl
  clear hu hv h1 h2 hl1 hl2 b1 b2
  obtain ⟨k, hk⟩ : ∃ k, k = cmpK a.key b.key := ⟨_, rfl⟩
  have hz2 : z = if k = 0 then cmpS a.seq b.seq else k := by rw [hz, hk]; rfl
  clear hz
  rw [← hk] at HK
  unfold Ent.at_
  by_cases h0 : k = 0
  · rw [if_pos h0] at hz2
    have d : (k != 0) = false := by simp [h0]
    unfold cmpS at hz2
    subst hw1
    clear hk h0
    by_cases hlt : b.seq < a.seq
    · rw [if_pos hlt] at hz2
      have e1 : decide (b.seq < a.seq) = true := by simp [hlt]
      clear hlt
      go_enter Tryd.func10, Tryd.ntmps10
      go_wp2_with fail
      refine Calls.mono HK.out ?_
      rintro e w' ⟨rfl, hx⟩
      have HX2 := Lib.hid hx
      have p1 := ext_cell hx q1
      have p2 := ext_cell hx q2
      clear hx q1 q2
      go_wp2_with fail
      go_ret
      subst hz2
      exact ⟨rfl, Ext.trans HX.out HX2.out⟩
    · rw [if_neg hlt] at hz2
      have e1 : decide (b.seq < a.seq) = false := by simp; omega
      by_cases hgt : a.seq < b.seq
      · rw [if_pos hgt] at hz2
        have e2 : decide (a.seq < b.seq) = true := by simp [hgt]
        clear hlt hgt
        go_enter Tryd.func10, Tryd.ntmps10
        go_wp2_with fail
        refine Calls.mono HK.out ?_
        rintro e w' ⟨rfl, hx⟩
        have HX2 := Lib.hid hx
        have p1 := ext_cell hx q1
        have p2 := ext_cell hx q2
        clear hx q1 q2
        go_wp2_with fail
        go_ret
        subst hz2
        exact ⟨rfl, Ext.trans HX.out HX2.out⟩
      · rw [if_neg hgt] at hz2
        have e2 : decide (a.seq < b.seq) = false := by simp; omega
        clear hlt hgt
        go_enter Tryd.func10, Tryd.ntmps10
        go_wp2_with fail
        refine Calls.mono HK.out ?_
        rintro e w' ⟨rfl, hx⟩
        have HX2 := Lib.hid hx
        have p1 := ext_cell hx q1
        have p2 := ext_cell hx q2
        clear hx q1 q2
        go_wp2_with fail
        go_ret
        subst hz2
        exact ⟨rfl, Ext.trans HX.out HX2.out⟩
  · rw [if_neg h0] at hz2
    have d : (k != 0) = true := by simp [h0]
    subst hw1
    clear hk h0
    go_enter Tryd.func10, Tryd.ntmps10
    go_wp2_with fail
    refine Calls.mono HK.out ?_
    rintro e w' ⟨rfl, hx⟩
    have HX2 := Lib.hid hx
    clear hx q1 q2
    go_wp2_with fail
    go_ret
    subst hz2
    exact ⟨rfl, Ext.trans HX.out HX2.out⟩
end Go.Proofs.YtepaaffebhinlaaDoor

/- The functions that tell what is ahead; New, none. -/
namespace Go.Proofs.YtepaaffebhinlaaDoor
open Go.ChangeShapes Go.WideShapes Go.ChangeAt Go.RowKit Go.Shelf

/-- What a function over entries answers. -/
structure AheadFn (w : World) (gf : Nat) (lb : Array Value) (q : Ent → Bool) : Prop where
  enters : ∀ args W, (callFunc gf args).run Tryd.prog W = .ok (.enter gf args) W
  calls : ∀ (W : World) (e : Ent) (g : Hd) (lo hi : Nat), Ext w W → Em W lo hi e g → hi ≤ W.heap.size → Calls Tryd.prog gf (#[e.at_ g] ++ lb) W fun x W' => x = .returned (.bool (q e)) ∧ Ext W W'
theorem AheadFn.ext {w w' : World} {gf : Nat} {lb : Array Value} {q : Ent → Bool} (h : AheadFn w gf lb q) (hx : Ext w w') : AheadFn w' gf lb q := ⟨h.enters, fun W e g lo hi hW => h.calls W e g lo hi (Ext.trans hx hW)⟩

theorem nobody_fn (w : World) : AheadFn w 41 #[] nobodyE := by
  refine ⟨enters_of Tryd.func41 (by kernel_rfl) rfl, fun W e g lo hi _ _ _ => ?_⟩
  have HX := Lib.hid (ext_alloc W (.cells #[.slice g.kA e.key.length g.kc, .int .i64 e.seq, .int .i64 e.kind, .slice g.vA e.val.length g.vc] 28))
  show Calls Tryd.prog _ #[e.at_ g] W _
  unfold Ent.at_
  go_enter Tryd.func41, Tryd.ntmps41
  go_wp2
  go_ret
  exact ⟨rfl, HX.out⟩

set_option maxHeartbeats 1000000 in
theorem ahead1_fn {w : World} {lo hi p kc : Nat} {kA : Option Addr} {key : List Nat} {s : Int} (hk : Bs w lo hi (.slice kA key.length kc) key) (hhi : hi ≤ w.heap.size) (bk : ∀ x ∈ key, x < 256) (s1 : -9223372036854775808 ≤ s) (s2 : s ≤ 9223372036854775807)
    (hb : w.heap[p]? = some (.cells #[.slice kA key.length kc, .int .i64 s, .int .i64 0, .slice none 0 0] 28 (0, 0))) : AheadFn w 49 #[.pointer (some ⟨p, 0, none⟩)] (aheadE key s) := by
  refine ⟨enters_of Tryd.func49 (by kernel_rfl) rfl, fun W e g lo' hi' hW hm hh => ?_⟩
  obtain ⟨w1, hw1⟩ : ∃ w1, w1 = W.alloc (.cells #[.slice g.kA e.key.length g.kc, .int .i64 e.seq, .int .i64 e.kind, .slice g.vA e.val.length g.vc] 28) := ⟨_, rfl⟩
  have HX : Hid (Ext W w1) := by rw [hw1]; exact ext_alloc _ _
  have hwx := Ext.trans hW HX.out
  have hpl : Em w1 lo hi ⟨key, s, 0, []⟩ ⟨kA, kc, none, 0⟩ := ⟨hk.below hwx hhi, (Bs.nil _ _ _), bk, by simp, s1, s2, by show (-9223372036854775808 : Int) ≤ 0; omega, by show (0 : Int) ≤ 9223372036854775807; omega⟩
  have HC := Lib.hid (compare_any (hm.below HX.out hh) hpl (Nat.le_trans hh HX.out.size) (Nat.le_trans hhi hwx.size))
  unfold Ent.at_ at HC
  have hb1 := ext_heap hwx hb
  have hb2 : w1.heap[W.heap.size]? = some (.cells #[.slice g.kA e.key.length g.kc, .int .i64 e.seq, .int .i64 e.kind, .slice g.vA e.val.length g.vc] 28 (0, 0)) := by rw [hw1]; exact heap_at _ _ rfl
  have c0 := cell_of hb1 (k := 0) rfl
  have c1 := cell_of hb1 (k := 1) rfl
  have c2 := cell_of hb1 (k := 2) rfl
  have c3 := cell_of hb1 (k := 3) rfl
  have d0 := cell_of hb2 (k := 0) rfl
  have d1 := cell_of hb2 (k := 1) rfl
  have d2 := cell_of hb2 (k := 2) rfl
  have d3 := cell_of hb2 (k := 3) rfl
  clear hb hb1 hb2 hwx hpl hk hhi bk s1 s2 hW hm hh
  show Calls Tryd.prog _ #[e.at_ g, .pointer (some ⟨p, 0, none⟩)] W _
  unfold Ent.at_
  have HQ : Hid (aheadE key s e = decide (cmpE e ⟨key, s, 0, []⟩ < 0)) := rfl
  rw [HQ.out]
  go_enter Tryd.func49, Tryd.ntmps49
  subst hw1
  go_wp2_with fail
  refine Calls.mono HC.out ?_
  rintro x w2 ⟨rfl, hx2⟩
  have HX2 := Lib.hid hx2
  clear hx2 c0 c1 c2 c3 d0 d1 d2 d3
  go_wp2_with fail
  go_ret
  exact ⟨rfl, Ext.trans HX.out HX2.out⟩

set_option maxHeartbeats 1000000 in
theorem from1_fn {w : World} {lo hi p kc : Nat} {kA : Option Addr} {key : List Nat} (hk : Bs w lo hi (.slice kA key.length kc) key) (hhi : hi ≤ w.heap.size) (bk : ∀ x ∈ key, x < 256)
    (hb : w.heap[p]? = some (.cells #[.slice kA key.length kc] 25 (0, 0))) : AheadFn w 45 #[.pointer (some ⟨p, 0, none⟩)] (belowK key) := by
  refine ⟨enters_of Tryd.func45 (by kernel_rfl) rfl, fun W e g lo' hi' hW hm hh => ?_⟩
  obtain ⟨w1, hw1⟩ : ∃ w1, w1 = W.alloc (.cells #[.slice g.kA e.key.length g.kc, .int .i64 e.seq, .int .i64 e.kind, .slice g.vA e.val.length g.vc] 28) := ⟨_, rfl⟩
  have HX : Hid (Ext W w1) := by rw [hw1]; exact ext_alloc _ _
  have hwx := Ext.trans hW HX.out
  have HC := Lib.hid (keys_any (hm.k.below HX.out hh) (hk.below hwx hhi) hm.bk bk)
  have hb1 := ext_heap hwx hb
  have hb2 : w1.heap[W.heap.size]? = some (.cells #[.slice g.kA e.key.length g.kc, .int .i64 e.seq, .int .i64 e.kind, .slice g.vA e.val.length g.vc] 28 (0, 0)) := by rw [hw1]; exact heap_at _ _ rfl
  have c0 := cell_of hb1 (k := 0) rfl
  have d0 := cell_of hb2 (k := 0) rfl
  clear hb hb1 hb2 hwx hk hhi bk hW hm hh
  show Calls Tryd.prog _ #[e.at_ g, .pointer (some ⟨p, 0, none⟩)] W _
  unfold Ent.at_
  have HQ : Hid (belowK key e = decide (cmpK e.key key < 0)) := rfl
  rw [HQ.out]
  go_enter Tryd.func45, Tryd.ntmps45
  subst hw1
  go_wp2_with fail
  refine Calls.mono HC.out ?_
  rintro x w2 ⟨rfl, rfl⟩
  clear c0 d0
  go_wp2_with fail
  go_ret
  exact ⟨rfl, HX.out⟩

theorem aheadOf_any (kA : Option Addr) (kn kc : Nat) (s : Int) (w : World) : Calls Tryd.prog 36 #[.slice kA kn kc, .int .i64 s] w fun x w' => x = .returned (.func (.func 49) #[] #[.pointer (some ⟨w.heap.size, 0, none⟩)]) ∧ w' = w.alloc (.cells #[.slice kA kn kc, .int .i64 s, .int .i64 0, .slice none 0 0] 28) := by
  go_enter Tryd.func36, Tryd.ntmps36
  go_wp2
  go_ret
  exact ⟨rfl, rfl⟩

/-- A list that is there. -/
theorem none_no {w : World} {lb : Nat} {x y : Value} {h : Addr} (hl : w.heap[lb]? = some (.cells #[.pointer (some h), x, y] 49 (0, 0))) : Calls Tryd.prog 29 #[.pointer (some ⟨lb, 0, none⟩)] w fun e w' => e = .returned (.bool false) ∧ w' = w := by
  have c0 := cell_of hl (k := 0) rfl
  clear hl
  go_enter Tryd.func29, Tryd.ntmps29
  go_wp2
  go_ret
  exact ⟨rfl, rfl⟩
theorem none_nil (w : World) : Calls Tryd.prog 29 #[.pointer none] w fun e w' => e = .returned (.bool true) ∧ w' = w := by
  go_enter Tryd.func29, Tryd.ntmps29
  go_wp2
  go_ret
  exact ⟨rfl, rfl⟩
theorem none_zero {w : World} {lb : Nat} (hl : w.cell? ⟨lb, 0, none⟩ = some (.pointer none)) : Calls Tryd.prog 29 #[.pointer (some ⟨lb, 0, none⟩)] w fun e w' => e = .returned (.bool true) ∧ w' = w := by
  go_enter Tryd.func29, Tryd.ntmps29
  go_wp2
  go_ret
  exact ⟨rfl, rfl⟩

theorem new_any (w : World) : Calls Tryd.prog 13 #[] w fun e w' => e = .returned (.pointer (some ⟨w.heap.size + 1, 0, none⟩)) ∧ Sk w' (Frm w.heap.size) (w.heap.size + 1) w.heap.size [] ∧ Ext w w' := by
  obtain ⟨w2, hw2⟩ : ∃ w2, w2 = (w.alloc (.cells (tcells (headT w.heap.size) ⟨none, 0, none, 0⟩ 0 []) 63)).alloc (.cells #[.pointer (some ⟨w.heap.size, 0, none⟩), .int .i64 0, .int .i64 0] 49) := ⟨_, rfl⟩
  have HX : Hid (Ext w w2) := by rw [hw2]; exact Ext.trans (ext_alloc _ _) (ext_alloc _ _)
  have hs : Sk w2 (Frm w.heap.size) (w.heap.size + 1) w.heap.size [] := by
    refine ⟨Nat.le_succ _, by rw [hw2]; exact heap_at _ _ (by simp), fun i t ht => ?_, by simp, by simp, by simp, List.Pairwise.nil⟩
    cases i with
    | zero =>
      simp at ht
      subst ht
      refine ⟨Nat.le_refl _, ⟨none, 0, none, 0⟩, 0, by rw [hw2]; exact ext_heap (ext_alloc _ _) (heap_at _ _ rfl), Int.le_refl _, .inl rfl, World.ownsRow_nil _ _ _ _, World.ownsRow_nil _ _ _ _, fun k hk => (by cases hk), fun k hk => (by cases hk)⟩
    | succ i => simp at ht
  have HS := Lib.hid hs
  clear hs
  have HE : Hid (tcells (headT w.heap.size) ⟨none, 0, none, 0⟩ 0 [] = #[.slice none 0 0, .int .i64 0, .int .i64 0, .slice none 0 0, .int .i64 0, .pointer none, .pointer none, .pointer none, .pointer none, .pointer none, .pointer none, .pointer none, .pointer none]) := rfl
  rw [HE.out] at hw2
  go_enter Tryd.func13, Tryd.ntmps13
  go_wp2
  rw [← hw2]
  go_ret
  exact ⟨rfl, HS.out, HX.out⟩
end Go.Proofs.YtepaaffebhinlaaDoor

/- before: of each level the last tower that is ahead. -/
namespace Go.Proofs.YtepaaffebhinlaaDoor
open Go.ChangeShapes Go.WideShapes Go.ChangeAt Go.RowKit

theorem wp_scope_down {P : Program} {a : Act} {w : World} {Q : Exit → Act → World → Prop} {c X : Code} (l : Nat) (J : Act → World → Prop) (μ : Act → World → Nat) (hf : findLabel c l = some (Code.skip.seq X))
    (pass : ∀ a w, J a w → X.wp P (Exit.jump l (fun a' w' => J a' w' ∧ μ a' w' < μ a w) Q) a w)
    (first : (∀ a w, J a w → X.wp P (Exit.jump l J Q) a w) → c.wp P (Exit.jump l J Q) a w) : (Code.scope c).wp P Q a w := by
  refine wp_scope_jumps l J μ hf (first fun a w h => wp_mono (pass a w h) ?_) (fun a w h => wp_seq (wp_skip (pass a w h)))
  intro e a' w' hq
  cases e <;> first | exact hq | exact ⟨hq.1, hq.2.1⟩

/-- The block of the i-th tower. -/
def bAt (H : List Tw) (i : Nat) : Nat := match H[i]? with | some t => t.b | none => 0
theorem bAt_of {H : List Tw} {i : Nat} {t : Tw} (h : H[i]? = some t) : bAt H i = t.b := by unfold bAt; rw [h]
/-- What is known of the levels from n on. -/
def lastV (H : List Tw) (f : Nat → Nat) (n m : Nat) : Value := if n ≤ m then .pointer (some ⟨bAt H (f m), 0, none⟩) else .pointer none
def lastA (H : List Tw) (f : Nat → Nat) (n : Nat) : Array Value := #[lastV H f n 0, lastV H f n 1, lastV H f n 2, lastV H f n 3, lastV H f n 4, lastV H f n 5, lastV H f n 6, lastV H f n 7]
theorem lastA_all (H : List Tw) (f : Nat → Nat) : lastA H f 0 = #[.pointer (some ⟨bAt H (f 0), 0, none⟩), .pointer (some ⟨bAt H (f 1), 0, none⟩), .pointer (some ⟨bAt H (f 2), 0, none⟩), .pointer (some ⟨bAt H (f 3), 0, none⟩), .pointer (some ⟨bAt H (f 4), 0, none⟩), .pointer (some ⟨bAt H (f 5), 0, none⟩), .pointer (some ⟨bAt H (f 6), 0, none⟩), .pointer (some ⟨bAt H (f 7), 0, none⟩)] := by
  simp [lastA, lastV]
theorem lastA_none (H : List Tw) (f : Nat → Nat) : lastA H f 8 = #[.pointer none, .pointer none, .pointer none, .pointer none, .pointer none, .pointer none, .pointer none, .pointer none] := by
  simp [lastA, lastV]
/-- One level more. -/
def upd (f : Nat → Nat) (n i : Nat) : Nat → Nat := fun m => if m = n then i else f m
theorem lastA_upd (H : List Tw) (f : Nat → Nat) {n i : Nat} {t : Tw} (hn : n < 8) (hi : H[i]? = some t) : (lastA H f (n + 1)).setIfInBounds n (.pointer (some ⟨t.b, 0, none⟩)) = lastA H (upd f n i) n := by
  have key : ∀ m, m ≠ n → lastV H f (n + 1) m = lastV H (upd f n i) n m := fun m hm => by
    unfold lastV upd
    rw [if_neg hm]
    by_cases h : n + 1 ≤ m
    · rw [if_pos h, if_pos (by omega)]
    · rw [if_neg h, if_neg (by omega)]
  have hit : lastV H (upd f n i) n n = .pointer (some ⟨t.b, 0, none⟩) := by
    unfold lastV upd
    rw [if_pos (Nat.le_refl _), if_pos rfl, bAt_of hi]
  unfold lastA
  match n, hn with
  | 0, _ => simp [← hit, key]
  | 1, _ => simp [← hit, key]
  | 2, _ => simp [← hit, key]
  | 3, _ => simp [← hit, key]
  | 4, _ => simp [← hit, key]
  | 5, _ => simp [← hit, key]
  | 6, _ => simp [← hit, key]
  | 7, _ => simp [← hit, key]

/-- From here the next one in the level is not ahead: it is the last. -/
theorem last_none {H : List Tw} {p n i : Nat} {t : Tw} (hi : i < p) (ht : H[i]? = some t) (hn : n < t.h) (h : nxt n (H.drop (i + 1)) = none) : LastAt H p n i :=
  ⟨hi, ⟨t, ht, hn⟩, fun j t' hij _ hj => nxt_none h t' (List.mem_of_getElem? (i := j - (i + 1)) (by rw [List.getElem?_drop]; rw [show i + 1 + (j - (i + 1)) = j by omega]; exact hj))⟩
theorem next_some {H : List Tw} {n i b : Nat} (h : nxt n (H.drop (i + 1)) = some b) : ∃ (j : Nat) (t : Tw), i < j ∧ H[j]? = some t ∧ t.b = b ∧ n < t.h ∧ ∀ (k : Nat) (t' : Tw), i < k → k < j → H[k]? = some t' → t'.h ≤ n := by
  obtain ⟨j, t, h1, h2, h3, h4⟩ := nxt_some h
  rw [List.getElem?_drop] at h1
  exact ⟨i + 1 + j, t, by omega, h1, h2, h3, fun k t' hk hkj ht' => h4 (k - (i + 1)) t' (by omega) (by rw [List.getElem?_drop, show i + 1 + (k - (i + 1)) = k by omega]; exact ht')⟩

/-- What before answers. -/
def BeforeAns (w : World) (H : List Tw) (p : Nat) (e : Ending) (w' : World) : Prop :=
  Ext w w' ∧ ∃ f : Nat → Nat, (∀ n, n < 8 → LastAt H p n (f n)) ∧ e = .returned (.agg #[.pointer (some ⟨bAt H (f 0), 0, none⟩), .pointer (some ⟨bAt H (f 1), 0, none⟩), .pointer (some ⟨bAt H (f 2), 0, none⟩), .pointer (some ⟨bAt H (f 3), 0, none⟩), .pointer (some ⟨bAt H (f 4), 0, none⟩), .pointer (some ⟨bAt H (f 5), 0, none⟩), .pointer (some ⟨bAt H (f 6), 0, none⟩), .pointer (some ⟨bAt H (f 7), 0, none⟩)])

/-- What stands at the label. -/
def BefJ (w : World) (lb gf : Nat) (caps : Array Value) (H : List Tw) (p : Nat) (a' : Act) (w' : World) : Prop :=
  ∃ (n i : Nat) (f : Nat → Nat) (t : Tw) (u2 u3 u8 u9 u10 u11 u12 u13 u14 u15 u16 u17 u18 u19 u20 u21 u22 u23 u24 u25 u26 u27 u28 u29 u30 u31 u32 u33 u34 u35 u36 u37 u38 u39 u40 u41 u42 u43 u44 u45 : Value), a' = { tmps := #[.pointer (some ⟨lb, 0, none⟩), .func (.func gf) #[] caps, u2, u3, .pointer (some ⟨w.heap.size, 0, none⟩), .pointer (some ⟨w.heap.size + 1, 0, none⟩), .pointer (some ⟨t.b, 0, none⟩), .int .i64 (n : Int), u8, u9, u10, u11, u12, u13, u14, u15, u16, u17, u18, u19, u20, u21, u22, u23, u24, u25, u26, u27, u28, u29, u30, u31, u32, u33, u34, u35, u36, u37, u38, u39, u40, u41, u42, u43, u44, u45], defers := [] } ∧
    n < 8 ∧ i < p ∧ H[i]? = some t ∧ n < t.h ∧ (∀ m, n < m → m < 8 → LastAt H p m (f m)) ∧ w'.heap[w.heap.size + 1]? = some (.cells (lastA H f (n + 1)) 61 (0, 0)) ∧ w'.heap[w.heap.size]? = some (.cells #[.pointer none, .pointer none, .pointer none, .pointer none, .pointer none, .pointer none, .pointer none, .pointer none] 61 (0, 0)) ∧ Ext w w'

theorem arr_ret {fn : Func} {tmps : Array Value} {w : World} {g : Nat} {p : Tmp} {c : Array Value} {R : Ending → World → Prop} (hr : fn.results = #[.cell p 61]) (h2 : tmps.getD p undef = .pointer (some ⟨g, 0, none⟩))
    (hc : c.size = 8) (hg : w.heap[g]? = some (.cells c 61 (0, 0))) (h : R (.returned (.agg c)) w) : bodyPost Tryd.prog fn R .ret { tmps := tmps, defers := [] } w := by
  have hi : (Tryd.prog.info? 61).map (·.size) = some 8 := by kernel_rfl
  exact ⟨rfl, .agg c, results_cell_row hr _ _ _ _ _ _ _ h2 hg Tryd.underlying61 rfl (by rw [hc]; exact hi), h⟩
theorem arr_eight {c : Array Value} (hc : c.size = 8) (v0 v1 v2 v3 v4 v5 v6 v7 : Value) : ((((((((c.setIfInBounds 0 v0).setIfInBounds 1 v1).setIfInBounds 2 v2).setIfInBounds 3 v3).setIfInBounds 4 v4).setIfInBounds 5 v5).setIfInBounds 6 v6).setIfInBounds 7 v7) = #[v0, v1, v2, v3, v4, v5, v6, v7] := by
  obtain ⟨l⟩ := c
  simp only [List.setIfInBounds_toArray]
  congr 1
  replace hc : l.length = 8 := hc
  rcases l with _ | ⟨a0, _ | ⟨a1, _ | ⟨a2, _ | ⟨a3, _ | ⟨a4, _ | ⟨a5, _ | ⟨a6, _ | ⟨a7, _ | ⟨a8, l⟩⟩⟩⟩⟩⟩⟩⟩⟩
  all_goals first | rfl | (simp at hc)
theorem set_eight {u : World} {g : Nat} {c : Array Value} {ty : TypeId} (hc : c.size = 8) (v0 v1 v2 v3 v4 v5 v6 v7 : Value) (h : u.heap[g]? = some (.cells c ty (0, 0))) :
    ((((((((u.setCell ⟨g, 0, none⟩ v0).setCell ⟨g, 1, none⟩ v1).setCell ⟨g, 2, none⟩ v2).setCell ⟨g, 3, none⟩ v3).setCell ⟨g, 4, none⟩ v4).setCell ⟨g, 5, none⟩ v5).setCell ⟨g, 6, none⟩ v6).setCell ⟨g, 7, none⟩ v7).heap[g]? = some (.cells #[v0, v1, v2, v3, v4, v5, v6, v7] ty (0, 0)) := by
  rw [← arr_eight hc v0 v1 v2 v3 v4 v5 v6 v7]
  exact heap_setCell_same _ g 7 _ _ v7 (heap_setCell_same _ g 6 _ _ v6 (heap_setCell_same _ g 5 _ _ v5 (heap_setCell_same _ g 4 _ _ v4 (heap_setCell_same _ g 3 _ _ v3 (heap_setCell_same _ g 2 _ _ v2 (heap_setCell_same _ g 1 _ _ v1 (heap_setCell_same _ g 0 _ _ v0 h)))))))

set_option maxRecDepth 100000 in
set_option maxHeartbeats 8000000 in
theorem before_any {w : World} {D : Nat → Prop} {lb hb gf : Nat} {caps : Array Value} {T : List Tw} {q : Ent → Bool} (h : Sk w D lb hb T) (hA : AheadFn w gf caps q) (hq : (T.map Tw.e).Pairwise fun a b => q b = true → q a = true) :
    Calls Tryd.prog 35 #[.pointer (some ⟨lb, 0, none⟩), .func (.func gf) #[] caps] w (BeforeAns w (headT hb :: T) (1 + cutOf q (T.map Tw.e))) := by
  obtain ⟨H, hH⟩ : ∃ H, H = headT hb :: T := ⟨_, rfl⟩
  obtain ⟨p, hp⟩ : ∃ p, p = 1 + cutOf q (T.map Tw.e) := ⟨_, rfl⟩
  have hcut : ∀ (j : Nat) (t : Tw), 1 ≤ j → H[j]? = some t → (q t.e = true ↔ j < p) := fun j t hj ht => by
    rw [hH] at ht
    obtain ⟨k, rfl⟩ : ∃ k, j = k + 1 := ⟨j - 1, by omega⟩
    rw [List.getElem?_cons_succ] at ht
    rw [cut_iff hq (j := k) (by rw [List.getElem?_map, ht]; rfl), hp]
    omega
  have hin : ∀ (j : Nat) (t : Tw), 1 ≤ j → H[j]? = some t → InE t.e := fun j t hj ht => by
    rw [hH] at ht
    obtain ⟨k, rfl⟩ : ∃ k, j = k + 1 := ⟨j - 1, by omega⟩
    rw [List.getElem?_cons_succ] at ht
    exact h.ins t (List.mem_of_getElem? ht)
  have HCUT := Lib.hid hcut
  have HIN := Lib.hid hin
  have HCH : Hid (Chain w D T.length H) := by rw [hH]; exact h.chain
  have HAF := Lib.hid hA
  have H00 : Hid (H[0]? = some (headT hb) ∧ 0 < p) := ⟨by rw [hH]; rfl, by omega⟩
  have c0 := cell_new (cell_new (cell_of (v := .pointer (some ⟨hb, 0, none⟩)) h.list (k := 0) rfl) (.cells #[.pointer none, .pointer none, .pointer none, .pointer none, .pointer none, .pointer none, .pointer none, .pointer none] 61)) (.cells #[.pointer none, .pointer none, .pointer none, .pointer none, .pointer none, .pointer none, .pointer none, .pointer none] 61)
  have HLB : Hid (lb < w.heap.size) := (Array.getElem?_eq_some_iff.1 h.list).1
  rw [← hH, ← hp]
  clear hcut hin h hA hq hH hp
  go_enter Tryd.func35, Tryd.ntmps35
  go_wp2
  refine wp_scope_down 0 (BefJ w lb gf caps H p) (fun a' _ => (intOf (a'.tmps.getD 7 undef)).toNat) rfl ?pass ?first
  case first =>
    intro hpass
    have HP := Lib.hid hpass
    clear hpass
    go_wp2
    go_step3
    rename_i Kx hKx
    refine hKx _ _ (HP.out _ _ ⟨7, 0, fun _ => 0, headT hb, _, _, _, _, _, _, _, _, _, _, _, _, _, _, _, _, _, _, _, _, _, _, _, _, _, _, _, _, _, _, _, _, _, _, _, _, _, _, _, _, rfl, by decide, H00.out.2, H00.out.1, Nat.lt_succ_self 7, fun m h1 h2 => by omega, ?_, ?_, ?_⟩)
    · rw [lastA_none]; exact heap_at _ _ (by simp)
    · exact ext_heap (ext_alloc _ _) (heap_at _ _ rfl)
    · exact Ext.trans (ext_alloc _ _) (ext_alloc _ _)
  case pass =>
    rintro a' w' ⟨n, i, f, t, u2, u3, u8, u9, u10, u11, u12, u13, u14, u15, u16, u17, u18, u19, u20, u21, u22, u23, u24, u25, u26, u27, u28, u29, u30, u31, u32, u33, u34, u35, u36, u37, u38, u39, u40, u41, u42, u43, u44, u45, rfl, hn, hi, ht, hth, hf, hL, hR, hx⟩
    have HN := Lib.hid hn
    have HF := Lib.hid hf
    have HL := Lib.hid hL
    have HR := Lib.hid hR
    have HX := Lib.hid hx
    have HT := Lib.hid (And.intro hi (And.intro ht hth))
    clear hf hL hR hx hi ht hth
    go_wp2
    rename_i Kx hKx
    have HK := Lib.hid hKx
    clear hKx
    have htail : ∀ (i : Nat) (t : Tw) (wr : World) (v12 v13 v14 v15 v16 v17 v18 v19 v20 v21 v22 v23 v24 v25 v26 v27 v28 v29 v30 v31 v32 v33 v34 v35 v36 v37 : Value), H[i]? = some t → n < t.h → LastAt H p n i → Ext w' wr →
        Kx { tmps := #[.pointer (some ⟨lb, 0, none⟩), .func (.func gf) #[] caps, u2, u3, .pointer (some ⟨w.heap.size, 0, none⟩), .pointer (some ⟨w.heap.size + 1, 0, none⟩), .pointer (some ⟨t.b, 0, none⟩), .int .i64 (n : Int), u8, u9, u10, u11, v12, v13, v14, v15, v16, v17, v18, v19, v20, v21, v22, v23, v24, v25, v26, v27, v28, v29, v30, v31, v32, v33, v34, v35, v36, v37, u38, u39, u40, u41, u42, u43, u44, u45], defers := [] } wr := by
      intro i t wr v12 v13 v14 v15 v16 v17 v18 v19 v20 v21 v22 v23 v24 v25 v26 v27 v28 v29 v30 v31 v32 v33 v34 v35 v36 v37 ht hth hlast hxr
      have hL2 := ext_heap hxr HL.out
      have qn : wr.cell? ⟨w.heap.size + 1, n, none⟩ = some ((lastA H f (n + 1)).getD n undef) := cell_of hL2 (by have := HN.out; simp [Array.getD, lastA, this])
      have zn : wr.frozen? ⟨w.heap.size + 1, n, none⟩ = false := frozen_four hL2
      have n1 : (0 : Int) ≤ (n : Int) := by omega
      have n2 : (n : Int) < 8 := by have := HN.out; omega
      have n3 : n < 8 := HN.out
      obtain ⟨w2, hw2⟩ : ∃ w2, w2 = wr.setCell ⟨w.heap.size + 1, n, none⟩ (.pointer (some ⟨t.b, 0, none⟩)) := ⟨_, rfl⟩
      have HL3 : Hid (w2.heap[w.heap.size + 1]? = some (.cells (lastA H (upd f n i) n) 61 (0, 0))) := by rw [hw2]; unfold Hid; rw [heap_setCell_same _ _ _ _ _ _ hL2, lastA_upd H f HN.out ht]
      have HX3 : Hid (Ext w w2) := by rw [hw2]; exact Below.setCell (Ext.trans HX.out hxr) (by simp) _
      have HR3 : Hid (w2.heap[w.heap.size]? = some (.cells #[.pointer none, .pointer none, .pointer none, .pointer none, .pointer none, .pointer none, .pointer none, .pointer none] 61 (0, 0))) := by rw [hw2]; exact (Below.heap_setCell _ _ _ _ (by simp)).trans (ext_heap hxr HR.out)
      have HTT := Lib.hid (And.intro ht hth)
      have HLA : Hid (∀ m, n ≤ m → m < 8 → LastAt H p m (upd f n i m)) := fun m h1 h2 => by
        unfold upd
        by_cases he : m = n
        · rw [if_pos he, he]; exact hlast
        · rw [if_neg he]; exact HF.out m (by omega) h2
      have hltp : i < p := hlast.lt
      clear hL2 ht hth hlast hxr
      refine HK.out _ _ ?_
      dsimp only
      go_upto_region 6 with (fail)
      rw [← hw2]
      clear hw2 qn zn
      cases n with
      | zero =>
        have e3 : lastA H (upd f 0 i) 0 = #[.pointer (some ⟨bAt H (upd f 0 i 0), 0, none⟩), .pointer (some ⟨bAt H (upd f 0 i 1), 0, none⟩), .pointer (some ⟨bAt H (upd f 0 i 2), 0, none⟩), .pointer (some ⟨bAt H (upd f 0 i 3), 0, none⟩), .pointer (some ⟨bAt H (upd f 0 i 4), 0, none⟩), .pointer (some ⟨bAt H (upd f 0 i 5), 0, none⟩), .pointer (some ⟨bAt H (upd f 0 i 6), 0, none⟩), .pointer (some ⟨bAt H (upd f 0 i 7), 0, none⟩)] := lastA_all _ _
        obtain ⟨f', hf'⟩ : ∃ f', f' = upd f 0 i := ⟨_, rfl⟩
        rw [← hf'] at e3 HLA HL3
        rw [e3] at HL3
        clear hf' e3
        have q0 := cell_of (v := .pointer (some ⟨bAt H (f' 0), 0, none⟩)) HL3.out (k := 0) rfl
        have q1 := cell_of (v := .pointer (some ⟨bAt H (f' 1), 0, none⟩)) HL3.out (k := 1) rfl
        have q2 := cell_of (v := .pointer (some ⟨bAt H (f' 2), 0, none⟩)) HL3.out (k := 2) rfl
        have q3 := cell_of (v := .pointer (some ⟨bAt H (f' 3), 0, none⟩)) HL3.out (k := 3) rfl
        have q4 := cell_of (v := .pointer (some ⟨bAt H (f' 4), 0, none⟩)) HL3.out (k := 4) rfl
        have q5 := cell_of (v := .pointer (some ⟨bAt H (f' 5), 0, none⟩)) HL3.out (k := 5) rfl
        have q6 := cell_of (v := .pointer (some ⟨bAt H (f' 6), 0, none⟩)) HL3.out (k := 6) rfl
        have q7 := cell_of (v := .pointer (some ⟨bAt H (f' 7), 0, none⟩)) HL3.out (k := 7) rfl
        have r0 := cell_of (v := .pointer none) HR3.out (k := 0) rfl
        have r1 := cell_of (v := .pointer none) HR3.out (k := 1) rfl
        have r2 := cell_of (v := .pointer none) HR3.out (k := 2) rfl
        have r3 := cell_of (v := .pointer none) HR3.out (k := 3) rfl
        have r4 := cell_of (v := .pointer none) HR3.out (k := 4) rfl
        have r5 := cell_of (v := .pointer none) HR3.out (k := 5) rfl
        have r6 := cell_of (v := .pointer none) HR3.out (k := 6) rfl
        have r7 := cell_of (v := .pointer none) HR3.out (k := 7) rfl
        have z0 := frozen_four (j := 0) HR3.out
        have z1 := frozen_four (j := 1) HR3.out
        have z2 := frozen_four (j := 2) HR3.out
        have z3 := frozen_four (j := 3) HR3.out
        have z4 := frozen_four (j := 4) HR3.out
        have z5 := frozen_four (j := 5) HR3.out
        have z6 := frozen_four (j := 6) HR3.out
        have z7 := frozen_four (j := 7) HR3.out
        go_wp2
        refine arr_ret (p := 4) rfl rfl rfl (set_eight rfl _ _ _ _ _ _ _ _ HR3.out) ⟨?_, f', fun m hm => HLA.out m (Nat.zero_le _) hm, rfl⟩
        have e := Nat.le_refl w.heap.size
        exact Below.setCell (Below.setCell (Below.setCell (Below.setCell (Below.setCell (Below.setCell (Below.setCell (Below.setCell HX3.out e _) e _) e _) e _) e _) e _) e _) e _
      | succ m =>
        have d1 : decide ((0 : Int) < ((m + 1 : Nat) : Int)) = true := by simp
        go_wp2
        go_step3
        refine ⟨rfl, ⟨m, i, upd f (m + 1) i, t, _, _, _, _, _, _, _, _, _, _, _, _, _, _, _, _, _, _, _, _, _, _, _, _, _, _, _, _, _, _, _, _, _, _, _, _, _, _, _, _, rfl, by omega, hltp, HTT.out.1, Nat.lt_of_succ_lt HTT.out.2, fun m' h1 h2 => HLA.out m' h1 h2, HL3.out, HR3.out, HX3.out⟩, ?_⟩
        simp [intOf]
    have HTAIL := Lib.hid htail
    clear htail
    go_loopg [6] (p - i) (fun k x wr => ∃ (i : Nat) (t : Tw), k + i = p ∧ 0 < k ∧ x = .pointer (some ⟨t.b, 0, none⟩) ∧ Hid (H[i]? = some t ∧ n < t.h) ∧ Hid (Ext w' wr))
    case atStart => exact ⟨i, t, by have := HT.out.1; omega, by have := HT.out.1; omega, rfl, HT.out.2, Ext.refl _⟩
    case round =>
      obtain ⟨i, t, hki, hk0, rfl, HTT, HXR⟩ := hrel
      have HKI := Lib.hid (And.intro hki hk0)
      obtain ⟨_, g, born, hb1, _⟩ := HCH.out.ext (Ext.trans HX.out HXR.out) i t HTT.out.1
      have cN : wr.cell? ⟨t.b, 5 + n, none⟩ = some (optp (nxt n (H.drop (i + 1)))) := cell_of hb1 (by rw [tcells_next _ _ _ _ HN.out]; unfold nextOf; rw [if_pos HTT.out.2])
      have n1 : (0 : Int) ≤ (n : Int) := by omega
      have n2 : (n : Int) < 8 := by have := HN.out; omega
      have n3 : n < 8 := HN.out
      clear hb1 hki hk0
      cases hnx : nxt n (H.drop (i + 1)) with
      | none =>
        have HL1 : Hid (LastAt H p n i) := last_none (by have := HKI.out; omega) HTT.out.1 HTT.out.2 hnx
        rw [hnx] at cN
        clear hnx
        dsimp only [optp] at cN
        go_wp2
        exact HTAIL.out i t wr _ _ _ _ _ _ _ _ _ _ _ _ _ _ _ _ _ _ _ _ _ _ _ _ _ _ HTT.out.1 HTT.out.2 HL1.out HXR.out
      | some b =>
        obtain ⟨j, t', hij, ht', rfl, hth', hbetw⟩ := next_some hnx
        rw [hnx] at cN
        clear hnx
        dsimp only [optp] at cN
        obtain ⟨g', born', hb2, _, _, hem⟩ := (HCH.out.ext (Ext.trans HX.out HXR.out) j t' ht').em (HIN.out j t' (by omega) ht')
        have HCALL := Lib.hid (HAF.out.calls wr t'.e g' _ _ (Ext.trans HX.out HXR.out) hem (Nat.le_refl _))
        have hen := HAF.out.enters
        have HQ := Lib.hid (HCUT.out j t' (by omega) ht')
        have HJ := Lib.hid (And.intro hij (And.intro ht' (And.intro hth' hbetw)))
        have e0 := cell_of (v := .slice g'.kA t'.e.key.length g'.kc) hb2 (k := 0) rfl
        have e1 := cell_of (v := .int .i64 t'.e.seq) hb2 (k := 1) rfl
        have e2 := cell_of (v := .int .i64 t'.e.kind) hb2 (k := 2) rfl
        have e3 := cell_of (v := .slice g'.vA t'.e.val.length g'.vc) hb2 (k := 3) rfl
        unfold Ent.at_ at HCALL
        clear hij ht' hth' hbetw hem hb2
        go_wp2_with fail
        refine Calls.mono HCALL.out ?_
        rintro x w4 ⟨rfl, hx4⟩
        have HX4 := Lib.hid hx4
        have cN4 := ext_cell hx4 cN
        clear hx4 hen
        cases hz : q t'.e with
        | true =>
          have HJP : Hid (j < p) := HQ.out.1 hz
          clear hz cN e0 e1 e2 e3
          go_wp2
          go_roundg (p - j)
          case measure => have := HKI.out; have := HJ.out.1; omega
          case rel => exact ⟨j, t', by have := HJP.out; omega, by have := HJP.out; omega, rfl, ⟨HJ.out.2.1, HJ.out.2.2.1⟩, Ext.trans HXR.out HX4.out⟩
        | false =>
          have HL1 : Hid (LastAt H p n i) := ⟨by have := HKI.out; omega, ⟨t, HTT.out⟩, fun k t'' h1 h2 h3 => HJ.out.2.2.2 k t'' h1 (by
            have : ¬ j < p := fun h => by rw [HQ.out.2 h] at hz; cases hz
            omega) h3⟩
          clear hz cN cN4 e0 e1 e2 e3
          go_wp2
          exact HTAIL.out i t w4 _ _ _ _ _ _ _ _ _ _ _ _ _ _ _ _ _ _ _ _ _ _ _ _ _ _ HTT.out.1 HTT.out.2 HL1.out (Ext.trans HXR.out HX4.out)
end Go.Proofs.YtepaaffebhinlaaDoor

/- A tower is linked into its row, level by level. -/
namespace Go.Proofs.YtepaaffebhinlaaDoor
open Go.ChangeShapes Go.WideShapes Go.ChangeAt Go.RowKit

/-- A tower's cells, its next ones by a function. -/
def tc (e : Ent) (g : Hd) (born : Int) (F : Nat → Value) : Array Value :=
  #[.slice g.kA e.key.length g.kc, .int .i64 e.seq, .int .i64 e.kind, .slice g.vA e.val.length g.vc, .int .i64 born, F 0, F 1, F 2, F 3, F 4, F 5, F 6, F 7]
theorem tcells_tc (t : Tw) (g : Hd) (born : Int) (R : List Tw) : tcells t g born R = tc t.e g born (nextOf t R) := rfl
theorem tc_congr {e : Ent} {g : Hd} {born : Int} {F G : Nat → Value} (h : ∀ n, n < 8 → F n = G n) : tc e g born F = tc e g born G := by
  unfold tc
  rw [h 0 (by decide), h 1 (by decide), h 2 (by decide), h 3 (by decide), h 4 (by decide), h 5 (by decide), h 6 (by decide), h 7 (by decide)]
theorem tc_set (e : Ent) (g : Hd) (born : Int) (F : Nat → Value) {m : Nat} (hm : m < 8) (x : Value) : (tc e g born F).setIfInBounds (5 + m) x = tc e g born (fun n => if n = m then x else F n) := by
  unfold tc
  match m, hm with
  | 0, _ => simp
  | 1, _ => simp
  | 2, _ => simp
  | 3, _ => simp
  | 4, _ => simp
  | 5, _ => simp
  | 6, _ => simp
  | 7, _ => simp
/-- The new tower, so far linked in m levels. -/
def lvl (t : Tw) (m : Nat) : Tw := { t with h := m }
theorem nxt_lvl (n m : Nat) (X R : List Tw) (t : Tw) : nxt n (X ++ lvl t (m + 1) :: R) = if n = m ∧ (∀ u ∈ X, u.h ≤ m) then some t.b else nxt n (X ++ lvl t m :: R) := by
  by_cases hX : ∀ u ∈ X, u.h ≤ n
  · rw [nxt_append n X _ hX, nxt_append n X _ hX]
    show (if n < m + 1 then some t.b else nxt n R) = _
    by_cases hn : n = m
    · subst hn
      rw [if_pos (Nat.lt_succ_self _), if_pos ⟨rfl, hX⟩]
    · simp only [hn, false_and, if_false]
      show _ = (if n < m then some t.b else nxt n R)
      by_cases hlt : n < m
      · rw [if_pos hlt, if_pos (by omega)]
      · rw [if_neg hlt, if_neg (by omega)]
  · obtain ⟨u, hu, hh⟩ : ∃ u, u ∈ X ∧ n < u.h := by
      refine Classical.byContradiction fun hno => hX fun u hu => ?_
      rcases Nat.lt_or_ge n u.h with h | h
      · exact absurd ⟨u, hu, h⟩ hno
      · exact h
    rw [nxt_hit n hu hh, nxt_hit n hu hh, if_neg]
    rintro ⟨rfl, h⟩
    have := h u hu
    omega
theorem nxt_zero (n : Nat) (X R : List Tw) (t : Tw) : nxt n (X ++ lvl t 0 :: R) = nxt n (X ++ R) := by
  by_cases hX : ∀ u ∈ X, u.h ≤ n
  · rw [nxt_append n X _ hX, nxt_append n X _ hX]
    show (if n < 0 then some t.b else nxt n R) = _
    rw [if_neg (Nat.not_lt_zero _)]
  · obtain ⟨u, hu, hh⟩ : ∃ u, u ∈ X ∧ n < u.h := by
      refine Classical.byContradiction fun hno => hX fun u hu => ?_
      rcases Nat.lt_or_ge n u.h with h | h
      · exact absurd ⟨u, hu, h⟩ hno
      · exact h
    rw [nxt_hit n hu hh, nxt_hit n hu hh]

/-- A tower's block. -/
def Tob (w : World) (i : Nat) : Prop := ∃ c, w.heap[i]? = some (.cells c 63 (0, 0))
theorem Tob.skb {w : World} {i : Nat} (h : Tob w i) : Skb w i := by obtain ⟨c, hc⟩ := h; exact ⟨c, _, .inl hc⟩
theorem Own.tob {B : Nat} {l : List Nat} {v : Value} {w w' : World} (h : Own B l v w) (hc : Chg (Tob w) w w') : Own B l v w' :=
  row_kept h fun g hg => hc.block g (row_lt h g hg).2 (fun hs => h.skb hg hs.skb)
/-- A tower's block, of D. -/
def Dt (D : Nat → Prop) (w : World) (i : Nat) : Prop := D i ∧ Tob w i
theorem setTower {w : World} {D : Nat → Prop} {b n : Nat} {v : Value} {c : Array Value} (hD : D b) (h : w.heap[b]? = some (.cells c 63 (0, 0))) : Chg (Dt D w) w (w.setCell ⟨b, n, none⟩ v) := Chg.setCell w _ v ⟨hD, c, h⟩
theorem Tob.set {w : World} {b n i : Nat} {v : Value} {c : Array Value} (h : w.heap[b]? = some (.cells c 63 (0, 0))) (k : Tob (w.setCell ⟨b, n, none⟩ v) i) : Tob w i := by
  by_cases hi : i = b
  · subst hi; exact ⟨c, h⟩
  · obtain ⟨c', hc'⟩ := k
    exact ⟨c', by rw [Below.heap_setCell _ _ _ _ hi] at hc'; exact hc'⟩

/-- The first tower's link: as if it weren't there. -/
theorem chain_zero {w w' : World} {D D' : Nat → Prop} {hi hi' : Int} {X R : List Tw} {t : Tw} (h : Chain w D hi (X ++ R)) (hx : Ext w w') (hD : ∀ k, k < w.heap.size → D k → D' k) (hh : hi ≤ hi')
    (ht : Tm w' D' hi' (lvl t 0) R) : Chain w' D' hi' (X ++ lvl t 0 :: R) := by
  intro i u hu
  rcases Nat.lt_trichotomy i X.length with hlt | rfl | hgt
  · rw [List.getElem?_append_left hlt] at hu
    obtain ⟨h1, g, born, h2, h3⟩ := ((h i u (by rw [List.getElem?_append_left hlt]; exact hu)).wide hD hh).ext hx
    refine ⟨h1, g, born, ?_, h3⟩
    rw [h2, tcells_tc, tcells_tc]
    congr 2
    refine tc_congr fun n _ => ?_
    unfold nextOf
    rw [List.drop_append_of_le_length (by omega), List.drop_append_of_le_length (by omega), nxt_zero]
  · rw [List.getElem?_append_right (Nat.le_refl _), Nat.sub_self] at hu
    obtain rfl : lvl t 0 = u := by simpa using hu
    rw [show (X ++ lvl t 0 :: R).drop (X.length + 1) = R by rw [List.drop_append]; simp]
    exact ht
  · obtain ⟨k, rfl⟩ : ∃ k, i = X.length + (k + 1) := ⟨i - X.length - 1, by omega⟩
    rw [List.getElem?_append_right (by omega), show X.length + (k + 1) - X.length = k + 1 by omega, List.getElem?_cons_succ] at hu
    have h1 := h (X.length + k) u (by rw [List.getElem?_append_right (by omega), show X.length + k - X.length = k by omega]; exact hu)
    have e1 : (X ++ R).drop (X.length + k + 1) = R.drop (k + 1) := by rw [List.drop_append, List.drop_eq_nil_of_le (by omega), List.nil_append]; congr 1; omega
    have e2 : (X ++ lvl t 0 :: R).drop (X.length + (k + 1) + 1) = R.drop (k + 1) := by rw [List.drop_append, List.drop_eq_nil_of_le (by omega), List.nil_append, show X.length + (k + 1) + 1 - X.length = (k + 1) + 1 by omega, List.drop_succ_cons]
    rw [e1] at h1
    rw [e2]
    exact (h1.wide hD hh).ext hx

/-- One level more. -/
theorem chain_step {w : World} {D : Nat → Prop} {hi : Int} {X R : List Tw} {t u : Tw} {m i : Nat} (hm : m < 8) (h : Chain w D hi (X ++ lvl t m :: R)) (hnd : ((X ++ t :: R).map Tw.b).Nodup)
    (hu : X[i]? = some u) (huh : m < u.h) (hlast : ∀ (j : Nat) (v : Tw), i < j → X[j]? = some v → v.h ≤ m) :
    Chain ((w.setCell ⟨t.b, 5 + m, none⟩ (optp (nxt m R))).setCell ⟨u.b, 5 + m, none⟩ (.pointer (some ⟨t.b, 0, none⟩))) D hi (X ++ lvl t (m + 1) :: R) ∧
    Chg (Dt D w) w ((w.setCell ⟨t.b, 5 + m, none⟩ (optp (nxt m R))).setCell ⟨u.b, 5 + m, none⟩ (.pointer (some ⟨t.b, 0, none⟩))) := by
  have hil := (List.getElem?_eq_some_iff.1 hu).1
  obtain ⟨hDt, gt_, bt, ht2, ht3⟩ := h X.length (lvl t m) (by rw [List.getElem?_append_right (Nat.le_refl _)]; simp)
  obtain ⟨hDu, gu, bu, hu2, hu3⟩ := h i u (by rw [List.getElem?_append_left hil]; exact hu)
  have hbt : w.heap[t.b]? = some (.cells (tcells (lvl t m) gt_ bt ((X ++ lvl t m :: R).drop (X.length + 1))) 63 (0, 0)) := ht2
  have hne : u.b ≠ t.b := by
    rw [List.map_append, List.map_cons, List.nodup_append] at hnd
    exact hnd.2.2 u.b (List.mem_map.2 ⟨u, List.mem_of_getElem? hu, rfl⟩) t.b (by simp)
  have hb1 : (w.setCell ⟨t.b, 5 + m, none⟩ (optp (nxt m R))).heap[u.b]? = some (.cells (tcells u gu bu ((X ++ lvl t m :: R).drop (i + 1))) 63 (0, 0)) := (Below.heap_setCell _ _ _ _ hne).trans hu2
  have hchg : Chg (Dt D w) w ((w.setCell ⟨t.b, 5 + m, none⟩ (optp (nxt m R))).setCell ⟨u.b, 5 + m, none⟩ (.pointer (some ⟨t.b, 0, none⟩))) :=
    (setTower hDt hbt).trans_new (setTower hDu hb1) (fun i _ hi => ⟨hi.1, hi.2.set hbt⟩)
  have htob := hchg.mono (S' := Tob w) fun _ _ h => h.2
  refine ⟨fun k v hv => ?_, hchg⟩
  have keep : ∀ b, b ≠ t.b → b ≠ u.b → ((w.setCell ⟨t.b, 5 + m, none⟩ (optp (nxt m R))).setCell ⟨u.b, 5 + m, none⟩ (.pointer (some ⟨t.b, 0, none⟩))).heap[b]? = w.heap[b]? := fun b h1 h2 => (Below.heap_setCell _ _ _ _ h2).trans (Below.heap_setCell _ _ _ _ h1)
  have e0 : (X ++ lvl t m :: R).drop (X.length + 1) = R := by rw [List.drop_append]; simp
  rcases Nat.lt_trichotomy k X.length with hlt | rfl | hgt
  · rw [List.getElem?_append_left hlt] at hv
    obtain ⟨h1, g, born, h2, h3, h4, h5, h6, h7, h8⟩ := h k v (by rw [List.getElem?_append_left hlt]; exact hv)
    have hvt : v.b ≠ t.b := by
      rw [List.map_append, List.map_cons, List.nodup_append] at hnd
      exact hnd.2.2 v.b (List.mem_map.2 ⟨v, List.mem_of_getElem? hv, rfl⟩) t.b (by simp)
    refine ⟨h1, g, born, ?_, h3, h4, h5.tob htob, h6.tob htob, h7, h8⟩
    rw [List.drop_append_of_le_length (by omega)] at h2 ⊢
    by_cases hki : k = i
    · subst hki
      obtain rfl : v = u := by rw [hv] at hu; injection hu
      rw [heap_setCell_same _ _ _ _ _ _ ((Below.heap_setCell _ _ _ _ hne).trans h2), tcells_tc, tc_set _ _ _ _ hm, tcells_tc]
      congr 2
      refine tc_congr fun n _ => ?_
      unfold nextOf
      rw [nxt_lvl]
      by_cases hn : n = m
      · subst hn
        rw [if_pos rfl, if_pos huh, if_pos]
        · rfl
        · refine ⟨rfl, fun x hx => ?_⟩
          obtain ⟨j, hj⟩ := List.mem_iff_getElem?.1 hx
          rw [List.getElem?_drop] at hj
          exact hlast (k + 1 + j) x (by omega) hj
      · simp only [hn, false_and, if_false]
    · have hvu : v.b ≠ u.b := fun e => hki (by
        have hnd2 : (X.map Tw.b).Nodup := by rw [List.map_append, List.nodup_append] at hnd; exact hnd.1
        have h1 : (X.map Tw.b)[k]? = some v.b := by rw [List.getElem?_map, hv]; rfl
        have h2 : (X.map Tw.b)[i]? = some v.b := by rw [List.getElem?_map, hu, e]; rfl
        obtain ⟨l1, e1⟩ := List.getElem?_eq_some_iff.1 h1
        obtain ⟨l2, e2⟩ := List.getElem?_eq_some_iff.1 h2
        rcases Nat.lt_trichotomy k i with h | h | h
        · exact absurd (e1.trans e2.symm) (List.pairwise_iff_getElem.1 hnd2 k i l1 l2 h)
        · exact h
        · exact absurd (e2.trans e1.symm) (List.pairwise_iff_getElem.1 hnd2 i k l2 l1 h))
      rw [keep v.b hvt hvu, h2, tcells_tc, tcells_tc]
      congr 2
      refine tc_congr fun n _ => ?_
      unfold nextOf
      by_cases hnv : n < v.h
      · rw [if_pos hnv, if_pos hnv, nxt_lvl, if_neg]
        rintro ⟨rfl, hall⟩
        rcases Nat.lt_or_ge k i with hlt' | hge
        · have := hall u (List.mem_of_getElem? (i := i - (k + 1)) (by rw [List.getElem?_drop, show k + 1 + (i - (k + 1)) = i by omega]; exact hu))
          omega
        · have := hlast k v (by omega) hv
          omega
      · rw [if_neg hnv, if_neg hnv]
  · rw [List.getElem?_append_right (Nat.le_refl _), Nat.sub_self] at hv
    obtain rfl : lvl t (m + 1) = v := by simpa using hv
    rw [e0] at hbt
    rw [show (X ++ lvl t (m + 1) :: R).drop (X.length + 1) = R by rw [List.drop_append]; simp]
    obtain ⟨h1, g, born, h2, h3, h4, h5, h6, h7, h8⟩ := h X.length (lvl t m) (by rw [List.getElem?_append_right (Nat.le_refl _)]; simp)
    refine ⟨h1, g, born, ?_, h3, h4, h5.tob htob, h6.tob htob, h7, h8⟩
    rw [e0] at h2
    show ((w.setCell ⟨t.b, 5 + m, none⟩ (optp (nxt m R))).setCell ⟨u.b, 5 + m, none⟩ (.pointer (some ⟨t.b, 0, none⟩))).heap[t.b]? = _
    rw [Below.heap_setCell _ _ _ _ (fun e => hne e.symm), heap_setCell_same _ _ _ _ _ _ (show w.heap[t.b]? = _ from h2), tcells_tc, tc_set _ _ _ _ hm, tcells_tc]
    show some (Obj.cells (tc t.e g born _) _ _) = some (Obj.cells (tc t.e g born _) _ _)
    congr 2
    refine tc_congr fun n _ => ?_
    unfold nextOf
    show (if n = m then optp (nxt m R) else if n < m then optp (nxt n R) else .pointer none) = (if n < m + 1 then optp (nxt n R) else .pointer none)
    by_cases hn : n = m
    · subst hn; rw [if_pos rfl, if_pos (Nat.lt_succ_self _)]
    · rw [if_neg hn]
      by_cases hlt : n < m
      · rw [if_pos hlt, if_pos (by omega)]
      · rw [if_neg hlt, if_neg (by omega)]
  · obtain ⟨j, rfl⟩ : ∃ j, k = X.length + (j + 1) := ⟨k - X.length - 1, by omega⟩
    rw [List.getElem?_append_right (by omega), show X.length + (j + 1) - X.length = j + 1 by omega, List.getElem?_cons_succ] at hv
    obtain ⟨h1, g, born, h2, h3, h4, h5, h6, h7, h8⟩ := h (X.length + (j + 1)) v (by rw [List.getElem?_append_right (by omega), show X.length + (j + 1) - X.length = j + 1 by omega, List.getElem?_cons_succ]; exact hv)
    have e1 : ∀ s : Tw, (X ++ s :: R).drop (X.length + (j + 1) + 1) = R.drop (j + 1) := fun s => by rw [List.drop_append, List.drop_eq_nil_of_le (by omega), List.nil_append, show X.length + (j + 1) + 1 - X.length = (j + 1) + 1 by omega, List.drop_succ_cons]
    rw [e1] at h2 ⊢
    have hmem : v.b ∈ (R.map Tw.b) := List.mem_map.2 ⟨v, List.mem_of_getElem? hv, rfl⟩
    rw [List.map_append, List.map_cons, List.nodup_append, List.nodup_cons] at hnd
    have hvt : v.b ≠ t.b := fun e => hnd.2.1.1 (e ▸ hmem)
    have hvu : v.b ≠ u.b := fun e => hnd.2.2 u.b (List.mem_map.2 ⟨u, List.mem_of_getElem? hu, rfl⟩) v.b (List.mem_cons_of_mem _ hmem) e.symm
    exact ⟨h1, g, born, (keep v.b hvt hvu).trans h2, h3, h4, h5.tob htob, h6.tob htob, h7, h8⟩
end Go.Proofs.YtepaaffebhinlaaDoor
