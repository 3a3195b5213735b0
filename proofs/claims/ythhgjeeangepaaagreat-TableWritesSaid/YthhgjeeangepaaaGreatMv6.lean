import Derived.Test.YthhgjeeangepaaaGreatMv5
import Derived.Test.YthhgjeeangepaaaGreatMv3
import Derived.OwnWalkIn
import Derived.RangeFuncLeaves
import Derived.Lib.SmallJoins
import Derived.SizedLaws
import Derived.Deep.Slices
import Derived.Test.YthhgjeeangepaaaGreatMv0
namespace Go.Proofs.YthhgjeeangepaaaGreat
open Go.ChangeShapes Go.WideShapes Go.ChangeAt Go.RowKit
def iv (l : List Nat) : List Value := l.map fun n : Nat => .int .i64 (n : Int)
theorem iv_length (l : List Nat) : (iv l).length = l.length := by simp [iv]
theorem iv_append (l r : List Nat) : iv (l ++ r) = iv l ++ iv r := by simp [iv]
def OwnI (B : Nat) (l : List Nat) (v : Value) (u : World) : Prop := u.ownsRow B 3 1 v l.length (iv l)
theorem OwnI.nil (B : Nat) (w : World) : OwnI B [] (.slice none 0 0) w := World.ownsRow_nil _ _ _ _
theorem OwnI.wall {B : Nat} {l : List Nat} {v : Value} {w w' : World} (h : OwnI B l v w) (hk : ∀ b, v.ownBlock = some b → w'.heap[b]? = w.heap[b]?) : OwnI B l v w' := row_kept h hk
theorem OwnI.base {B B' : Nat} {l : List Nat} {v : Value} {u : World} (h : OwnI B l v u) (hB : B' ≤ B) : OwnI B' l v u := ownsRow_base h hB
theorem OwnI.slice {B : Nat} {l : List Nat} {v : Value} {u : World} (h : OwnI B l v u) : ∃ A c, v = .slice A l.length c := by
  obtain ⟨A, c, e, _⟩ := Sl.of_own h
  exact ⟨A, c, e⟩
theorem iinfo : (Tryz.prog.info? 3).map (fun i => (i.zero, i.size, i.bytes)) = some (some (.int .i64 0), 1, 8) := by kernel_rfl
theorem wpListIn_pushint {F : Fence} {nF : Nat} {ops : Array Oper} {rest : List Oper} {o : Oper} {a : Act} {Q : Exit → Act → World → Prop} {u : World} (hgd : o.guard = none) (s x : Operand)
    (ho : o.op = .call { callee := .builtin .append, args := #[s, x], argTypes := #[84, 84] }) (B : Nat) (v : Value) (l : List Nat) (hs : a.eval s = v) (hown : OwnI B l v u)
    (n gb : Nat) (hx : a.eval x = .slice (some ⟨gb, 0, none⟩) 1 1) (hblk : u.heap[gb]? = some (.cells #[.int .i64 (n : Int)] 3 (0, 0))) (hlen : l.length ≤ 1000000000000) (hB : B ≤ u.heap.size)
    (h : ∀ A' c' w', OwnI B (l ++ [n]) (.slice A' (l.length + 1) c') w' → u.grownBy w' v.ownBlock → wpListIn F nF Tryz.prog ops Q rest (a.put o.dst (.slice A' (l.length + 1) c')) w') :
    wpListIn F nF Tryz.prog ops Q (o :: rest) a u := by
  obtain ⟨i0, hi0', ix0, ix1, ix2⟩ := info_parts iinfo
  refine wpListIn_append_own _ hgd s x 84 ho B 3 i0 _ 1 8 Tryz.underlying84 hi0' ix0 ix1 ix2 rfl (by decide) v l.length (iv l) hs hown ⟨gb, 0, none⟩ 1 1 [.int .i64 (n : Int)] hx rfl (fun j q hj => ?n1) (fun q hq => ?n2) ?n3 ?n4 hB (fun v' w5 ho hgr _ => ?rest)
  case n1 =>
    rcases j with _ | j
    · simp at hj; subst hj; rw [addr_add, Nat.zero_add]; exact cell_of hblk rfl
    · simp at hj
  case n2 => rw [List.mem_singleton] at hq; subst hq; rfl
  case n3 => unfold maxLen; omega
  case n4 => omega
  case rest =>
    have ho' : OwnI B (l ++ [n]) v' w5 := by unfold OwnI; rw [List.length_append, iv_append]; exact ho
    obtain ⟨A', c', e⟩ := ho'.slice
    rw [List.length_append] at e
    subst e
    exact h A' c' w5 ho' hgr
theorem wpList_addrow {ops : Array Oper} {rest : List Oper} {o : Oper} {a : Act} {Q : Exit → Act → World → Prop} {u : World} (hgd : o.guard = none) (s x : Operand)
    (ho : o.op = .call { callee := .builtin .append, args := #[s, x], argTypes := #[26, 26] }) (B : Nat) (v : Value) (l : List Nat) (hs : a.eval s = v) (hown : Own B l v u)
    (lo hi : Nat) (y : Value) (r : List Nat) (hx : a.eval x = y) (hy : Bs u lo hi y r) (hr : 0 < r.length) (hlen : l.length + r.length ≤ 1099511627776) (hB : B ≤ u.heap.size)
    (h : ∀ A' c' w', Own B (l ++ r) (.slice A' (l ++ r).length c') w' → u.grownBy w' v.ownBlock → wpList Tryz.prog ops Q rest (a.put o.dst (.slice A' (l ++ r).length c')) w') :
    wpList Tryz.prog ops Q (o :: rest) a u := by
  obtain ⟨i0, hi0, ix0, ix1, ix2⟩ := info_parts t5info
  obtain ⟨A, c, rfl, h1, h2, hnil, hby⟩ := hy
  obtain ⟨b, o', e, _, _, hc⟩ := hby.at_ (i := 0) hr
  subst e
  have hcells : ∀ j q, (bv r)[j]? = some q → u.cell? ((⟨b, o', none⟩ : Addr).add j) = some q := fun j q hj => by
    rcases hby with h0 | ⟨b2, o2, e2, _, _, h3⟩
    · rw [h0] at hj; simp at hj
    · have e3 : b = b2 := congrArg Addr.block (Option.some.inj e2)
      have e4 : o' = o2 := congrArg Addr.off (Option.some.inj e2)
      subst e3 e4
      rw [addr_add]; exact h3 j q hj
  refine wpList_append_own _ hgd s x 26 ho B 5 i0 (.int .u8 0) 1 1 Tryz.underlying26 hi0 ix0 ix1 ix2 rfl (by decide) v l.length (bv l) hs hown ⟨b, o', none⟩ r.length c (bv r) hx (by rw [bv_length]; omega) hcells (bv_one r) (by unfold maxLen; omega) (by omega) hB (fun v' w' ho' hg _ => ?_)
  have hown' : Own B (l ++ r) v' w' := by unfold Own; rw [List.length_append, bv_append]; exact ho'
  obtain ⟨A', c', rfl⟩ := hown'.slice
  exact h A' c' w' hown' hg
structure LdI (w : World) (n c : Nat) (A : Option Addr) (Ls : List Ent) (n₁ k : Nat) (W : World) : Prop where
  below : Below w.heap.size w W
  boxes : ChunkC (w.heap.size + 2) (w.heap.size + 3) A n c W
  forms : ∃ FA fc, Boxed W w.heap.size 26 (.slice FA (upto Ls (min (4 * k) n)).length fc) ∧ Own n₁ (upto Ls (min (4 * k) n)) (.slice FA (upto Ls (min (4 * k) n)).length fc) W
  ats : ∃ RA rc, Boxed W (w.heap.size + 1) 84 (.slice RA (ats Ls (min (4 * k) n)).length rc) ∧ OwnI n₁ (ats Ls (min (4 * k) n)) (.slice RA (ats Ls (min (4 * k) n)).length rc) W
  z : n₁ ≤ W.heap.size
theorem cell_chg {A A' : World} {S : Nat → Prop} {p : Addr} {v : Value} (h : A.cell? p = some v) (hc : Chg S A A') (hS : ¬ S p.block) : A'.cell? p = some v := (World.cell?_of_block (hc.block p.block (World.block_lt_of_cell? A _ h) hS)).trans h
theorem LdI.chg {w A1 A2 : World} {n c n₁ k : Nat} {A : Option Addr} {Ls : List Ent} (h : LdI w n c A Ls n₁ k A1) (hc : Chg (Btw (w.heap.size + 4) n₁) A1 A2) : LdI w n c A Ls n₁ k A2 := by
  obtain ⟨FA, fc, h1, h2⟩ := h.forms
  obtain ⟨RA, rc, h3, h4⟩ := h.ats
  exact ⟨h.below.trans (hc.below (fun i hb => by have := hb.1; omega) h.below.size), ⟨cell_chg h.boxes.1 hc (fun hb => by have h9 : w.heap.size + 4 ≤ w.heap.size + 2 := hb.1; omega), cell_chg h.boxes.2 hc (fun hb => by have h9 : w.heap.size + 4 ≤ w.heap.size + 3 := hb.1; omega)⟩,
    ⟨FA, fc, boxed_chg h1 hc (fun hb => by have := hb.1; omega), row_chg h2 hc (fun k hk hb => by have := hb.2; omega)⟩, ⟨RA, rc, boxed_chg h3 hc (fun hb => by have := hb.1; omega), row_chg h4 hc (fun k hk hb => by have := hb.2; omega)⟩, Nat.le_trans h.z hc.size⟩
structure LdR (w : World) (n₁ : Nat) (Ls : List Ent) (k0 bx m : Nat) (A2 : World) (j : Nat) (wr : World) : Prop where
  chg : Chg (fun i => i = w.heap.size ∨ i = w.heap.size + 1 ∨ n₁ ≤ i) A2 wr
  forms : ∃ FA fc, Boxed wr w.heap.size 26 (.slice FA (upto Ls (k0 + j)).length fc) ∧ Own n₁ (upto Ls (k0 + j)) (.slice FA (upto Ls (k0 + j)).length fc) wr
  ats : ∃ RA rc, Boxed wr (w.heap.size + 1) 84 (.slice RA (ats Ls (k0 + 1)).length rc) ∧ OwnI n₁ (ats Ls (k0 + 1)) (.slice RA (ats Ls (k0 + 1)).length rc) wr
  key : ∃ hv, Boxed wr bx 26 hv ∧ (j < m → ∃ lo2 hi2, Bs wr lo2 hi2 hv (ahOf Ls (k0 + j)) ∧ hi2 ≤ wr.heap.size)
structure FI (w0 : World) (V C E : Value) (Pst : Value → World → Prop) (seen : Nat → Bool) (f : Nat → Value) (u : World) : Prop where
  h0 : seen 0 = true → f 0 = V
  h1 : seen 1 = true → f 1 = C
  h2 : seen 2 = true → f 2 = E
  n3 : seen 3 = false → u = w0
  y3 : seen 3 = true → Pst (f 3) u ∧ seen 1 = true ∧ seen 2 = true
section
variable {w0 u u' : World} {V C E v : Value} {Pst : Value → World → Prop} {seen : Nat → Bool} {f : Nat → Value}
theorem FI.start (f : Nat → Value) : FI w0 V C E Pst (fun _ => false) f w0 := ⟨fun h => (by cases h), fun h => (by cases h), fun h => (by cases h), fun _ => rfl, fun h => (by cases h)⟩
theorem FI.s0 (h : FI w0 V C E Pst seen f u) : FI w0 V C E Pst (Fi.upd seen 0 true) (Fi.upd f 0 V) u :=
  ⟨fun _ => rfl, h.h1, h.h2, h.n3, h.y3⟩
theorem FI.s1 (h : FI w0 V C E Pst seen f u) : FI w0 V C E Pst (Fi.upd seen 1 true) (Fi.upd f 1 C) u :=
  ⟨h.h0, fun _ => rfl, h.h2, h.n3, fun k => ⟨(h.y3 k).1, rfl, (h.y3 k).2.2⟩⟩
theorem FI.s2 (h : FI w0 V C E Pst seen f u) : FI w0 V C E Pst (Fi.upd seen 2 true) (Fi.upd f 2 E) u :=
  ⟨h.h0, h.h1, fun _ => rfl, h.n3, fun k => ⟨(h.y3 k).1, (h.y3 k).2.1, rfl⟩⟩
theorem FI.s3 (h : FI w0 V C E Pst seen f u) (k1 : seen 1 = true) (k2 : seen 2 = true) (hp : Pst v u') : FI w0 V C E Pst (Fi.upd seen 3 true) (Fi.upd f 3 v) u' :=
  ⟨h.h0, h.h1, h.h2, fun k => (by cases k), fun _ => ⟨hp, k1, k2⟩⟩
end
end Go.Proofs.YthhgjeeangepaaaGreat
namespace Go.Proofs.YthhgjeeangepaaaGreat
open Go.ChangeShapes Go.WideShapes Go.ChangeAt Go.RowKit Go.Shelf
attribute [local go_sem] Oper.semAt_some
theorem ats_four (L : List Ent) {k j : Nat} (h : k % 4 = 0) (h1 : 1 ≤ j) (h4 : j ≤ 4) : ats L (k + j) = ats L (k + 1) := by
  have a1 : ats L (k + 1 + 1) = ats L (k + 1) := ats_miss L (by omega)
  have a2 : ats L (k + 2 + 1) = ats L (k + 2) := ats_miss L (by omega)
  have a3 : ats L (k + 3 + 1) = ats L (k + 3) := ats_miss L (by omega)
  match j, h1, h4 with
  | 1, _, _ => rfl
  | 2, _, _ => exact a1
  | 3, _, _ => exact a2.trans a1
  | 4, _, _ => exact a3.trans (a2.trans a1)
structure SI (p q : Nat) (w0 : World) (V V' : Value) (seen : Nat → Bool) (f : Nat → Value) (u : World) : Prop where
  chg : Chg (fun i => i = p ∨ i = q) w0 u
  a : Boxed u p 26 V
  b : Boxed u q 84 V'
  h0 : seen 0 = true → f 0 = V
  h1 : seen 1 = true → f 1 = V'
section
variable {p q : Nat} {w0 u : World} {V V' v : Value} {seen : Nat → Bool} {f : Nat → Value}
theorem SI.s0 (h : SI p q w0 V V' seen f u) : SI p q w0 V V' (Fi.upd seen 0 true) (Fi.upd f 0 V) u := ⟨h.chg, h.a, h.b, fun _ => rfl, h.h1⟩
theorem SI.s1 (h : SI p q w0 V V' seen f u) : SI p q w0 V V' (Fi.upd seen 1 true) (Fi.upd f 1 V') u := ⟨h.chg, h.a, h.b, h.h0, fun _ => rfl⟩
theorem SI.s2 (h : SI p q w0 V V' seen f u) (hpq : p ≠ q) : SI p q w0 V V' (Fi.upd seen 2 true) (Fi.upd f 2 v) (u.setCell ⟨p, 0, none⟩ V) :=
  ⟨h.chg.trans (Chg.setCell _ _ _ (.inl rfl)), h.a.set _, (Below.heap_setCell _ _ _ _ (by exact fun e => hpq e.symm)).trans h.b, h.h0, h.h1⟩
theorem SI.s3 (h : SI p q w0 V V' seen f u) (hpq : p ≠ q) : SI p q w0 V V' (Fi.upd seen 3 true) (Fi.upd f 3 v) (u.setCell ⟨q, 0, none⟩ V') :=
  ⟨h.chg.trans (Chg.setCell _ _ _ (.inr rfl)), (Below.heap_setCell _ _ _ _ (by exact hpq)).trans h.a, h.b.set _, h.h0, h.h1⟩
end
theorem results_two {fn : Func} {p q : Tmp} (h : fn.results = #[.cell p 26, .cell q 84]) (tmps : Array Value) (w : World) (g k : Nat) (v v' : Value) (hp : tmps.getD p undef = .pointer (some ⟨g, 0, none⟩)) (hq : tmps.getD q undef = .pointer (some ⟨k, 0, none⟩)) (hc : w.cell? ⟨g, 0, none⟩ = some v) (hc' : w.cell? ⟨k, 0, none⟩ = some v') :
    (results fn tmps).run Tryz.prog w = .ok (.tuple #[v, v']) w := by
  simp only [results, h]
  have hp' : tmps[p]?.getD undef = .pointer (some ⟨g, 0, none⟩) := by simpa using hp
  have hq' : tmps[q]?.getD undef = .pointer (some ⟨k, 0, none⟩) := by simpa using hq
  simp [Sem.run_bind, hp', hq', go_sem, hc, hc']
def LaidAns (w : World) (Ls : List Ent) (x : Ending) (w' : World) : Prop :=
  Ext w w' ∧ ∃ FA fc RA rc, x = .returned (.tuple #[.slice FA (upto Ls Ls.length).length fc, .slice RA (ats Ls Ls.length).length rc]) ∧ Own w.heap.size (upto Ls Ls.length) (.slice FA (upto Ls Ls.length).length fc) w' ∧ OwnI w.heap.size (ats Ls Ls.length) (.slice RA (ats Ls Ls.length).length rc) w'
set_option maxRecDepth 100000 in
set_option maxHeartbeats 16000000 in
theorem laid_any {w : World} {lo hi c : Nat} {A : Option Addr} {L : List (Ent × Hd)} (h : Es w lo hi A L) (hhi : hi ≤ w.heap.size) (hlc : L.length ≤ c) (hn1 : 1 ≤ L.length) (hn : L.length ≤ 1024) (hm : ∀ p ∈ L, p.1.may = true) :
    Calls Tryz.prog 119 #[.slice A L.length c] w (LaidAns w (L.map Prod.fst)) := by
  obtain ⟨b, o, rfl⟩ := h.base (by omega)
  obtain ⟨n, hln⟩ : ∃ n, n = L.length := ⟨_, rfl⟩
  obtain ⟨Ls, hLs⟩ : ∃ Ls, Ls = L.map Prod.fst := ⟨_, rfl⟩
  have HNL : Hid (Ls.length = n) := by rw [hLs, hln]; exact List.length_map ..
  have HE := Lib.hid h
  have HHI := Lib.hid hhi
  have HN : Hid (1 ≤ n ∧ n ≤ 1024 ∧ n ≤ c) := ⟨by omega, by omega, by omega⟩
  have HM := Lib.hid hm
  have HLS := Lib.hid hLs
  have HLN := Lib.hid hln
  rw [← hln, ← hLs]
  obtain ⟨w1, hw1⟩ : ∃ w1, w1 = (w.alloc (.cells #[.slice none 0 0] 26)).alloc (.cells #[.slice none 0 0] 84) := ⟨_, rfl⟩
  have HX1 : Hid (Ext w w1) := by rw [hw1]; exact Ext.trans (ext_alloc _ _) (ext_alloc _ _)
  have HZ1 : Hid (w1.heap.size = w.heap.size + 2) := by rw [hw1]; simp [Hid]
  have HF1 : Hid (Boxed w1 w.heap.size 26 (.slice none 0 0)) := by rw [hw1]; exact ext_heap (ext_alloc _ _) (heap_at _ _ rfl)
  have HR1 : Hid (Boxed w1 (w.heap.size + 1) 84 (.slice none 0 0)) := by rw [hw1]; exact heap_at _ _ (by simp)
  have HCK := Lib.hid (chunk_any (some ⟨b, o, none⟩) n c w1)
  clear h hhi hlc hn1 hn hm hLs hln
  refine (callsIn_wide (n := 6)).1 ?_
  refine callsIn_of_wp_marks Tryz.func119 rfl trivial ?_
  simp only [Tryz.ntmps119, List.size_toArray, List.length_cons, List.length_nil, Nat.reduceAdd, Nat.reduceSub, Array.replicate_succ, Array.replicate_zero, List.push_toArray, List.append_toArray, List.nil_append, List.cons_append]
  refine wpIn_wide.2 ?_
  go_wp2_with fail
  rw [← hw1]
  clear hw1
  refine HCK.out.mono ?_
  rintro x w2 ⟨rfl, hw2⟩
  rw [HZ1.out]
  have HX2 : Hid (Ext w1 w2) := by rw [hw2]; exact Ext.trans (ext_alloc _ _) (ext_alloc _ _)
  have HZ2 : Hid (w2.heap.size = w.heap.size + 4) := by rw [hw2]; have := HZ1.out; unfold Hid; simp; omega
  have HC2 : Hid (ChunkC (w.heap.size + 2) (w.heap.size + 3) (some ⟨b, o, none⟩) n c w2) := by
    rw [hw2]
    refine ⟨cell_of (ext_heap (ext_alloc _ _) (heap_at _ _ HZ1.out.symm)) rfl, cell_of (heap_at _ _ (by have := HZ1.out; simp; omega)) rfl⟩
  have HXW : Hid (Ext w w2) := Ext.trans HX1.out HX2.out
  clear hw2 HCK
  go_wp2_with fail
  rename_i ak
  refine (wpIn_wide (n := 6)).1 ?_
  refine wpIn_over rfl enters_chunk1 (chunk_iter HN.out.2.2 (by have := HN.out; omega)) (fun _ => rfl) (LdI w n c (some ⟨b, o, none⟩) Ls) (fun _ _ => False) (fun _ _ _ h => h.boxes) ?hI (fun _ _ _ h _ => h) ?h0 ?round ?done (fun _ _ _ _ h _ => h.elim)
  case hI =>
    intro n₁ k A1 A2 _ hi hc
    exact hi.chg (by rw [HZ2.out] at hc; exact hc)
  case h0 =>
    intro A1 hx
    have hx1 := Ext.trans HX2.out hx
    refine ⟨Ext.trans HXW.out hx, ⟨ext_cell hx HC2.out.1, ext_cell hx HC2.out.2⟩, ⟨none, 0, ?_, ?_⟩, ⟨none, 0, ?_, ?_⟩, Nat.le_refl _⟩
    · rw [Nat.mul_zero, Nat.zero_min, upto_zero]; exact ext_heap hx1 HF1.out
    · rw [Nat.mul_zero, Nat.zero_min, upto_zero]; exact World.ownsRow_nil _ _ _ _
    · rw [Nat.mul_zero, Nat.zero_min, ats_zero]; exact ext_heap hx1 HR1.out
    · rw [Nat.mul_zero, Nat.zero_min, ats_zero]; exact OwnI.nil _ _
  case round =>
    rintro l2 n₁ k ⟨X, m'⟩ A1 hl1 hl2 hn1 hnA hi hk ⟨hkn, hx⟩
    obtain ⟨m, hm⟩ : ∃ m, m = min 4 (n - 4 * k) := ⟨_, rfl⟩
    obtain ⟨hX, hm'⟩ : X = (some (⟨b, o, none⟩ : Addr)).map (·.add (4 * k * 4)) ∧ m' = m := by injection hx with h1 h2; exact ⟨h1, h2.trans hm.symm⟩
    obtain ⟨k0, hk0⟩ : ∃ k0, k0 = 4 * k := ⟨_, rfl⟩
    have HMK : Hid (1 ≤ m ∧ m ≤ 4 ∧ k0 + m ≤ n ∧ k0 % 4 = 0 ∧ min (4 * (k + 1)) n = k0 + m ∧ min (4 * k) n = k0) := by unfold Hid; omega
    obtain ⟨o2, ho2⟩ : ∃ o2, o2 = o + k0 * 4 := ⟨_, rfl⟩
    have HO2 := Lib.hid ho2
    have hXE : X = some ⟨b, o2, none⟩ := by rw [hX, ho2, hk0]; show some (Addr.add _ _) = _; rw [addr_add]
    rw [hXE, hm']
    have HN1 := Lib.hid hn1
    have HL12 := Lib.hid (And.intro hl1 hl2)
    have HI1 := Lib.hid hi
    clear hl1 hl2 hn1 hnA hi hk hkn hx hX hXE hm' hm hk0 ho2
    dsimp only [chunkV]
    gi_wp2
    refine ⟨Step.refl _ _ _, fun A2 hc => ?_⟩
    have HI2 := Lib.hid (HI1.out.chg (hc.mono fun i _ e => ⟨by have := HL12.out.1; have := HZ2.out; omega, by have := HL12.out.2; omega⟩))
    clear hc
    obtain ⟨FA, fc, hF, hFo⟩ := HI2.out.forms
    obtain ⟨RA, rc, hR, hRo⟩ := HI2.out.ats
    rw [HMK.out.2.2.2.2.2] at hF hFo hR hRo
    have HF := Lib.hid hF
    have HFO := Lib.hid hFo
    have HR := Lib.hid hR
    have HRO := Lib.hid hRo
    have q0 := hF.cell
    have q1 := hR.cell
    have q2 := hR.frozen
    have HZA := Lib.hid HI2.out.z
    have HS4 : Hid (w.heap.size + 4 < n₁) := by have := HN1.out; have := HZ2.out; unfold Hid; omega
    have HAL : Hid ((ats Ls k0).length ≤ 1000000000000) := by have := ats_len Ls k0; have := HMK.out; have := HN.out; unfold Hid; omega
    clear hF hFo hR hRo
    gi_wp2_with (gi_at_builtin; refine wpListIn_pushint rfl (.tmp 11) (.tmp 14) rfl n₁ _ (ats Ls k0) rfl (HRO.out.wall fun g hg => (ext_alloc _ _).block g (row_lt HRO.out g hg).2) (upto Ls k0).length A2.heap.size rfl (heap_at _ _ rfl) HAL.out (Nat.le_trans HZA.out (by simp)) ?_; intro R5 c5 w5 hown5 hgr5; have HO5 := Lib.hid hown5; have HG5 := Lib.hid hgr5; have hb5 : Boxed w5 (w.heap.size + 1) 84 (.slice RA (ats Ls k0).length rc) := (hgr5.block _ (by have := HR.out.lt; simp; omega) (fun e => by have := (row_lt HRO.out _ e.symm).1; have := HS4.out; omega)).trans (ext_heap (ext_alloc _ _) HR.out); have HB5 := Lib.hid hb5; have z1 := hb5.cell; have z2 := hb5.frozen; clear hown5 hgr5 hb5)
    obtain ⟨w6, hw6⟩ : ∃ w6, w6 = w5.setCell ⟨w.heap.size + 1, 0, none⟩ (.slice R5 ((ats Ls k0).length + 1) c5) := ⟨_, rfl⟩
    rw [← hw6]
    have HC6 : Hid (Chg (fun i => i = w.heap.size ∨ i = w.heap.size + 1 ∨ n₁ ≤ i) A2 w6) := by
      rw [hw6]
      exact ((Chg.alloc (S := fun i => i = w.heap.size ∨ i = w.heap.size + 1 ∨ n₁ ≤ i) A2 _).trans (Chg.grown HG5.out fun g hg => .inr (.inr (row_lt HRO.out g hg).1))).trans (Chg.setCell _ _ _ (.inr (.inl rfl)))
    have HA6 : Hid (Boxed w6 (w.heap.size + 1) 84 (.slice R5 ((ats Ls k0).length + 1) c5)) := by rw [hw6]; exact HB5.out.set _
    have HO6 : Hid (OwnI n₁ (ats Ls k0 ++ [(upto Ls k0).length]) (.slice R5 ((ats Ls k0).length + 1) c5) w6) := by
      rw [hw6]; exact HO5.out.wall fun g hg => Below.heap_setCell _ _ _ _ (by have := (row_lt HO5.out g hg).1; have := HS4.out; show g ≠ w.heap.size + 1; omega)
    have HFO6 : Hid (Own n₁ (upto Ls k0) (.slice FA (upto Ls k0).length fc) w6) := by
      have h1 := HFO.out.below (ext_alloc A2 (.cells #[.int .i64 ((upto Ls k0).length : Int)] 3))
      have h2 : Own n₁ (upto Ls k0) (.slice FA (upto Ls k0).length fc) w5 := h1.wall fun g hg => HG5.out.block g (row_lt h1 g hg).2 (fun e => rows_apart (HRO.out.wall fun g' hg' => (ext_alloc A2 (.cells #[.int .i64 ((upto Ls k0).length : Int)] 3)).block g' (row_lt HRO.out g' hg').2) h1 (by decide) e.symm hg)
      rw [hw6]; exact h2.wall fun g hg => Below.heap_setCell _ _ _ _ (by have := (row_lt h2 g hg).1; have := HS4.out; show g ≠ w.heap.size + 1; omega)
    have HF6 : Hid (Boxed w6 w.heap.size 26 (.slice FA (upto Ls k0).length fc)) := by
      have h1 : Boxed w5 w.heap.size 26 (.slice FA (upto Ls k0).length fc) := (HG5.out.block _ (by have := HF.out.lt; simp; omega) (fun e => by have := (row_lt HRO.out _ e.symm).1; have := HS4.out; omega)).trans (ext_heap (ext_alloc _ _) HF.out)
      rw [hw6]; exact (Below.heap_setCell _ _ _ _ (by show w.heap.size ≠ w.heap.size + 1; omega)).trans h1
    have hats : ats Ls k0 ++ [(upto Ls k0).length] = ats Ls (k0 + 1) := (ats_hit Ls HMK.out.2.2.2.1).symm
    have hatl : (ats Ls k0).length + 1 = (ats Ls (k0 + 1)).length := by rw [← hats]; simp
    rw [hats, hatl] at HO6
    rw [hatl] at HA6
    clear hw6 hats hatl z1 z2
    refine ⟨trivial, (CallsIn.inRound l2 (callsIn_wide.2 (behind_any _))).mono ?_⟩
    rintro x w7 ⟨rfl, hw7⟩
    have HX7 : Hid (Ext w6 w7) := by rw [hw7]; exact ext_alloc _ _
    obtain ⟨bx, hbx⟩ : ∃ bx, bx = w6.heap.size := ⟨_, rfl⟩
    have HB7 : Hid (Boxed w7 bx 26 (.slice none 0 0)) := by rw [hw7, hbx]; exact heap_at _ _ rfl
    have HBX : Hid (n₁ ≤ bx) := by rw [hbx]; exact Nat.le_trans HZA.out HC6.out.size
    have HF7 : Hid (Boxed w7 w.heap.size 26 (.slice FA (upto Ls k0).length fc)) := ext_heap HX7.out HF6.out
    have HFO7 : Hid (Own n₁ (upto Ls k0) (.slice FA (upto Ls k0).length fc) w7) := HFO6.out.below HX7.out
    have HA7 : Hid (Boxed w7 (w.heap.size + 1) 84 (.slice R5 (ats Ls (k0 + 1)).length c5)) := ext_heap HX7.out HA6.out
    have HO7 : Hid (OwnI n₁ (ats Ls (k0 + 1)) (.slice R5 (ats Ls (k0 + 1)).length c5) w7) := HO6.out.wall fun g hg => HX7.out.block g (row_lt HO6.out g hg).2
    have HC7 : Hid (Chg (fun i => i = w.heap.size ∨ i = w.heap.size + 1 ∨ n₁ ≤ i) A2 w7) := HC6.out.trans (Chg.of_ext HX7.out)
    have HBW : Hid (Below w.heap.size w A2) := HI2.out.below
    rw [← hbx]
    clear hw7 hbx q0 q1 q2 HI1 HC6 HA6 HO6 HFO6 HF6 HX7
    gi_wp2
    gi_loopw [19] (fun x wr => ∃ j : Nat, j ≤ m ∧ x = .int .i64 (j : Int) ∧ Hid (LdR w n₁ Ls k0 bx m A2 j wr)) (fun x _ => m - (intOf x).toNat)
    case atStart => exact ⟨0, Nat.zero_le _, rfl, ⟨HC7.out, ⟨_, _, HF7.out, HFO7.out⟩, ⟨_, _, HA7.out, HO7.out⟩, _, HB7.out, fun _ => ⟨0, 0, by
      have : ahOf Ls (k0 + 0) = [] := if_pos HMK.out.2.2.2.1
      rw [this]; exact Bs.nil _ _ _, Nat.zero_le _⟩⟩⟩
    case round =>
      obtain ⟨j, hj, rfl, HLR⟩ := hrel
      by_cases hlt : j < m
      · have d : decide ((j : Int) < (m : Int)) = true := by rw [decide_eq_true_eq]; exact Int.ofNat_lt.2 hlt
        have dn : decide (j < m) = true := by rw [decide_eq_true_eq]; exact hlt
        have HJ := Lib.hid hlt
        have n1 : (0 : Int) ≤ (j : Int) := by omega
        have n2 : (j : Int) < (m : Int) := Int.ofNat_lt.2 hlt
        have hkj : k0 + j < L.length := by have := HMK.out; have := HLN.out; omega
        obtain ⟨p, hp⟩ : ∃ p, L[k0 + j]? = some p := ⟨_, List.getElem?_eq_getElem hkj⟩
        have HP := Lib.hid hp
        have HBR : Hid (Below w.heap.size w wr) := HBW.out.trans (HLR.out.chg.below (fun i h => by have := HS4.out; omega) HBW.out.size)
        have HEr := Lib.hid (HE.out.below HBR.out HHI.out)
        obtain ⟨c0, c1, c2, c3⟩ := HEr.out.get hp
        have hoff : o + (k0 + j) * 4 = o2 + j * 4 := by have := HO2.out; omega
        rw [hoff] at c0 c1 c2 c3
        have HEM := Lib.hid (HEr.out.each p (List.mem_of_getElem? HP.out))
        have HMAY := Lib.hid (HM.out p (List.mem_of_getElem? HP.out))
        obtain ⟨FA2, fc2, hf2, hfo2⟩ := HLR.out.forms
        obtain ⟨hv, hk2, hk3⟩ := HLR.out.key
        obtain ⟨lo2, hi2, hk4, hk5⟩ := hk3 HJ.out
        have HPC : Hid (pieceOf Ls (k0 + j) = kform (ahOf Ls (k0 + j)) p.1) := piece_at (by rw [HLS.out, List.getElem?_map, HP.out]; rfl)
        have HPT : Hid (upto Ls (k0 + j + 1) = upto Ls (k0 + j) ++ kform (ahOf Ls (k0 + j)) p.1) := by rw [← HPC.out]; exact upto_succ Ls (k0 + j)
        have HAHL : Hid ((ahOf Ls (k0 + j)).length ≤ 32) := by
          unfold ahOf Hid
          split
          · simp
          · cases hq : Ls[k0 + j - 1]? with
            | none => simp
            | some q =>
              have hq2 : q ∈ Ls := List.mem_of_getElem? hq
              rw [HLS.out] at hq2
              obtain ⟨p2, hp2, rfl⟩ := List.mem_map.1 hq2
              exact (mayN_iff.1 (HM.out p2 hp2)).2.1
        have HFL : Hid ((upto Ls (k0 + j)).length ≤ 100000000) := by
          have h1 := upto_le (L := Ls) (fun e he => by rw [HLS.out] at he; obtain ⟨p2, hp2, rfl⟩ := List.mem_map.1 he; exact HM.out p2 hp2) (k0 + j)
          have := HMK.out; have := HN.out; have := HJ.out
          unfold Hid; omega
        obtain ⟨w4, hw4⟩ : ∃ w4, w4 = wr.alloc (.cells #[.slice p.2.kA p.1.key.length p.2.kc, .int .i64 p.1.seq, .int .i64 p.1.kind, .slice p.2.vA p.1.val.length p.2.vc] 55) := ⟨_, rfl⟩
        have HX4 : Hid (Ext wr w4) := by rw [hw4]; exact ext_alloc _ _
        have HE4 : Hid (w4.heap[wr.heap.size]? = some (.cells #[.slice p.2.kA p.1.key.length p.2.kc, .int .i64 p.1.seq, .int .i64 p.1.kind, .slice p.2.vA p.1.val.length p.2.vc] 55 (0, 0))) := by rw [hw4]; exact heap_at _ _ rfl
        have HF4 : Hid (Boxed w4 w.heap.size 26 (.slice FA2 (upto Ls (k0 + j)).length fc2)) := ext_heap HX4.out hf2
        have HFO4 : Hid (Own n₁ (upto Ls (k0 + j)) (.slice FA2 (upto Ls (k0 + j)).length fc2) w4) := hfo2.below HX4.out
        have HBX4 : Hid (Boxed w4 bx 26 hv) := ext_heap HX4.out hk2
        have HBXR := Lib.hid hk2
        have HFOR := Lib.hid hfo2
        have HZR : Hid (n₁ ≤ wr.heap.size) := Nat.le_trans HZA.out HLR.out.chg.size
        have HEB : Hid (wr.heap.size < w4.heap.size) := (Array.getElem?_eq_some_iff.1 HE4.out).1
        have HCL := Lib.hid (clo_any (w := w4.drew) (lo := lo) (hi := hi) (bx := bx) (e := p.1) (g := p.2) (ah := ahOf Ls (k0 + j)) (HEM.out.below (Ext.trans HX4.out (Ext.drew w4)) (Nat.le_trans HHI.out HBR.out.size)) (Nat.le_trans HHI.out (Nat.le_trans HBR.out.size HX4.out.size)) HMAY.out (ext_heap HX4.out hk2) (hk4.below (Ext.trans HX4.out (Ext.drew w4)) hk5) (Nat.le_trans hk5 HX4.out.size) (by have := HAHL.out; omega) (.inr (by have := HHI.out; have := HS4.out; have := HBX.out; omega)))
        have HMIX : Tryz.prog.follows .mixedOrders = true := by kernel_rfl
        clear hf2 hfo2 hk2 hk3 hk4 hk5 hoff hp hkj
        gi_wp2
        rw [← hw4]
        clear hw4
        refine Fi.flow_tail_in HMIX (by kernel_rfl) (fun _ _ h => h) (FI w4.drew (.slice FA2 (upto Ls (k0 + j)).length fc2) (.func (.func 156) #[] #[.pointer (some ⟨bx, 0, none⟩)]) (p.1.at_ p.2) (fun v u => CloAns w4.drew bx (ahOf Ls (k0 + j)) p.1 p.2 (.returned v) u)) 4 (by kernel_rfl) (by kernel_rfl) (by kernel_rfl) (by kernel_rfl) (fun f => FI.start f) (fun f1 => ?obl) ?fin
        case fin =>
          intro g1 sn u hs _ hI
          simp only [List.take_succ_cons, List.take_zero, List.drop_succ_cons, List.drop_zero, puts, Act.put, zq1, zq2, zq3]
          have e0 := hI.h0 (hs 0 (by decide))
          obtain ⟨⟨hg, hb, A9, c9, hx2, ho⟩, _, _⟩ := hI.y3 (hs 3 (by decide))
          have e3 : g1 3 = .slice A9 (kform (ahOf Ls (k0 + j)) p.1).length c9 := by injection hx2
          rw [e0, e3]
          have HG := Lib.hid hg
          have HB := Lib.hid hb
          have HO9 := Lib.hid ho
          have HNR4 : Hid (some bx ≠ (Value.slice FA2 (upto Ls (k0 + j)).length fc2).ownBlock) := Boxed.not_row HBX4.out (by decide) HFO4.out
          have HOU : Hid (Own n₁ (upto Ls (k0 + j)) (.slice FA2 (upto Ls (k0 + j)).length fc2) u) := HFO4.out.wall fun g hg' => HG.out.block g (row_lt HFO4.out g hg').2 (fun e => HNR4.out (e.symm.trans hg'.symm))
          have HZU : Hid (n₁ ≤ u.heap.size ∧ wr.heap.size ≤ u.heap.size) := by have h1 := HG.out.size; have h2 := HX4.out.size; have h3 := HZR.out; have h4 : w4.drew.heap.size = w4.heap.size := rfl; unfold Hid; omega
          have hbw : bx ≠ w.heap.size := by have := HBX.out; have := HS4.out; omega
          have HFU : Hid (Boxed u w.heap.size 26 (.slice FA2 (upto Ls (k0 + j)).length fc2)) := (HG.out.block w.heap.size HF4.out.lt (fun e => by injection e with e; exact hbw e.symm)).trans HF4.out
          have HBW2 := Lib.hid hbw
          clear e0 e3 hg hb hx2 ho hI hs hbw
          refine wpList_addrow rfl (.tmp 23) (.tmp 26) rfl n₁ _ (upto Ls (k0 + j)) rfl HOU.out _ _ _ _ rfl HO9.out.bs (kform_pos _ _) (by have := HFL.out; have := kform_len (ah := ahOf Ls (k0 + j)) HMAY.out; omega) HZU.out.1 ?_
          intro A5 c5 w5 ho5 hg5
          have HRL : Hid (∀ g, (Value.slice FA2 (upto Ls (k0 + j)).length fc2).ownBlock = some g → n₁ ≤ g) := fun g hg => (row_lt HOU.out g hg).1
          have hb5 : Boxed w5 w.heap.size 26 (.slice FA2 (upto Ls (k0 + j)).length fc2) := (hg5.block _ HFU.out.lt (fun e => by have := HRL.out _ e.symm; have := HS4.out; omega)).trans HFU.out
          have HB5 := Lib.hid hb5
          have HO5 := Lib.hid ho5
          have HG5 := Lib.hid hg5
          have z1 := hb5.cell
          have z2 := hb5.frozen
          clear hb5 ho5 hg5
          go_wp2_with fail
          gi_wp2
          obtain ⟨w6, hw6⟩ : ∃ w6, w6 = w5.setCell ⟨w.heap.size, 0, none⟩ (.slice A5 ((upto Ls (k0 + j)).length + (kform (ahOf Ls (k0 + j)) p.1).length) c5) := ⟨_, rfl⟩
          have hset : ∀ g, g ≠ w.heap.size → w6.heap[g]? = w5.heap[g]? := fun g hg => by rw [hw6]; exact Below.heap_setCell _ _ _ _ hg
          have hc6 : Chg (fun i => i = w.heap.size ∨ i = w.heap.size + 1 ∨ n₁ ≤ i) A2 w6 := by
            rw [hw6]
            exact (((HLR.out.chg.trans (Chg.of_ext (Ext.trans HX4.out (Ext.drew w4)))).trans (Chg.grown HG.out fun g hg => .inr (.inr (by injection hg with hg; rw [← hg]; exact HBX.out)))).trans (Chg.grown HG5.out fun g hg => .inr (.inr (HRL.out g hg)))).trans (Chg.setCell _ _ _ (.inl rfl))
          have hb6 : Boxed w6 w.heap.size 26 (.slice A5 (upto Ls (k0 + j) ++ kform (ahOf Ls (k0 + j)) p.1).length c5) := by rw [hw6, List.length_append]; exact HB5.out.set _
          have ho6 : Own n₁ (upto Ls (k0 + j) ++ kform (ahOf Ls (k0 + j)) p.1) (.slice A5 (upto Ls (k0 + j) ++ kform (ahOf Ls (k0 + j)) p.1).length c5) w6 := HO5.out.wall fun g hg => hset g (by have := (row_lt HO5.out g hg).1; have := HS4.out; omega)
          have hall : ∀ g, g < wr.heap.size → g ≠ w.heap.size → g ≠ bx → (∀ q, (Value.slice FA2 (upto Ls (k0 + j)).length fc2).ownBlock = some q → q ≠ g) → w6.heap[g]? = wr.heap[g]? := fun g h1 h2 h3 h4 => by
            rw [hset g h2, HG5.out.block g (Nat.lt_of_lt_of_le h1 HZU.out.2) (fun e => h4 g e.symm rfl), HG.out.block g (Nat.lt_of_lt_of_le h1 HX4.out.size) (fun e => by injection e with e; exact h3 e)]
            exact HX4.out.block g h1
          have hbelow : Below w.heap.size w w6 := HBW.out.trans (hc6.below (fun i h => by have := HS4.out; omega) HBW.out.size)
          rw [← hw6]
          clear hw6 z1 z2
          obtain ⟨RA2, rc2, hra, hro⟩ := HLR.out.ats
          have hrob : ∀ g, (Value.slice RA2 (ats Ls (k0 + 1)).length rc2).ownBlock = some g → w6.heap[g]? = wr.heap[g]? := fun g hg => by
            refine hall g (row_lt hro g hg).2 (by have := (row_lt hro g hg).1; have := HS4.out; omega) (fun e => ?_) (fun q hq e => ?_)
            · have := Boxed.not_row HBXR.out (show 26 ≠ 3 by decide) hro
              exact this (by rw [hg, e])
            · subst e
              exact rows_apart HFOR.out hro (by decide) hq hg
          have hbx6 : Boxed w6 bx 26 (.slice p.2.kA p.1.key.length p.2.kc) := by
            have h1 : Boxed w5 bx 26 (.slice p.2.kA p.1.key.length p.2.kc) := (HG5.out.block _ HB.out.lt (Boxed.not_row HB.out (by decide) HOU.out)).trans HB.out
            exact (hset bx HBW2.out).trans h1
          refine ⟨⟨j + 1, HJ.out, ?_, ⟨hc6, ⟨A5, c5, ?_, ?_⟩, ⟨RA2, rc2, ?_, hro.wall hrob⟩, _, hbx6, fun hjm => ⟨lo, hi, ?_, Nat.le_trans HHI.out hbelow.size⟩⟩⟩, ?_⟩
          · rw [wrap_succ (by have := HJ.out; have := HMK.out; omega)]
          · show Boxed w6 w.heap.size _ (.slice A5 (upto Ls (k0 + j + 1)).length c5)
            rw [HPT.out]; exact hb6
          · show Own n₁ (upto Ls (k0 + j + 1)) (.slice A5 (upto Ls (k0 + j + 1)).length c5) w6
            rw [HPT.out]; exact ho6
          · refine (hall _ hra.lt (by omega) (by have := HBX.out; have := HS4.out; omega) (fun q hq e => ?_)).trans hra
            have := HRL.out q hq; have := HS4.out; omega
          · have e1 : ahOf Ls (k0 + (j + 1)) = p.1.key := by
              unfold ahOf
              rw [if_neg (by have := HMK.out; omega), show k0 + (j + 1) - 1 = k0 + j by omega, HLS.out, List.getElem?_map, HP.out]; rfl
            rw [e1]
            exact ((HE.out.below hbelow HHI.out).each p (List.mem_of_getElem? HP.out)).k
          · rw [wrap_succ (by have := HJ.out; have := HMK.out; omega)]
            have := HJ.out
            simp [intOf]; omega
        case obl =>
          have hfu : ∀ sn u', FI w4.drew (.slice FA2 (upto Ls (k0 + j)).length fc2) (.func (.func 156) #[] #[.pointer (some ⟨bx, 0, none⟩)]) (p.1.at_ p.2) (fun v u => CloAns w4.drew bx (ahOf Ls (k0 + j)) p.1 p.2 (.returned v) u) sn f1 u' → Boxed u' w.heap.size 26 (.slice FA2 (upto Ls (k0 + j)).length fc2) := fun sn u' hI => by
            cases h3 : sn 3 with
            | false => rw [hI.n3 h3]; exact HF4.out
            | true =>
              obtain ⟨⟨hg, _⟩, _⟩ := hI.y3 h3
              exact (hg.block w.heap.size HF4.out.lt (fun e => by injection e with e; have := HBX.out; have := HS4.out; omega)).trans HF4.out
          have HFU := Lib.hid hfu
          clear hfu
          refine ⟨fun sn u' hI hn hd => ?_, ?_⟩
          · have q := (HFU.out sn u' hI).cell
            have HI := Lib.hid hI
            clear hI hn hd
            go_simp
            exact HI.out.s0
          refine ⟨fun sn u' hI hn hd => ?_, ?_⟩
          · simp only [Act.put, zq1, zq2, zq3]
            have HI := Lib.hid hI
            clear hI hn hd
            go_simp
            exact HI.out.s1
          refine ⟨fun sn u' hI hn hd => ?_, ?_⟩
          · simp only [Act.put, zq1, zq2, zq3]
            have h3 : sn 3 = false := by
              cases h3 : sn 3 with
              | false => rfl
              | true => rw [(hI.y3 h3).2.2] at hn; cases hn
            have hu := hI.n3 h3
            subst hu
            have q0 : w4.drew.cell? ⟨wr.heap.size, 0, none⟩ = _ := cell_of HE4.out (k := 0) rfl
            have q1 : w4.drew.cell? ⟨wr.heap.size, 1, none⟩ = _ := cell_of HE4.out (k := 1) rfl
            have q2 : w4.drew.cell? ⟨wr.heap.size, 2, none⟩ = _ := cell_of HE4.out (k := 2) rfl
            have q3 : w4.drew.cell? ⟨wr.heap.size, 3, none⟩ = _ := cell_of HE4.out (k := 3) rfl
            have HI := Lib.hid hI
            clear hI hn hd h3
            go_simp
            exact HI.out.s2
          refine ⟨fun sn u' hI hn hd => ?_, ?_⟩
          · simp only [Act.put, zq1, zq2, zq3]
            have k1 : sn 1 = true := hd 1 (by kernel_rfl)
            have k2 : sn 2 = true := hd 2 (by kernel_rfl)
            have e1 := hI.h1 k1
            have e2 := hI.h2 k2
            have hu := hI.n3 hn
            subst hu
            have HI := Lib.hid hI
            have HK := Lib.hid (And.intro k1 k2)
            clear hI hn hd k1 k2
            have hec := enters_clo
            go_simp
            refine HCL.out.mono ?_
            rintro x w9 ⟨hg, hb, A9, c9, rfl, ho⟩
            exact ⟨_, rfl, HI.out.s3 HK.out.1 HK.out.2 ⟨hg, hb, A9, c9, rfl, ho⟩⟩
          trivial
      · have d : decide ((j : Int) < (m : Int)) = false := by rw [decide_eq_false_iff_not]; exact fun h => hlt (Int.ofNat_lt.1 h)
        have dn : decide (j < m) = false := by rw [decide_eq_false_iff_not]; exact hlt
        have hjm : j = m := by omega
        have HJM := Lib.hid hjm
        clear hlt hj hjm
        gi_wp2
        have hc := HLR.out.chg
        obtain ⟨FA3, fc3, h1, h2⟩ := HLR.out.forms
        obtain ⟨RA3, rc3, h3, h4⟩ := HLR.out.ats
        have hbelow : Below w.heap.size w wr := HBW.out.trans (hc.below (fun i h => by have := HS4.out; omega) HBW.out.size)
        refine ⟨Step.of_chg hc HZA.out (fun i h5 h6 h7 => by have := HZ2.out; omega), ⟨hbelow, ⟨cell_chg HI2.out.boxes.1 hc (fun hs => ?_), cell_chg HI2.out.boxes.2 hc (fun hs => ?_)⟩, ⟨FA3, fc3, ?_, ?_⟩, ⟨RA3, rc3, ?_, ?_⟩, Nat.le_trans HZA.out hc.size⟩⟩
        · have hs' : w.heap.size + 2 = w.heap.size ∨ w.heap.size + 2 = w.heap.size + 1 ∨ n₁ ≤ w.heap.size + 2 := hs
          have := HS4.out; omega
        · have hs' : w.heap.size + 3 = w.heap.size ∨ w.heap.size + 3 = w.heap.size + 1 ∨ n₁ ≤ w.heap.size + 3 := hs
          have := HS4.out; omega
        · rw [HMK.out.2.2.2.2.1, ← HJM.out]; exact h1
        · rw [HMK.out.2.2.2.2.1, ← HJM.out]; exact h2
        · rw [HMK.out.2.2.2.2.1, ats_four Ls HMK.out.2.2.2.1 HMK.out.1 HMK.out.2.1]; exact h3
        · rw [HMK.out.2.2.2.2.1, ats_four Ls HMK.out.2.2.2.1 HMK.out.1 HMK.out.2.1]; exact h4
  case done =>
    rintro D n₁ W hDl hDn hn1 hi hD
    have hmn : min (4 * ((n + 3) / 4)) n = n := by omega
    obtain ⟨FA, fc, hF, hFo⟩ := hi.forms
    obtain ⟨RA, rc, hR, hRo⟩ := hi.ats
    rw [hmn] at hF hFo hR hRo
    have HF := Lib.hid hF
    have HFO := Lib.hid hFo
    have HR := Lib.hid hR
    have HRO := Lib.hid hRo
    have HDL := Lib.hid (And.intro hDl hDn)
    have HDD := Lib.hid hD
    have HIB := Lib.hid hi.below
    have HN1 : Hid (w.heap.size + 6 ≤ n₁) := by have := HZ2.out; unfold Hid; omega
    have HMIX : Tryz.prog.follows .mixedOrders = true := by kernel_rfl
    clear hDl hDn hn1 hi hD hmn hF hFo hR hRo
    refine ak _ _ ?_
    go_upto_region 10 with (fail)
    refine Fi.flow HMIX (SI w.heap.size (w.heap.size + 1) W.drew (.slice FA (upto Ls n).length fc) (.slice RA (ats Ls n).length rc)) (by kernel_rfl) (by kernel_rfl) (fun f => ⟨Chg.refl _ _, HF.out, HR.out, fun h => (by cases h), fun h => (by cases h)⟩) (fun f1 => ?obl) ?fin
    case fin =>
      intro g1 sn u hs hI
      simp only [puts, Act.put, zq1, zq2, zq3]
      have HI := Lib.hid hI
      clear hI hs
      go_wp2_with fail
      refine ⟨by simp, .inl ⟨_, _, rfl, run_takeDeferred (by rw [HI.out.chg.block D (Array.getElem?_eq_some_iff.1 HDD.out).1 (fun e => by have := HDL.out; have := HZ2.out; omega)]; exact HDD.out), ?_⟩⟩
      have hp : Chg (fun i => i = w.heap.size ∨ i = w.heap.size + 1 ∨ i = D) W (u.putObj D (.deferred none)) := by
        have h1 := HI.out.chg
        exact ((Chg.drew W).trans (h1.mono fun i _ h => by rcases h with h | h; exact .inl h; exact .inr (.inl h))).trans ((putObj_chg u D _).mono fun i _ h => .inr (.inr h))
      have hne : ∀ i, i < D → (u.putObj D (.deferred none)).heap[i]? = u.heap[i]? := fun i h => World.putObj_heap_other (by omega)
      have hfa : Boxed (u.putObj D (.deferred none)) w.heap.size 26 (.slice FA (upto Ls n).length fc) := (hne _ (by have := HDL.out; have := HZ2.out; omega)).trans HI.out.a
      have hrb : Boxed (u.putObj D (.deferred none)) (w.heap.size + 1) 84 (.slice RA (ats Ls n).length rc) := (hne _ (by have := HDL.out; have := HZ2.out; omega)).trans HI.out.b
      refine ⟨_, results_two rfl _ _ _ _ _ _ rfl rfl hfa.cell hrb.cell, ?_⟩
      have hx : Ext w (u.putObj D (.deferred none)) := HIB.out.trans (hp.below (fun i h => by have := HDL.out; have := HZ2.out; omega) HIB.out.size)
      have hk : ∀ g, n₁ ≤ g → g < W.heap.size → (u.putObj D (.deferred none)).heap[g]? = W.heap[g]? := fun g h1 h2 => hp.block g h2 (fun h => by have := HDL.out; have := HN1.out; omega)
      refine ⟨hx, FA, fc, RA, rc, by rw [HNL.out], ?_, ?_⟩
      · rw [HNL.out]
        exact (HFO.out.wall fun g hg => hk g (row_lt HFO.out g hg).1 (row_lt HFO.out g hg).2).base (by have := HN1.out; omega)
      · rw [HNL.out]
        exact (HRO.out.wall fun g hg => hk g (row_lt HRO.out g hg).1 (row_lt HRO.out g hg).2).base (by have := HN1.out; omega)
    case obl =>
      refine ⟨fun sn u' hI hn hd => ?_, ?_⟩
      · have q := hI.a.cell
        have HI := Lib.hid hI
        clear hI hn hd
        go_simp
        exact HI.out.s0
      refine ⟨fun sn u' hI hn hd => ?_, ?_⟩
      · simp only [Act.put, zq1, zq2, zq3]
        have q := hI.b.cell
        have HI := Lib.hid hI
        clear hI hn hd
        go_simp
        exact HI.out.s1
      refine ⟨fun sn u' hI hn hd => ?_, ?_⟩
      · simp only [Act.put, zq1, zq2, zq3]
        have k0 : sn 0 = true := hd 0 (by kernel_rfl)
        have e0 := hI.h0 k0
        have q := hI.a.cell
        have z := hI.a.frozen
        have HI := Lib.hid hI
        clear hI hn hd k0
        go_simp
        exact HI.out.s2 (by omega)
      refine ⟨fun sn u' hI hn hd => ?_, ?_⟩
      · simp only [Act.put, zq1, zq2, zq3]
        have k0 : sn 1 = true := hd 1 (by kernel_rfl)
        have e0 := hI.h1 k0
        have q := hI.b.cell
        have z := hI.b.frozen
        have HI := Lib.hid hI
        clear hI hn hd k0
        go_simp
        exact HI.out.s3 (by omega)
      trivial
end Go.Proofs.YthhgjeeangepaaaGreat
namespace Go.Proofs.YthhgjeeangepaaaGreat
open Go.ChangeShapes Go.WideShapes Go.ChangeAt Go.RowKit
theorem wpList_pushint {ops : Array Oper} {rest : List Oper} {o : Oper} {a : Act} {Q : Exit → Act → World → Prop} {u : World} (hgd : o.guard = none) (s x : Operand)
    (ho : o.op = .call { callee := .builtin .append, args := #[s, x], argTypes := #[84, 84] }) (B : Nat) (v : Value) (l : List Nat) (hs : a.eval s = v) (hown : OwnI B l v u)
    (n gb : Nat) (hx : a.eval x = .slice (some ⟨gb, 0, none⟩) 1 1) (hblk : u.heap[gb]? = some (.cells #[.int .i64 (n : Int)] 3 (0, 0))) (hlen : l.length ≤ 1000000000000) (hB : B ≤ u.heap.size)
    (h : ∀ A' c' w', OwnI B (l ++ [n]) (.slice A' (l.length + 1) c') w' → u.grownBy w' v.ownBlock → wpList Tryz.prog ops Q rest (a.put o.dst (.slice A' (l.length + 1) c')) w') :
    wpList Tryz.prog ops Q (o :: rest) a u := by
  obtain ⟨i0, hi0', ix0, ix1, ix2⟩ := info_parts iinfo
  refine wpList_append_own _ hgd s x 84 ho B 3 i0 _ 1 8 Tryz.underlying84 hi0' ix0 ix1 ix2 rfl (by decide) v l.length (iv l) hs hown ⟨gb, 0, none⟩ 1 1 [.int .i64 (n : Int)] hx rfl (fun j q hj => ?n1) (fun q hq => ?n2) ?n3 ?n4 hB (fun v' w5 ho hgr _ => ?rest)
  case n1 =>
    rcases j with _ | j
    · simp at hj; subst hj; rw [addr_add, Nat.zero_add]; exact cell_of hblk rfl
    · simp at hj
  case n2 => rw [List.mem_singleton] at hq; subst hq; rfl
  case n3 => unfold maxLen; omega
  case n4 => omega
  case rest =>
    have ho' : OwnI B (l ++ [n]) v' w5 := by unfold OwnI; rw [List.length_append, iv_append]; exact ho
    obtain ⟨A', c', e⟩ := ho'.slice
    rw [List.length_append] at e
    subst e
    exact h A' c' w5 ho' hgr
theorem bs_be4 (W : World) (x : Nat) : Bs (W.alloc (.cells #[.int .u8 ((x : Int) / 16777216 % 256), .int .u8 ((x : Int) / 65536 % 256), .int .u8 ((x : Int) / 256 % 256), .int .u8 ((x : Int) % 256)] 5)) W.heap.size (W.heap.size + 1) (.slice (some ⟨W.heap.size, 0, none⟩) 4 4) (be4 x) := by
  refine ⟨_, 4, rfl, Nat.le_refl _, by unfold maxLen; omega, fun h => (by cases h), .inr ⟨_, 0, rfl, Nat.le_refl _, by omega, fun i u hu => ?_⟩⟩
  rw [Nat.zero_add]
  refine cell_of (heap_at _ _ rfl) ?_
  rw [← hu]
  have e : bv (be4 x) = [.int .u8 ((x : Int) / 16777216 % 256), .int .u8 ((x : Int) / 65536 % 256), .int .u8 ((x : Int) / 256 % 256), .int .u8 ((x : Int) % 256)] := by simp [bv, be4]
  rw [e]
  exact (List.getElem?_toArray ..)
def WriteAns (w : World) (Ls : List Ent) (x : Ending) (w' : World) : Prop :=
  Ext w w' ∧ ((MayB Ls ∧ ∃ A c, x = .returned (.tuple #[.slice A (wr Ls).length c, .int .i64 0]) ∧ Own w.heap.size (wr Ls) (.slice A (wr Ls).length c) w') ∨ (¬ MayB Ls ∧ x = .returned (.tuple #[.slice none 0 0, .int .i64 2])))
theorem WriteAns.no {w w' : World} {Ls : List Ent} (hx : Ext w w') (h : ¬ MayB Ls) : WriteAns w Ls (.returned (.tuple #[.slice none 0 0, .int .i64 2])) w' := ⟨hx, .inr ⟨h, rfl⟩⟩
set_option maxRecDepth 100000 in
set_option maxHeartbeats 8000000 in
theorem write_any {w : World} {lo hi c : Nat} {A : Option Addr} {L : List (Ent × Hd)} (h : Es w lo hi A L) (hhi : hi ≤ w.heap.size) (hlc : L.length ≤ c) (hlen : L.length ≤ 1000000000000) :
    Calls Tryz.prog 78 #[.slice A L.length c] w (WriteAns w (L.map Prod.fst)) := by
  have HMB : Hid (MayB (L.map Prod.fst) ↔ 1 ≤ L.length ∧ L.length ≤ 1024 ∧ Rise (L.map Prod.fst) ∧ (L.all fun p => p.1.may) = true) := by
    unfold MayB Hid
    rw [List.length_map, List.all_eq_true]
    refine ⟨fun ⟨h1, h2, h3, h4⟩ => ⟨h1, h2, h3, fun p hp => h4 _ (List.mem_map_of_mem hp)⟩, fun ⟨h1, h2, h3, h4⟩ => ⟨h1, h2, h3, fun e he => ?_⟩⟩
    obtain ⟨p, hp, rfl⟩ := List.mem_map.1 he
    exact h4 p hp
  have HR := Lib.hid (rises_any (c := c) h hhi hlen)
  have HE := Lib.hid h
  have HHI := Lib.hid hhi
  have HLC := Lib.hid hlc
  clear h hhi hlc
  obtain ⟨n, hn⟩ : ∃ n, n = L.length := ⟨_, rfl⟩
  rw [← hn] at HMB HR ⊢
  have HN := Lib.hid hn
  clear hlen
  by_cases h1 : n < 1
  · have d1 : decide ((n : Int) < 1) = true := by rw [decide_eq_true_eq]; omega
    have HF := Lib.hid (WriteAns.no (w := w) (Ls := L.map Prod.fst) (Ext.refl _) (fun hm => by have := HMB.out.1 hm; omega))
    clear h1 hn
    go_enter Tryz.func78, Tryz.ntmps78
    go_wp2_with fail
    go_ret2
    exact HF.out
  have d1 : decide ((n : Int) < 1) = false := by rw [decide_eq_false_iff_not]; omega
  by_cases h2 : 1024 < n
  · have d2 : decide ((1024 : Int) < (n : Int)) = true := by rw [decide_eq_true_eq]; omega
    have HF := Lib.hid (WriteAns.no (w := w) (Ls := L.map Prod.fst) (Ext.refl _) (fun hm => by have := HMB.out.1 hm; omega))
    clear h1 h2 hn
    go_enter Tryz.func78, Tryz.ntmps78
    go_wp2_with fail
    go_ret2
    exact HF.out
  have d2 : decide ((1024 : Int) < (n : Int)) = false := by rw [decide_eq_false_iff_not]; omega
  have H12 : Hid (1 ≤ n ∧ n ≤ 1024) := by unfold Hid; omega
  clear h1 h2 hn
  go_enter Tryz.func78, Tryz.ntmps78
  go_wp2_with fail
  refine HR.out.mono ?_
  rintro x w2 ⟨z, hz, rfl, hx2⟩
  have HZ := Lib.hid hz
  have HX2 := Lib.hid hx2
  clear hz hx2
  cases z with
  | false =>
    have HF := Lib.hid (WriteAns.no (w := w) (Ls := L.map Prod.fst) HX2.out (fun hm => by have := HZ.out.2 ⟨(HMB.out.1 hm).2.2.1, (HMB.out.1 hm).2.2.2⟩; cases this))
    go_wp2_with fail
    go_ret2
    exact HF.out
  | true =>
    have HMAY := Lib.hid (HMB.out.2 ⟨H12.out.1, H12.out.2, HZ.out.1 rfl⟩)
    have HAM : Hid (∀ p ∈ L, p.1.may = true) := fun p hp => by have := (HZ.out.1 rfl).2; rw [List.all_eq_true] at this; exact this p hp
    clear HZ
    go_wp2_with fail
    have HLD := laid_any (c := c) (HE.out.below HX2.out HHI.out) (Nat.le_trans HHI.out HX2.out.size) HLC.out (by rw [← HN.out]; exact H12.out.1) (by rw [← HN.out]; exact H12.out.2) HAM.out
    rw [← HN.out] at HLD
    refine HLD.mono ?_
    clear HLD
    rintro x w3 ⟨hx3, FA, fc, RA, rc, rfl, hf, hr⟩
    obtain ⟨Ls, hLs⟩ : ∃ Ls, Ls = L.map Prod.fst := ⟨_, rfl⟩
    rw [← hLs] at hf hr HMAY ⊢
    have HX3 : Hid (Ext w w3) := Ext.trans HX2.out hx3
    have HF := Lib.hid (hf.base HX2.out.size)
    have HRO := Lib.hid (hr.base HX2.out.size)
    have HLB : Hid ((ats Ls Ls.length).length ≤ 1000 ∧ (upto Ls Ls.length).length ≤ 100000000) := by
      have h1 := ats_len Ls Ls.length
      have h2 := upto_le HMAY.out.2.2.2 Ls.length
      have h3 := HMAY.out.2.1
      unfold Hid; omega
    obtain ⟨K, hK⟩ : ∃ K, K = (ats Ls Ls.length).length := ⟨_, rfl⟩
    have HKK := Lib.hid hK
    rw [← hK]
    have HLSE := Lib.hid hLs
    clear hx3 hf hr hLs hK
    have hatl : ∀ W : World, OwnI w.heap.size (ats Ls Ls.length) (.slice RA K rc) W → OwnI w.heap.size (ats Ls Ls.length) (.slice RA (ats Ls Ls.length).length rc) W := fun W h => by rw [← HKK.out]; exact h
    have HRK : Hid (OwnI w.heap.size (ats Ls Ls.length) (.slice RA K rc) w3) := by rw [HKK.out]; exact HRO.out
    clear hatl
    go_wp2_with (at_builtin; refine wpList_pushint rfl (.tmp 26) (.tmp 29) rfl w.heap.size _ (ats Ls Ls.length) rfl (HRK.out.wall fun g hg => (ext_alloc _ _).block g (row_lt HRK.out g hg).2) K w3.heap.size rfl (heap_at _ _ rfl) (by have := HLB.out; omega) (Nat.le_trans HX3.out.size (ext_alloc _ _).size) ?_)
    intro R5 c5 w5 ho5 hg5
    have hro1 := HRK.out.wall fun g hg => (ext_alloc w3 (.cells #[.int .i64 (K : Int)] 3)).block g (row_lt HRK.out g hg).2
    have hfo1 := HF.out.below (ext_alloc w3 (.cells #[.int .i64 (K : Int)] 3))
    have HF5 : Hid (Own w.heap.size (upto Ls Ls.length) (.slice FA (upto Ls Ls.length).length fc) w5) := hfo1.wall fun g hg => hg5.block g (row_lt hfo1 g hg).2 (fun e => rows_apart hro1 hfo1 (by decide) e.symm hg)
    have HX5 : Hid (Ext w w5) := (Ext.trans HX3.out (ext_alloc w3 (.cells #[.int .i64 (K : Int)] 3))).grown hg5 (Ext.trans HX3.out (ext_alloc _ _)).size (fun k hk => (row_lt hro1 k hk).1)
    have HR5 := Lib.hid ho5
    obtain ⟨R, hR⟩ : ∃ R, R = ats Ls Ls.length ++ [K] := ⟨_, rfl⟩
    rw [← hR] at HR5
    have HRL : Hid (R.length = K + 1 ∧ R.length ≤ 2000) := by have := HLB.out; have := HKK.out; rw [hR]; unfold Hid; simp; omega
    have HRB : Hid (∀ x ∈ R, x < 4294967296) := by
      intro x hx
      rw [hR] at hx
      rcases List.mem_append.1 hx with hx | hx
      · exact ats_lt HMAY.out.2.2.2 HMAY.out.2.1 x hx
      · rw [List.mem_singleton] at hx; have := HLB.out; have := HKK.out; omega
    have HWR : Hid (wr Ls = upto Ls Ls.length ++ R.flatMap be4) := by
      rw [hR, HKK.out]; unfold wr Hid; simp
    have hkl : (ats Ls Ls.length).length + 1 = R.length := by rw [hR]; simp
    rw [hkl] at HR5 ⊢
    clear hro1 hfo1 ho5 hg5 hR hkl
    obtain ⟨rb, rfl⟩ : ∃ rb, R5 = some ⟨rb, 0, none⟩ := by
      rcases HR5.out.2 with ⟨h1, _⟩ | ⟨g, cap, cur, hv, _⟩
      · injection h1 with _ h2 _; have := HRL.out; omega
      · injection hv with h1 _ _; exact ⟨g, h1⟩
    go_wp2_with fail
    go_loopw [4, 7, 32] (fun v _ x wr => ∃ (i : Nat) (BA : Option Addr) (bc : Nat), i ≤ R.length ∧ x = .int .i64 (i : Int) ∧ v = .slice BA (upto Ls Ls.length ++ (R.take i).flatMap be4).length bc ∧ Hid (Own w.heap.size (upto Ls Ls.length ++ (R.take i).flatMap be4) (.slice BA (upto Ls Ls.length ++ (R.take i).flatMap be4).length bc) wr) ∧ Hid (Ext w wr) ∧ Hid (OwnI w.heap.size R (.slice (some ⟨rb, 0, none⟩) R.length c5) wr))
      (fun _ _ x _ => R.length - (intOf x).toNat)
    case atStart => exact ⟨0, FA, fc, Nat.zero_le _, rfl, by simp, by simpa using HF5, HX5, HR5⟩
    case round =>
      obtain ⟨i, BA, bc, hi, rfl, rfl, HB, HX, HRR⟩ := hrel
      obtain ⟨T, hT⟩ : ∃ T, T = upto Ls Ls.length ++ (R.take i).flatMap be4 := ⟨_, rfl⟩
      have HT := Lib.hid hT
      rw [← hT] at HB ⊢
      clear hT
      by_cases hlt : i < R.length
      · have d : decide ((i : Int) < (R.length : Int)) = true := by rw [decide_eq_true_eq]; exact Int.ofNat_lt.2 hlt
        have dn : decide (i < R.length) = true := by rw [decide_eq_true_eq]; exact hlt
        have HLT := Lib.hid hlt
        have n1 : (0 : Int) ≤ (i : Int) := by omega
        have n2 : (i : Int) < (R.length : Int) := Int.ofNat_lt.2 hlt
        obtain ⟨x, hx⟩ : ∃ x, R[i]? = some x := ⟨_, List.getElem?_eq_getElem hlt⟩
        have HXI := Lib.hid hx
        have HX32 := Lib.hid (HRB.out x (List.mem_of_getElem? hx))
        have c0 := HRR.out.cells (g := rb) rfl i (.int .i64 (x : Int)) (by rw [iv, List.getElem?_map, hx]; rfl)
        rw [addr_add, Nat.zero_add] at c0
        clear hlt hx hi
        have HTL : Hid (T.length ≤ 200000000) := by
          have h1 := HLB.out.2
          have h2 := HRL.out.2
          have h3 := HLT.out
          rw [HT.out, List.length_append, flat4_len, List.length_take]
          unfold Hid; omega
        go_wp2_with (at_builtin; refine wpList_addrow rfl (.tmp 36) (.tmp 48) rfl w.heap.size _ T rfl (HB.out.below (ext_alloc _ _)) _ _ _ (be4 x) rfl (bs_be4 wr x) (by rw [be4_length]; omega) (by have := HTL.out; rw [be4_length]; omega) (Nat.le_trans HX.out.size (ext_alloc _ _).size) ?_)
        intro A6 c6 w6 ho6 hg6
        have hb1 := HB.out.below (ext_alloc wr (.cells #[.int .u8 ((x : Int) / 16777216 % 256), .int .u8 ((x : Int) / 65536 % 256), .int .u8 ((x : Int) / 256 % 256), .int .u8 ((x : Int) % 256)] 5))
        have hr1 := HRR.out.wall fun g hg => (ext_alloc wr (.cells #[.int .u8 ((x : Int) / 16777216 % 256), .int .u8 ((x : Int) / 65536 % 256), .int .u8 ((x : Int) / 256 % 256), .int .u8 ((x : Int) % 256)] 5)).block g (row_lt HRR.out g hg).2
        have HR6 : Hid (OwnI w.heap.size R (.slice (some ⟨rb, 0, none⟩) R.length c5) w6) := hr1.wall fun g hg => hg6.block g (row_lt hr1 g hg).2 (fun e => rows_apart hr1 hb1 (by decide) hg e.symm)
        have HX6 : Hid (Ext w w6) := (Ext.trans HX.out (ext_alloc wr (.cells #[.int .u8 ((x : Int) / 16777216 % 256), .int .u8 ((x : Int) / 65536 % 256), .int .u8 ((x : Int) / 256 % 256), .int .u8 ((x : Int) % 256)] 5))).grown hg6 (Ext.trans HX.out (ext_alloc _ _)).size (fun k hk => (row_lt hb1 k hk).1)
        have hT2 : T ++ be4 x = upto Ls Ls.length ++ (R.take (i + 1)).flatMap be4 := by
          rw [HT.out, List.take_succ_eq_append_getElem HLT.out, List.flatMap_append, List.append_assoc]
          have e : R[i]'HLT.out = x := by have h1 := HXI.out; rw [List.getElem?_eq_getElem HLT.out] at h1; injection h1
          rw [e]; simp
        rw [hT2] at ho6
        have hln : T.length + (be4 x).length = (upto Ls Ls.length ++ (R.take (i + 1)).flatMap be4).length := by rw [← hT2, List.length_append]
        rw [hln] at ho6 ⊢
        clear hln
        have HO6 := Lib.hid ho6
        clear hb1 hr1 hT2 ho6 hg6 c0
        go_wp2_with fail
        go_roundw
        case rel => exact ⟨i + 1, A6, c6, HLT.out, by rw [wrap_succ (by have := HLT.out; have := HRL.out; omega)], rfl, HO6, HX6, HR6⟩
        case measure =>
          rw [wrap_succ (by have := HLT.out; have := HRL.out; omega)]
          have := HLT.out
          simp [intOf]; omega
      · have hir : i = R.length := by omega
        have d : decide ((i : Int) < (R.length : Int)) = false := by rw [decide_eq_false_iff_not]; exact fun h => hlt (Int.ofNat_lt.1 h)
        have dn : decide (i < R.length) = false := by rw [decide_eq_false_iff_not]; exact hlt
        have hTW : T = _root_.Go.Proofs.YthhgjeeangepaaaGreat.wr Ls := by rw [HT.out, HWR.out, hir, List.take_length]
        rw [hTW] at HB ⊢
        clear hlt hi hTW hir
        go_wp2_with fail
        go_ret2
        have h := HLSE.out
        subst h
        exact ⟨HX.out, .inl ⟨HMAY.out, BA, bc, rfl, HB.out⟩⟩
theorem bsize_any {w : World} {lo hi c : Nat} {A : Option Addr} {L : List (Ent × Hd)} (h : Es w lo hi A L) (hhi : hi ≤ w.heap.size) (hlc : L.length ≤ c) (hlen : L.length ≤ 1000000000000) :
    Calls Tryz.prog 138 #[.slice A L.length c] w fun x w' => Ext w w' ∧ ((MayB (L.map Prod.fst) → x = .returned (.int .i64 ((wr (L.map Prod.fst)).length : Int))) ∧ (¬ MayB (L.map Prod.fst) → x = .returned (.int .i64 0))) := by
  have HW := Lib.hid (write_any h hhi hlc hlen)
  obtain ⟨Ls, hLs⟩ : ∃ Ls, Ls = L.map Prod.fst := ⟨_, rfl⟩
  rw [← hLs] at HW ⊢
  clear h hhi hlc hlen hLs
  go_enter Tryz.func138, Tryz.ntmps138
  go_wp2_with fail
  refine HW.out.mono ?_
  rintro x w2 ⟨hx, (⟨hm, B, cb, rfl, _⟩ | ⟨hm, rfl⟩)⟩
  · have HX := Lib.hid hx
    have HM := Lib.hid hm
    clear hx hm
    go_wp2_with fail
    refine bodyPost_ret (results_tmp rfl _ _ _) rfl ?_
    exact ⟨HX.out, fun _ => rfl, fun h => absurd HM.out h⟩
  · have HX := Lib.hid hx
    have HM := Lib.hid hm
    clear hx hm
    go_wp2_with fail
    refine bodyPost_ret (results_tmp rfl _ _ _) rfl ?_
    exact ⟨HX.out, fun h => absurd h HM.out, fun _ => rfl⟩
end Go.Proofs.YthhgjeeangepaaaGreat
namespace Go.Proofs.YthhgjeeangepaaaGreat
open Go.ChangeShapes Go.WideShapes Go.ChangeAt Go.RowKit
theorem enters_entries1 : ∀ args w, (callFunc 166 args).run Tryz.prog w = .ok (.enter 166 args) w := enters_of Tryz.func166 (by kernel_rfl) rfl
def Free (D : Nat → Prop) (v : Value) : Prop := ∀ b, v.ownBlock = some b → ¬ D b
def entV (x : Ent × Hd) : Array Value := #[x.1.at_ x.2]
def EntOk (w : World) (bd : List Nat) (D _K : Nat → Prop) (k : Nat) (x : Ent × Hd) (A : World) : Prop :=
  (∀ L, BodyIs L bd → L[k]? = some x.1) ∧ Mine w.heap.size x A ∧ Free D (.slice x.2.kA x.1.key.length x.2.kc) ∧ Free D (.slice x.2.vA x.1.val.length x.2.vc)
def EntDone (bd : List Nat) (k : Nat) : Prop := ∀ L, BodyIs L bd → L.length = k
def EntPan (bd : List Nat) (_k : Nat) (ch : List PanicEntry) : Prop := ch = gaveUp ∧ ∀ L, ¬ BodyIs L bd
def leftAt (r : Nat) (w : World) : Nat := match w.cell? ⟨r, 0, none⟩ with | some (.slice _ n _) => n | _ => 0
theorem Rd.left {w : World} {r lo hi : Nat} {l : List Nat} (h : Rd w r lo hi l) : leftAt r w = l.length := by
  obtain ⟨v, h1, A, c, rfl, _⟩ := h.ex
  unfold leftAt
  rw [h1.c0]
theorem Rd.stepK {w w' : World} {r lo hi : Nat} {l : List Nat} {K : Nat → Prop} (h : Rd w r lo hi l) (hs : StepK K w w') (hr : K r) (hk : ∀ i, lo ≤ i → i < hi → K i) : Rd w' r lo hi l := by
  obtain ⟨v, h1, h2⟩ := h.ex
  exact ⟨⟨v, (hs.stay r hr h1.lt).trans h1, h2.of fun _ h3 => Sl.keep h3 fun p h4 h5 => World.cell?_of_block (hs.stay p.block (hk _ h4 h5) (Nat.lt_of_lt_of_le h5 h.top))⟩, h.apart, Nat.le_trans h.top hs.size, h.byt⟩
structure KeyAt (W : World) (r : Nat) (K : Nat → Prop) (v : Value) (ah : List Nat) (wr : World) : Prop where
  ex : ∃ lo hi, Bs wr lo hi v ah ∧ hi ≤ wr.heap.size ∧ (r < lo ∨ hi ≤ r) ∧ ∀ i, lo ≤ i → i < hi → K i
  byt : ∀ x ∈ ah, x < 256
set_option maxRecDepth 100000 in
set_option maxHeartbeats 8000000 in
theorem entries_iter {w : World} {lo hi bb c : Nat} {A : Option Addr} {bd : List Nat} (h : Bs w lo hi (.slice A bd.length c) bd) (hhi : hi ≤ w.heap.size) (hb : ∀ x ∈ bd, x < 256) (hl : bd.length ≤ 1000000000) (hbb : w.cell? ⟨bb, 0, none⟩ = some (.slice A bd.length c)) :
    IterP Tryz.prog 166 #[.pointer (some ⟨bb, 0, none⟩)] entV (EntOk w bd) (EntDone bd) (EntPan bd) (fun _ => True) w := by
  intro mm lab J Jx W hx _ hJ h0 hY
  have HO := Lib.hid (open_any _ lo hi bd W (h.below hx hhi) (Nat.le_trans hhi hx.size) (by omega) hb)
  have HL := Lib.hid hl
  have HXW := Lib.hid hx.size
  have HJ := Lib.hid hJ
  have HJ0 := Lib.hid h0
  have HY := Lib.hid hY
  have c1 := ext_cell hx hbb
  clear h hhi hb hl hbb hJ h0 hY hx
  refine (callsIn_wide (n := 6)).1 ?_
  refine callsIn_of_wp Tryz.func166 rfl trivial ?_ rfl
  simp only [Tryz.ntmps166, List.size_toArray, List.length_cons, List.length_nil, Nat.reduceAdd, Nat.reduceSub, Array.replicate_succ, Array.replicate_zero, List.push_toArray, List.append_toArray, List.nil_append, List.cons_append]
  refine wpIn_wide.2 ?_
  go_wp2_with fail
  refine HO.out.mono ?_
  rintro x W1 ⟨r, rlo, rhi, rfl, hrd, hr, hlo, hb2⟩
  have HX1 : Hid (Ext W W1) := hb2
  have HRW := Lib.hid (And.intro hr hlo)
  have HRD := Lib.hid hrd
  have HRL := Lib.hid hrd.lt
  have HJ1 : Hid (J (fun i => i = r) (fun i => W.heap.size ≤ i ∧ i < W1.heap.size) 0 W1) := HJ0.out W1 _ _ hb2 (fun i e => by rw [e]; exact hr) (fun i e => e.1)
  clear hrd hr hlo hb2 c1 HO
  go_wp2_with fail
  go_loopw [4] (fun v wr => ∃ (k : Nat) (ah l : List Nat) (K : Nat → Prop) (kA : Option Addr) (kc : Nat), v = .slice kA ah.length kc ∧ Hid (Ahead bd k ah l) ∧ Hid (Rd wr r rlo rhi l) ∧ Hid (l.length ≤ bd.length ∧ ah.length + 32 * l.length ≤ 32 * bd.length) ∧ Hid (KeyAt W r K (.slice kA ah.length kc) ah wr) ∧ Hid (J (fun i => i = r) K k wr) ∧ Hid (K r ∧ (∀ i, rlo ≤ i → i < rhi → K i) ∧ (∀ i, K i → W.heap.size ≤ i ∧ i < wr.heap.size)) ∧ Hid (W1.heap.size ≤ wr.heap.size))
    (fun _ wr => leftAt r wr)
  case atStart => exact ⟨0, [], bd, _, none, 0, rfl, Ahead.start bd, HRD, ⟨Nat.le_refl _, by simp⟩, ⟨⟨0, 0, Bs.nil _ _ _, Nat.zero_le _, .inr (Nat.zero_le _), fun i _ h => absurd h (by omega)⟩, by simp⟩, HJ1, ⟨⟨HRW.out.1, HRL.out⟩, fun i h1 h2 => ⟨Nat.le_trans HRW.out.2 h1, Nat.lt_of_lt_of_le h2 HRD.out.top⟩, fun i h => h⟩, Nat.le_refl _⟩
  case round =>
    obtain ⟨k, ah, l, K, kA, kc, rfl, HAH, HRD1, HLL, HKEY, HJK, HK, HSZ⟩ := hrel
    have HLEFT := Lib.hid (left_any r rlo rhi l wr HRD1.out)
    by_cases hl0 : l = []
    · have d : decide ((0 : Int) < (l.length : Int)) = false := by rw [hl0]; rfl
      have dn : decide (0 < l.length) = false := by rw [hl0]; rfl
      have HL0 := Lib.hid hl0
      clear hl0
      go_wp2_with fail
      refine HLEFT.out.mono ?_
      rintro x w2 ⟨rfl, rfl⟩
      go_wp2_with fail
      refine ⟨rfl, _, results_none rfl _ _ _, .inl ⟨⟨_, rfl⟩, .inl ⟨_, _, k, HJK.out, fun L hL => ?_⟩⟩⟩
      have h1 := HAH.out
      rw [HL0.out] at h1
      exact h1.ends hL
    · have hpos := List.length_pos_iff.2 hl0
      have d : decide ((0 : Int) < (l.length : Int)) = true := by rw [decide_eq_true_eq]; omega
      have dn : decide (0 < l.length) = true := by rw [decide_eq_true_eq]; exact hpos
      have HL0 := Lib.hid hl0
      clear hl0 hpos
      go_wp2_with fail
      refine HLEFT.out.mono ?_
      rintro x w2 ⟨rfl, rfl⟩
      go_wp2_with fail
      obtain ⟨lo2, hi2, hbs, hh2, hr2, hk2⟩ := HKEY.out.ex
      refine (next_any HRD1.out hbs hh2 hr2 HKEY.out.byt (by have := HLL.out; have := HL.out; omega) (by have := HLL.out; have := HL.out; omega)).mono ?_
      clear hbs hh2 hr2 hk2
      rintro x w2 ⟨hg, (⟨e, g, rest, rfl, hrd, hlt, hk32, hm, hst⟩ | ⟨rfl, hno⟩)⟩
      · have HG2 := Lib.hid hg
        have HRD2 := Lib.hid hrd
        have HLT := Lib.hid hlt
        have HK32 := Lib.hid hk32
        have HM := Lib.hid hm
        have HNX := Lib.hid (HAH.out.next HL0.out hst)
        clear hg hrd hlt hk32 hm hst
        obtain ⟨w3, hw3⟩ : ∃ w3, w3 = w2.alloc (.cells #[.slice g.kA e.key.length g.kc, .int .i64 e.seq, .int .i64 e.kind, .slice g.vA e.val.length g.vc] 55) := ⟨_, rfl⟩
        have HX3 : Hid (Ext w2 w3) := by rw [hw3]; exact ext_alloc _ _
        have HE3 : Hid (w3.heap[w2.heap.size]? = some (.cells #[.slice g.kA e.key.length g.kc, .int .i64 e.seq, .int .i64 e.kind, .slice g.vA e.val.length g.vc] 55 (0, 0))) := by rw [hw3]; exact heap_at _ _ rfl
        have HZ3 : Hid (w3.heap.size = w2.heap.size + 1) := by rw [hw3]; simp [Hid]
        have HM3 : Hid (Mine wr.heap.size (e, g) w3) := HM.out.below HX3.out
        have HCH : Hid (Chg (fun i => i = r) wr w3) := (Chg.grown (S := fun i => i = r) HG2.out (fun k hk => by injection hk with hk; exact hk.symm)).trans (Chg.of_ext HX3.out)
        obtain ⟨K3, hK3⟩ : ∃ K3 : Nat → Prop, K3 = fun i => K i ∨ (wr.heap.size ≤ i ∧ i < w3.heap.size) := ⟨_, rfl⟩
        have HKK : Hid (∀ i, K3 i ↔ K i ∨ (wr.heap.size ≤ i ∧ i < w3.heap.size)) := by rw [hK3]; exact fun i => Iff.rfl
        have HJ3 : Hid (J (fun i => i = r) K3 k w3) := HJ.out _ _ _ _ _ _ _ HJK.out HCH.out (fun i h => .inl h) (fun i h => by rcases (HKK.out i).1 h with h | h; exact .inl h; exact .inr h.1)
        have HRWR : Hid (r < wr.heap.size ∧ W.heap.size ≤ wr.heap.size) := ⟨HRD1.out.lt, by have := HX1.out.size; have := HSZ.out; omega⟩
        clear hK3
        have hok : EntOk w bd (fun i => i = r) K3 k (e, g) w3 := by
          refine ⟨HNX.out.2, HM3.out.base (Nat.le_trans HXW.out HRWR.out.2), fun b hb e => ?_, fun b hb e => ?_⟩
          · have := (row_lt HM3.out.k b hb).1; have := HRWR.out.1; omega
          · have := (row_lt HM3.out.v b hb).1; have := HRWR.out.1; omega
        obtain ⟨fn, tmps, assign, body, hy, hR⟩ := HY.out (fun i => i = r) K3 k (e, g) w3 (fun i h => by rw [h]; exact ⟨HRW.out.1, by have := HCH.out.size; have := HRWR.out.1; omega⟩) (fun i h => by have hz := HCH.out.size; rcases (HKK.out i).1 h with h | h; exact ⟨(HK.out.2.2 i h).1, Nat.lt_of_lt_of_le (HK.out.2.2 i h).2 hz⟩; exact ⟨Nat.le_trans HRWR.out.2 h.1, h.2⟩) HJ3.out hok
        dsimp only [entV, Ent.at_] at hy
        have HR := Lib.hid (roundIn_any (m' := 5) hR)
        have e0 := cell_of HE3.out (k := 0) rfl
        have e1 := cell_of HE3.out (k := 1) rfl
        have e2 := cell_of HE3.out (k := 2) rfl
        have e3 := cell_of HE3.out (k := 3) rfl
        clear hR hok d dn
        dsimp only [Ent.at_]
        go_upto_region 4 with (fail)
        rw [← hw3]
        clear hw3
        refine (wpIn_wide (n := 6)).1 ?_
        gi_wp2
        refine RoundIn.mono HR.out ?_
        rintro x A' ⟨hst, (⟨rfl, hj⟩ | ⟨rfl, hjx⟩)⟩
        · have hpb : ∀ i, wr.heap.size ≤ i → i < w3.heap.size → A'.heap[i]? = w3.heap[i]? := fun i h1 h2 => hst.stay i ((HKK.out i).2 (.inr ⟨h1, h2⟩)) h2
          have HE9 : Hid (A'.heap[w2.heap.size]? = some (.cells #[.slice g.kA e.key.length g.kc, .int .i64 e.seq, .int .i64 e.kind, .slice g.vA e.val.length g.vc] 55 (0, 0))) := (hpb _ HG2.out.size (by have := HZ3.out; omega)).trans HE3.out
          have HRD3 : Hid (Rd w3 r rlo rhi rest) := HRD2.out.below HX3.out HRD2.out.top HRD2.out.lt
          have HRD9 : Hid (Rd A' r rlo rhi rest) := HRD3.out.stepK hst ((HKK.out _).2 (.inl HK.out.1)) (fun i h1 h2 => (HKK.out i).2 (.inl (HK.out.2.1 i h1 h2)))
          have HK9 : Hid (Own wr.heap.size e.key (.slice g.kA e.key.length g.kc) A') := HM3.out.k.wall fun b hb => hpb b (row_lt HM3.out.k b hb).1 (row_lt HM3.out.k b hb).2
          have HKEY9 : Hid (KeyAt W r K3 (.slice g.kA e.key.length g.kc) e.key A') := by
            refine ⟨⟨wr.heap.size, w3.heap.size, ?_, hst.size, .inl HRWR.out.1, fun i h1 h2 => (HKK.out i).2 (.inr ⟨h1, h2⟩)⟩, HM.out.good.bk⟩
            exact (Bs.of_own HM3.out.k).of fun _ h3 => Sl.keep h3 fun p h4 h5 => World.cell?_of_block (hpb p.block h4 h5)
          have HJ9 := Lib.hid hj
          have HSA : Hid (w3.heap.size ≤ A'.heap.size) := hst.size
          have HS9 : Hid (W1.heap.size ≤ A'.heap.size) := by have := hst.size; have := HSZ.out; have := HG2.out.size; have := HZ3.out; unfold Hid; omega
          have q0 := cell_of HE9.out (k := 0) rfl
          clear hst hj hy hpb e0 e1 e2 e3
          gi_wp2
          go_wp2_with fail
          refine ⟨⟨k + 1, e.key, rest, K3, g.kA, g.kc, rfl, HNX.out.1, HRD9, ?_, HKEY9, HJ9, ⟨(HKK.out _).2 (.inl HK.out.1), fun i h1 h2 => (HKK.out i).2 (.inl (HK.out.2.1 i h1 h2)), fun i h => ?_⟩, HS9⟩, ?_⟩
          · have := HLT.out; have := HLL.out; have := HK32.out; unfold Hid; omega
          · have hz := HCH.out.size
            have hz2 := HSA.out
            rcases (HKK.out i).1 h with h | h
            · have := HK.out.2.2 i h; omega
            · have := HRWR.out.2; omega
          · rw [HRD9.out.left, HRD1.out.left]; exact HLT.out
        · have HX9 := Lib.hid hjx
          clear hst hjx hy e0 e1 e2 e3
          gi_wp2
          go_wp2_with fail
          refine bodyPost_ret (results_none rfl _ _ _) rfl ?_
          exact .inl ⟨⟨_, rfl⟩, .inr HX9.out⟩
      · have hJ2 := HJ.out _ _ _ _ (fun i => i = r) K w2 HJK.out (Chg.grown (S := fun i => i = r) hg (fun k hk => by injection hk with hk; exact hk.symm)) (fun i h => .inl h) (fun i h => .inl h)
        refine ⟨rfl, .inr ⟨_, rfl, _, _, k, hJ2, rfl, fun L hL => ?_⟩⟩
        obtain ⟨e, _, hs⟩ := HAH.out.stands hL HL0.out
        exact hno _ _ hs
end Go.Proofs.YthhgjeeangepaaaGreat
namespace Go.Proofs.YthhgjeeangepaaaGreat
open Go.ChangeShapes Go.WideShapes Go.ChangeAt Go.RowKit
theorem num4_snoc (l : List Nat) (c : Nat) : num4 (l ++ [c]) = num4 l * 256 + c := by simp [num4]
theorem num4_take {l : List Nat} {k : Nat} (h : k < l.length) : num4 (l.take (k + 1)) = num4 (l.take k) * 256 + l[k] := by rw [List.take_succ_eq_append_getElem h, num4_snoc]
theorem num4_lt3 {l : List Nat} (h : l.length = 4) (hb : ∀ c ∈ l, c < 256) {k : Nat} (hk : k < 4) : num4 (l.take k) < 16777216 := by
  obtain ⟨a, b, c, d, rfl⟩ := list4 h
  have ha := hb a (by simp)
  have hb' := hb b (by simp)
  have hc := hb c (by simp)
  match k, hk with
  | 0, _ => simp [num4]
  | 1, _ => simp [num4]; omega
  | 2, _ => simp [num4]; omega
  | 3, _ => simp [num4]; omega
theorem or_i64 {x y : Nat} (hx : x < 4294967296) (hy : y < 4294967296) : bits .or .i64 (x : Int) (y : Int) = ((x ||| y : Nat) : Int) := by
  have h1 : (BitVec.ofInt 64 (x : Int)).toNat = x := by
    rw [BitVec.ofInt_natCast, BitVec.toNat_ofNat]; exact Nat.mod_eq_of_lt (by omega)
  have h2 : (BitVec.ofInt 64 (y : Int)).toNat = y := by
    rw [BitVec.ofInt_natCast, BitVec.toNat_ofNat]; exact Nat.mod_eq_of_lt (by omega)
  have h3 : x ||| y < 2 ^ 32 := Nat.or_lt_two_pow (by omega) (by omega)
  show IntKind.i64.wrap ((BitVec.ofInt 64 (x : Int) ||| BitVec.ofInt 64 (y : Int)).toNat : Int) = _
  rw [BitVec.toNat_or, h1, h2, IntKind.wrap_i64]
  omega
theorem or_byte {m c : Nat} (hm : m < 16777216) (hc : c < 256) : bits .or .i64 ((m * 256 : Nat) : Int) (c : Int) = ((m * 256 + c : Nat) : Int) := by
  rw [or_i64 (by omega) (by omega)]
  have : m * 256 ||| c = m * 256 + c := by
    have := Nat.shiftLeft_add_eq_or_of_lt (i := 8) (b := c) (by simpa using hc) m
    simpa [Nat.shiftLeft_eq] using this.symm
  rw [this]
theorem wrap_256 {m : Nat} (h : m < 16777216) : wrap64 ((m : Int) * 256) = ((m * 256 : Nat) : Int) := by unfold wrap64; omega
theorem wrap_four {m : Nat} (h : m < 4294967296) : wrap64 ((m : Int) * 4) = ((4 * m : Nat) : Int) := by unfold wrap64; omega
theorem wrap_q {n : Nat} (h : n < 4294967296) : wrap64 ((n : Int) / 4) = ((n / 4 : Nat) : Int) := by unfold wrap64; omega
theorem wrap_less {n m : Nat} (h : n < 4294967296) (k : m ≤ n) : wrap64 ((n : Int) - (m : Int)) = ((n - m : Nat) : Int) := by unfold wrap64; omega
def BodyAns (w : World) (b : List Nat) (x : Ending) (w' : World) : Prop :=
  Ext w w' ∧ ((∃ (A : Option Addr) (c : Nat) (bd : List Nat), x = .returned (.slice A bd.length c) ∧ Bs w' 0 w'.heap.size (.slice A bd.length c) bd ∧ (∀ y ∈ bd, y < 256) ∧ bd.length ≤ b.length ∧ 4 ≤ b.length ∧ ∀ L, IsB b L → BodyIs L bd) ∨
    (x = .panicked gaveUp ∧ ∀ L, ¬ IsB b L))
set_option maxRecDepth 100000 in
set_option maxHeartbeats 4000000 in
theorem body_any {w : World} {lo hi : Nat} {v : Value} {b : List Nat} (hv : Bs w lo hi v b) (hhi : hi ≤ w.heap.size) (hb : ∀ x ∈ b, x < 256) (hl : b.length ≤ 1000000000) :
    Calls Tryz.prog 151 #[v] w (BodyAns w b) := by
  have HV := Lib.hid hv
  have HB := Lib.hid hb
  have HL := Lib.hid (And.intro hhi hl)
  obtain ⟨A, c, rfl, hc1, hc2, hn, hby⟩ := hv
  have HC := Lib.hid (And.intro hc1 (And.intro hc2 hn))
  have HBY := Lib.hid hby
  clear hhi hb hl hc1 hc2 hn hby
  rcases Nat.lt_or_ge b.length 4 with h4 | h4
  · have d : decide (wrap64 ((b.length : Int) - 4) < 0) = true := by rw [decide_eq_true_eq]; unfold wrap64; omega
    have H4 := Lib.hid h4
    clear h4
    go_enter Tryz.func151, Tryz.ntmps151
    go_wp2_with fail
    refine (giveUp_any _).mono ?_
    rintro x w' ⟨rfl, rfl⟩
    refine ⟨rfl, Ext.refl _, .inr ⟨rfl, fun L h => ?_⟩⟩
    have h1 := h.last.1
    have h2 := H4.out
    omega
  obtain ⟨n, hn⟩ : ∃ n, n = b.length - 4 := ⟨_, rfl⟩
  have HN : Hid (b.length = n + 4) := by unfold Hid; omega
  have ew : wrap64 ((b.length : Int) - 4) = (n : Int) := by unfold wrap64; have := HL.out.2; omega
  have d : decide ((n : Int) < 0) = false := by rw [decide_eq_false_iff_not]; omega
  obtain ⟨A2, hA2, hA2n, hrun⟩ := tail_run A b.length c n (by omega) HC.out.1
  have hrun' : ∀ w, (Instr.slice 26 (.slice A b.length c) (some (.int .i64 (n : Int))) none none).run Tryz.prog w = .ok (.slice A2 4 (c - n)) w := fun w => by rw [hrun, HN.out]; congr 2; omega
  obtain ⟨t, ht⟩ : ∃ t, t = b.drop n := ⟨_, rfl⟩
  have HT : Hid (By w lo hi A2 t) := by rw [ht]; exact hA2 b rfl _ _ _ HBY.out
  have HT4 : Hid (t.length = 4) := by rw [ht]; unfold Hid; rw [List.length_drop]; omega
  have HTB : Hid (∀ x ∈ t, x < 256) := fun x hx => HB.out x (by rw [ht] at hx; exact List.mem_of_mem_drop hx)
  have HTE : Hid (t = b.drop (b.length - 4)) := by rw [ht, hn]; exact rfl
  obtain ⟨tb, tq, rfl⟩ : ∃ x y, A2 = some ⟨x, y, none⟩ := by
    obtain ⟨b', o, e, _⟩ := HT.out.at_ (i := 0) (by rw [HT4.out]; omega)
    exact ⟨_, _, e⟩
  clear hA2 hA2n hrun ht h4 hn
  go_enter Tryz.func151, Tryz.ntmps151
  go_wp2_with fail
  go_loopw [4, 6, 17] (fun m y i wr => ∃ (k r : Nat), k ≤ 4 ∧ i = .int .i64 (k : Int) ∧ m = .int .i64 (r : Int) ∧ Hid (r = num4 (t.take k)) ∧ wr = w) (fun _ _ i _ => 4 - (intOf i).toNat)
  case atStart => exact ⟨0, 0, Nat.zero_le _, rfl, rfl, rfl, rfl⟩
  case round =>
    obtain ⟨k, r, hk, rfl, rfl, HR, rfl⟩ := hrel
    by_cases hlt : k < 4
    · have hkl : k < t.length := by rw [HT4.out]; exact hlt
      obtain ⟨b', o', e1, _, _, hc⟩ := HT.out.at_ hkl
      injection e1 with e1
      injection e1 with e1 e2
      subst e1 e2
      obtain ⟨y, hy⟩ : ∃ y, y = t[k] := ⟨_, rfl⟩
      rw [← hy] at hc
      have HM : Hid (r < 16777216) := by rw [HR.out]; exact num4_lt3 HT4.out HTB.out hlt
      have hc256 : y < 256 := by rw [hy]; exact HTB.out _ (List.getElem_mem hkl)
      have HO := Lib.hid (or_byte HM.out hc256)
      have HTT : Hid (num4 (t.take (k + 1)) = r * 256 + y) := by rw [HR.out, hy]; exact num4_take hkl
      have n1 : (0 : Int) ≤ (k : Int) := by omega
      have n2 : (k : Int) < 4 := by omega
      clear hy
      go_wp2_with fail
      go_roundw
      case rel =>
        refine ⟨k + 1, r * 256 + y, by omega, by go_num, ?_, HTT.out.symm, ?_⟩
        · rw [wrap_256 HM.out, HO.out]
        · trivial
      case measure => simp [intOf]; omega
    · clear HT
      obtain rfl : k = 4 := by omega
      have hr : r = num4 t := by rw [HR.out, List.take_of_length_le (by rw [HT4.out]; exact Nat.le_refl _)]
      have HRE := Lib.hid hr
      have HR32 : Hid (r < 4294967296) := by rw [hr]; exact num4_lt HT4.out HTB.out
      clear hr
      have hq := wrap_q (n := n) (by have := HN.out; have := HL.out.2; omega)
      obtain ⟨q, hqe⟩ : ∃ q, q = n / 4 := ⟨_, rfl⟩
      rw [← hqe] at hq
      by_cases hgt : q < r
      · have dg : decide ((q : Int) < (r : Int)) = true := by rw [decide_eq_true_eq]; exact Int.ofNat_lt.2 hgt
        have dgn : decide (q < r) = true := by rw [decide_eq_true_eq]; exact hgt
        have HGT := Lib.hid hgt
        have HQE := Lib.hid hqe
        clear hgt hqe
        go_wp2_with fail
        refine (giveUp_any _).mono ?_
        rintro x w' ⟨rfl, rfl⟩
        refine ⟨rfl, Ext.refl _, .inr ⟨rfl, fun L h => ?_⟩⟩
        obtain ⟨h1, h2, h3, h4⟩ := h.last
        rw [← HTE.out, ← HRE.out] at h3
        have h5 := HGT.out
        have h6 := HQE.out
        have h7 := HN.out
        clear hq ew
        omega
      · have dg : decide ((q : Int) < (r : Int)) = false := by rw [decide_eq_false_iff_not]; exact fun h => hgt (Int.ofNat_lt.1 h)
        have dgn : decide (q < r) = false := by rw [decide_eq_false_iff_not]; exact hgt
        have hle : 4 * r ≤ n := by clear hq ew; omega
        have hw4 := wrap_four HR32.out
        have hwm := wrap_less (n := n) (m := 4 * r) (by have := HN.out; have := HL.out.2; clear hq ew hw4; omega) hle
        obtain ⟨m, hm⟩ : ∃ m, m = n - 4 * r := ⟨_, rfl⟩
        obtain ⟨j, hj⟩ : ∃ j, j = 4 * r := ⟨_, rfl⟩
        rw [← hm] at hwm
        rw [← hj] at hw4 hwm
        have HM : Hid (m ≤ b.length ∧ m = b.length - 4 - 4 * num4 (b.drop (b.length - 4))) := by
          rw [← HTE.out, ← HRE.out]
          have := HN.out
          clear hq ew hw4 hwm
          unfold Hid; omega
        obtain ⟨A3, hA3, hA3n, hrun3⟩ := head_run .i64 A b.length c m HM.out.1 HC.out.1
        have HA3 := Lib.hid (And.intro hA3 hA3n)
        clear hm hj hgt hqe hle hA3 hA3n
        go_wp2_with fail
        go_ret
        have hlm : (b.take m).length = m := by rw [List.length_take]; have := HM.out.1; clear hq ew hw4 hwm; omega
        refine ⟨Ext.refl _, .inl ⟨A3, c, b.take m, by rw [hlm]; rfl, ?_, fun y hy => HB.out y (List.mem_of_mem_take hy), by rw [hlm]; exact HM.out.1, by rw [HN.out]; exact Nat.le_add_left _ _, fun L h => ?_⟩⟩
        · refine ⟨A3, c, rfl, by rw [hlm]; exact Nat.le_trans HM.out.1 HC.out.1, HC.out.2.1, fun e => HC.out.2.2 (HA3.out.2 e), ?_⟩
          exact Sl.wide (HA3.out.1 b rfl _ _ _ HBY.out) (Nat.zero_le _) HL.out.1
        · have h1 := h.body
          unfold bodyOf at h1
          rw [← HM.out.2] at h1
          exact h1
end Go.Proofs.YthhgjeeangepaaaGreat
namespace Go.Proofs.YthhgjeeangepaaaGreat
open Go.ChangeShapes Go.WideShapes Go.ChangeAt Go.RowKit
theorem bequal_any {w : World} {lo hi lo2 hi2 : Nat} {u v : Value} {a b : List Nat} (hu : Bs w lo hi u a) (hv : Bs w lo2 hi2 v b) (ha : ∀ x ∈ a, x < 256) (hb : ∀ x ∈ b, x < 256) :
    Calls Tryz.prog 92 #[u, v] w fun e w' => (∃ z : Bool, (z = true ↔ a = b) ∧ e = .returned (.bool z)) ∧ w' = w := by
  obtain ⟨A, c, rfl, _, _, _, hA⟩ := hu
  obtain ⟨B, c2, rfl, _, _, _, hB⟩ := hv
  have t1 := run_text (P := Tryz.prog) w 26 5 Tryz.underlying26 Tryz.underlying5 hA a.length c rfl 9 Tryz.underlying9
  have t2 := run_text (P := Tryz.prog) w 26 5 Tryz.underlying26 Tryz.underlying5 hB b.length c2 rfl 9 Tryz.underlying9
  have HI : Hid (tx a = tx b ↔ a = b) := ⟨fun h => tx_inj ha hb h, fun h => by rw [h]⟩
  obtain ⟨X, hX⟩ : ∃ X, X = tx a := ⟨_, rfl⟩
  obtain ⟨Y, hY⟩ : ∃ Y, Y = tx b := ⟨_, rfl⟩
  rw [← hX, ← hY] at HI
  rw [← hX] at t1
  rw [← hY] at t2
  clear hX hY hA hB ha hb
  go_enter Tryz.func92, Tryz.ntmps92
  go_wp2_with fail
  go_ret
  refine ⟨⟨X.toList == Y.toList, ?_, rfl⟩, rfl⟩
  rw [beq_iff_eq, ← HI.out]
  refine ⟨fun h => ?_, fun h => by rw [h]⟩
  rw [ByteArray.toList_eq, ByteArray.toList_eq] at h
  exact ByteArray.ext (Array.toList_inj.1 h)
theorem entries_any (A : Option Addr) (n c : Nat) (w : World) : Calls Tryz.prog 150 #[.slice A n c] w fun e w' => e = .returned (.func (.func 166) #[] #[.pointer (some ⟨w.heap.size, 0, none⟩)]) ∧ w' = w.alloc (.cells #[.slice A n c] 26) := by
  have hmf := mkf
  go_enter Tryz.func150, Tryz.ntmps150
  go_wp2_with fail
  go_ret
  exact ⟨rfl, rfl⟩
end Go.Proofs.YthhgjeeangepaaaGreat
namespace Go.Proofs.YthhgjeeangepaaaGreat
open Go.ChangeShapes Go.WideShapes Go.ChangeAt Go.RowKit Go.Joins
theorem reach_is : reachBytes = 140737488351232 := by decide
section
variable {H : Type} {enc : TypeId × Value → H} {W : World}
set_option maxRecDepth 100000 in
theorem cell_bytes {fuel : Nat} {cs : List Value} {y : DataW H × List MemPlace} (h : DataW.trod enc Tryz.prog W 0 (fun _ => true) true fuel 26 cs = some y) :
    ∃ (A : Option Addr) (c : Nat) (l : List Nat), cs = [.slice A l.length c] ∧ (∀ b ∈ l, b < 256) ∧ Bs W 0 W.heap.size (.slice A l.length c) l ∧ ((∀ n ∈ y.1.weights Tryz.prog 26, n ≤ reachBytes) → l.length ≤ reachBytes) := by
  rcases open_ints Tryz.underlying26 Tryz.underlying5 (by kernel_rfl) h with ⟨hcs, _⟩ | ⟨x, l, c, zs, hcs, _, hl', hm', hz, hdx, hcell, hwz⟩
  · exact ⟨none, 0, [], hcs, by simp, Bs.nil _ _ _, fun _ => by simp⟩
  · obtain ⟨l', q1, q2, q3⟩ := bs_cells hl' hm' (by simpa using hz) hcell hwz
    refine ⟨some x, c, l', by rw [q1]; exact hcs, q2, by rw [q1]; exact q3, fun hw => ?_⟩
    have hb1 : Tryz.prog.bytesOf 5 = 1 := by kernel_rfl
    have h4 := hw (((zs.take l).length + (zs.drop l).length) * Tryz.prog.bytesOf 5) (by rw [hdx]; simp [DataW.weights, Tryz.underlying26, lits])
    rw [hb1, List.length_take, List.length_drop] at h4
    simp at hz
    omega
set_option maxRecDepth 100000 in
theorem cells_entry {fuel : Nat} {cs : List Value} {y : DataW H × List MemPlace} (h : DataW.trod enc Tryz.prog W 0 (fun _ => true) true fuel 55 cs = some y) :
    ∃ (e : Ent) (g : Hd), cs = ecells (e, g) ∧ Em W 0 W.heap.size e g ∧ ((∀ n ∈ y.1.weights Tryz.prog 55, n ≤ reachBytes) → e.key.length ≤ reachBytes ∧ e.val.length ≤ reachBytes) := by
  obtain ⟨y0, y1, y2, y3, n, hx, hl, h0, h1, h2, h3⟩ := trod_struct4 Tryz.underlying55 h
  have hC : Tryz.prog.cellsOf 55 = 4 := by kernel_rfl
  have hC0 : Tryz.prog.cellsOf 26 = 1 := by kernel_rfl
  have hC1 : Tryz.prog.cellsOf 2 = 1 := by kernel_rfl
  have hC2 : Tryz.prog.cellsOf 53 = 1 := by kernel_rfl
  rw [hC] at hl
  obtain ⟨a, b, c, d, rfl⟩ : ∃ a b c d, cs = [a, b, c, d] := by
    match cs, hl with
    | [a, b, c, d], _ => exact ⟨a, b, c, d, rfl⟩
  simp only [hC0, hC1, hC2, List.drop_zero, List.take_succ_cons, List.take_zero, List.drop_succ_cons] at h0 h1 h2 h3
  obtain ⟨A, c0, k, e0, bk, hk, wk⟩ := cell_bytes h0
  obtain ⟨s, e1, _, ws⟩ := DataW.trod_int Tryz.underlying2 h1
  obtain ⟨t, e2, _, wt⟩ := DataW.trod_int Tryz.underlying53 h2
  obtain ⟨A3, c3, v, e3, bv', hv, wv⟩ := cell_bytes h3
  injection e0 with e0
  injection e1 with e1
  injection e2 with e2
  injection e3 with e3
  subst e0 e1 e2 e3
  have hws := i64_wf ws
  have hwt := i64_wf wt
  refine ⟨⟨k, s, t, v⟩, ⟨A, c0, A3, c3⟩, rfl, ⟨hk, hv, bk, bv', hws.1, hws.2, hwt.1, hwt.2⟩, fun hw => ?_⟩
  have hwe : ∀ n ∈ DataW.weightsEach Tryz.prog [26, 2, 53, 26] [y0.1, y1.1, y2.1, y3.1], n ≤ reachBytes := fun n hn => hw n (by
    rw [hx]
    simp only [DataW.weights, Tryz.underlying55]
    exact hn)
  exact ⟨wk fun n hn => hwe n (DataW.weights_mem_each (j := 0) rfl rfl n hn), wv fun n hn => hwe n (DataW.weights_mem_each (j := 3) rfl rfl n hn)⟩
theorem weightsAll_at {P : Program} {e : TypeId} : ∀ {l : List (DataW H)} {d : DataW H}, d ∈ l → ∀ n ∈ d.weights P e, n ∈ DataW.weightsAll P e l
  | d' :: r, d, hd, n, hn => by
    simp only [DataW.weightsAll, List.mem_append]
    rcases List.mem_cons.1 hd with rfl | h
    · exact Or.inl hn
    · exact Or.inr (weightsAll_at h n hn)
set_option maxRecDepth 100000 in
theorem open_entries {v : Value} {d : DataW H} {p : List MemPlace} {b0 : Nat} (hv : Value.okWide Tryz.prog W .any b0 22 v) (h : DataW.Trod enc Tryz.prog W 0 (fun _ => true) true 22 v d p)
    {ts : List TypeId} {ds : List (DataW H)} (hsz : (DataW.weightsEach Tryz.prog ts ds).all (· ≤ reachBytes) = true) {jj : Nat} (hts : ts[jj]? = some 22) (hds : ds[jj]? = some d) :
    ∃ (A : Option Addr) (c : Nat) (L : List (Ent × Hd)), v = .slice A L.length c ∧ L.length ≤ c ∧ c ≤ maxLen ∧ Es W 0 W.heap.size A L ∧ (∀ p ∈ L, p.1.key.length ≤ 140737488351232 ∧ p.1.val.length ≤ 140737488351232) ∧ L.length ≤ 2199023255552 := by
  obtain ⟨a0, len0, cap0, rfl⟩ := okWide_slice Tryz.underlying22 hv
  obtain ⟨fuel, hf⟩ := h
  have hC : Tryz.prog.cellsOf 55 = 4 := by kernel_rfl
  rcases Go.Deep.open_slice Tryz.underlying22 hf with ⟨hcs, _⟩ | ⟨a, len, cap, m, n, D, Pl, hcs, _, hl, hm, hmm, hdd, hx⟩
  · simp [Value.cells] at hcs
    obtain ⟨rfl, rfl, rfl⟩ := hcs
    exact ⟨none, 0, [], rfl, by simp, by simp [maxLen], ⟨Sl.nil _ _ _ _, by simp⟩, by simp, by simp⟩
  · simp [Value.cells] at hcs
    obtain ⟨rfl, rfl, rfl⟩ := hcs
    have hmc : m = cap0 := by rw [hmm]; simp
    have hdd1 : d = .slice ((List.range len0).map D) ((List.range (m - len0)).map fun j => D (len0 + j)) := congrArg Prod.fst hdd
    have hwt : ∀ i, i < len0 → ∀ n ∈ (D i).weights Tryz.prog 55, n ≤ reachBytes := fun i hi n hn => by
      refine of_decide_eq_true (List.all_eq_true.1 hsz _ (DataW.weights_mem_each hts hds n ?_))
      rw [hdd1]
      simp only [DataW.weights, Tryz.underlying22, List.mem_cons, List.mem_append]
      exact Or.inr (Or.inl (weightsAll_at (List.mem_map.2 ⟨i, List.mem_range.2 hi, rfl⟩) n hn))
    have hlen : len0 ≤ 2199023255552 := by
      have h3 := sized_slice hsz hts (by rw [hds, hdd1]) Tryz.underlying22
      have hb1 : Tryz.prog.bytesOf 55 = 64 := by kernel_rfl
      rw [hb1, reach_is] at h3
      simp at h3
      omega
    have each : ∀ i : Nat, ∃ t : Ent × Hd, i < len0 → (∀ j v, j < 4 → (ecells t)[j]? = some v → W.cell? ((a.add (i * 4)).add j) = some v) ∧ Em W 0 W.heap.size t.1 t.2 ∧ t.1.key.length ≤ 140737488351232 ∧ t.1.val.length ≤ 140737488351232 := by
      intro i
      by_cases hi : i < len0
      · obtain ⟨cs', hc', ht'⟩ := hx i (by omega)
        rw [hC] at hc'
        obtain ⟨_, hcl, hat⟩ := World.cells?_some hc'
        obtain ⟨e, g, hcc, hem, hw⟩ := cells_entry ht'
        have hw2 := hw (hwt i hi)
        rw [reach_is] at hw2
        exact ⟨(e, g), fun _ => ⟨fun j v hj hv => by rw [hat j hj, hcc]; exact hv, hem, hw2⟩⟩
      · exact ⟨(⟨[], 0, 0, []⟩, ⟨none, 0, none, 0⟩), fun h => absurd h hi⟩
    obtain ⟨F, hF⟩ := Classical.axiomOfChoice each
    have hat : ∀ i u, (erow ((List.range len0).map F))[i]? = some u → W.cell? (a.add i) = some u := by
      intro i u hu
      have hi : i < len0 * 4 := by
        have := (List.getElem?_eq_some_iff.1 hu).1
        rw [erow_length] at this
        simpa using this
      have hi4 : i / 4 < len0 := by omega
      have e1 : i = i / 4 * 4 + i % 4 := by omega
      rw [e1, erow_at _ (by simpa using hi4) (by omega)] at hu
      have h1 := (hF (i / 4) hi4).1 (i % 4) u (by omega) (by simpa using hu)
      have e2 : (a.add (i / 4 * 4)).add (i % 4) = a.add i := by
        obtain ⟨b, o, s⟩ := a
        have hc0 := (hF 0 (by omega)).1 0 _ (by omega) rfl
        have hs : s = none := by
          have := World.cell?_spot hc0
          simpa [Addr.add] using this
        subst hs
        rw [addr_add, addr_add, addr_add]
        congr 1; omega
      rw [← e2]; exact h1
    refine ⟨some a, cap0, (List.range len0).map F, by simp, by simpa using hl, hm, ⟨?_, ?_⟩, ?_, by simpa using hlen⟩
    · by_cases h0 : len0 = 0
      · exact .inl (by simp [h0, erow])
      · obtain ⟨b, o, spot⟩ := a
        have hc0 := (hF 0 (by omega)).1 0 _ (by omega) rfl
        have hspot : spot = none := by
          have := World.cell?_spot hc0
          simpa [Addr.add] using this
        subst hspot
        have hblt : b < W.heap.size := by
          have := World.block_lt_of_cell? W _ hc0
          rw [addr_add, addr_add] at this
          exact this
        exact .inr ⟨b, o, rfl, Nat.zero_le _, hblt, fun i u hu => by have := hat i u hu; rwa [addr_add] at this⟩
    · intro q hq
      simp only [List.mem_map, List.mem_range] at hq
      obtain ⟨i, hi, rfl⟩ := hq
      exact (hF i hi).2.1
    · intro q hq
      simp only [List.mem_map, List.mem_range] at hq
      obtain ⟨i, hi, rfl⟩ := hq
      exact (hF i hi).2.2
end
end Go.Proofs.YthhgjeeangepaaaGreat
