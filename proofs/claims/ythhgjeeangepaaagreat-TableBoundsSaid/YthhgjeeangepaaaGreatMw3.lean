import Derived.Test.YthhgjeeangepaaaGreatMw2
import Derived.Lib.ConvBytes
import Derived.Laws.AppendOwn
import Derived.LoopTactic
import Derived.Laws.OwnMore
import Derived.BigQuiet
import Derived.OrdersIn
import Derived.Laws.EntriesVeiled
import Derived.Deep.Slices
import Derived.Deep.DeepCutAuto
import Derived.Test.YthhgjeeangepaaaGreatMw0
namespace Go.Proofs.YthhgjeeangepaaaGreat
open Go.RowKit
def reachB (ops : Array Oper) : Nat → Nat → Nat → Bool
  | 0, _, _ => false
  | f + 1, i, j => match ops[i]? with | some o => aft o j || (List.range i).any (fun k => aft o k && reachB ops f k j) | none => false
def tailOk (ops : Array Oper) (m : Nat) : Bool := (List.range ops.size).all fun i => decide (i < m) || ((decide (i = m) || match ops[i]? with | some o => aft o (i - 1) | none => false) && (List.range m).all (reachB ops ops.size i))
section
variable {P : Program} {ops : Array Oper} {Q : Exit → Act → World → Prop} {φ : List (Value → World → Prop)} {a0 : Act} {w0 : World} {m : Nat}
theorem tail_prev (h : tailOk ops m = true) {i : Nat} {o : Oper} (hi : ops[i]? = some o) (hm : m < i) : aft o (i - 1) = true := by
  have hlt := (Array.getElem?_eq_some_iff.1 hi).1
  have h1 := (List.all_eq_true.1 h) i (List.mem_range.2 hlt)
  simp only [hi, Bool.or_eq_true, Bool.and_eq_true, decide_eq_true_eq] at h1
  rcases h1 with h1 | ⟨h1 | h1, _⟩
  · omega
  · omega
  · exact h1
theorem tail_reach (h : tailOk ops m = true) {i : Nat} {o : Oper} (hi : ops[i]? = some o) (hm : m ≤ i) : ∀ j, j < m → reachB ops ops.size i j = true := by
  intro j hj
  have hlt := (Array.getElem?_eq_some_iff.1 hi).1
  have h1 := (List.all_eq_true.1 h) i (List.mem_range.2 hlt)
  simp only [hi, Bool.or_eq_true, Bool.and_eq_true, decide_eq_true_eq] at h1
  rcases h1 with h1 | ⟨_, h1⟩
  · omega
  · exact (List.all_eq_true.1 h1) j (List.mem_range.2 hj)
theorem reach_seen {seen : Array Bool} {a : Act} {u : World} (hI : Inv ops φ a0 w0 seen a u) : ∀ (f k j : Nat), seen.getD k false = true → reachB ops f k j = true → seen.getD j false = true := by
  intro f
  induction f with
  | zero => intro k j _ h; cases h
  | succ f ih =>
    intro k j hk h
    simp only [reachB] at h
    split at h
    · rename_i o ho
      rcases Bool.or_eq_true_iff.1 h with h | h
      · exact hI.closed k o ho hk j h
      · obtain ⟨k', _, h2⟩ := List.any_eq_true.1 h
        simp only [Bool.and_eq_true] at h2
        exact ih k' j (hI.closed k o ho hk k' h2.1) h2.2
    · cases h
theorem aft_seen {seen : Array Bool} {o : Oper} (hed : ∀ e ∈ o.after, Region.binds .any e = true → seen.getD e.on false = true) {j : Nat} (h : aft o j = true) : seen.getD j false = true := by
  unfold aft at h
  obtain ⟨e, he, hb⟩ := Array.any_eq_true'.1 h
  simp only [Bool.and_eq_true, beq_iff_eq] at hb
  rw [← hb.2]
  exact hed e he hb.1
theorem ready_seen {seen : Array Bool} {a : Act} {u : World} (hI : Inv ops φ a0 w0 seen a u) {i : Nat} {o : Oper} (hi : ops[i]? = some o) (hed : ∀ e ∈ o.after, Region.binds .any e = true → seen.getD e.on false = true) {f j : Nat} (h : reachB ops f i j = true) : seen.getD j false = true := by
  cases f with
  | zero => cases h
  | succ f =>
    simp only [reachB, hi] at h
    rcases Bool.or_eq_true_iff.1 h with h | h
    · exact aft_seen hed h
    · obtain ⟨k', _, h2⟩ := List.any_eq_true.1 h
      simp only [Bool.and_eq_true] at h2
      exact reach_seen hI f k' j (aft_seen hed h2.1) h2.2
theorem done_getD {n k j : Nat} (b : Bool) (hj : j < n) : (Done n k).getD j b = decide (j < k) := by simp [Done, Array.getD, hj]
theorem done_size (n k : Nat) : (Done n k).size = n := by simp [Done]
theorem seq_tail {size : Nat} (hok : flowOk ops size = true) (ht : tailOk ops m = true) : ∀ (r k : Nat) (a : Act) (u : World), k + r = ops.size → m ≤ k → wpList P ops Q (ops.toList.drop k) a u → wpAny P .any ops Q r (Done ops.size k) a u := by
  intro r
  induction r with
  | zero =>
    intro k a u hk hm h
    have hk' : k = ops.size := by omega
    subst hk'
    rw [List.drop_of_length_le (by simp)] at h
    refine ⟨List.eq_nil_iff_forall_not_mem.2 fun i hi => ?_, h⟩
    obtain ⟨hun, oi, hio, _⟩ := mem_ready.1 hi
    have hlt := (Array.getElem?_eq_some_iff.1 hio).1
    rw [done_getD true hlt] at hun
    simp at hun; omega
  | succ r ih =>
    intro k a u hk hm h
    have hlt : k < ops.size := by omega
    have ho : ops[k]? = some ops[k] := Array.getElem?_eq_getElem hlt
    rw [List.drop_eq_getElem_cons (by simpa using hlt)] at h
    have hready : k ∈ Region.ready .any ops (Done ops.size k) := mem_ready.2 ⟨by rw [done_getD true hlt]; simp, ops[k], ho, fun e he hb => by
      have h1 := (flowOk_at hok ho).1 e he hb
      rw [done_getD false (by omega)]; simpa using h1⟩
    refine ⟨fun h0 => absurd hready (by rw [h0]; simp), fun i hi => ?_⟩
    have hik : i = k := by
      obtain ⟨hun, oi, hio, hed⟩ := mem_ready.1 hi
      have hil := (Array.getElem?_eq_some_iff.1 hio).1
      rw [done_getD true hil] at hun
      have hge : k ≤ i := by simpa using hun
      rcases Nat.lt_or_ge k i with hki | hki
      · have h2 := aft_seen hed (tail_prev ht hio (by omega))
        rw [done_getD false (by omega)] at h2
        simp at h2; omega
      · omega
    subst hik
    have hnext : ∀ a u, wpList P ops Q (ops.toList.drop (i + 1)) a u → wpAny P .any ops Q r ((Done ops.size i).setIfInBounds i true) a u := fun a u h => by
      rw [Done.succ hlt]
      exact ih (i + 1) a u (by omega) (by omega) h
    unfold wpOp
    simp only [ho]
    unfold wpList at h
    rw [Array.getElem_toList] at h
    split
    · rename_i hw
      rw [if_pos hw] at h
      rcases h with h | h
      · exact .inl (Oper.wp_mono (fun a u h => hnext a u h) h)
      · exact .inr h
    · rename_i hw
      rw [if_neg hw] at h
      exact hnext _ _ h
theorem act_tail {seen : Array Bool} {a : Act} {u : World} (hok : flowOk ops a0.tmps.size = true) (hI : Inv ops φ a0 w0 seen a u) (hn : ∀ j, m ≤ j → seen.getD j false = false) : a = puts (held ops a) 0 (ops.toList.take m) a0 := by
  have hd : a.defers = (puts (held ops a) 0 (ops.toList.take m) a0).defers := by rw [puts_defers]; exact hI.defs
  have conv : ∀ (j : Nat) (o : Oper), (ops.toList.take m)[j]? = some o → j < m ∧ ops[j]? = some o := fun j o h => by
    rw [List.getElem?_take] at h
    split at h
    · rename_i hj; exact ⟨hj, by rw [← Array.getElem?_toList]; exact h⟩
    · cases h
  have ht : a.tmps = (puts (held ops a) 0 (ops.toList.take m) a0).tmps := by
    apply Array.ext_getElem?
    intro t
    by_cases hsz : t < a0.tmps.size
    · have huniq : ∀ (x y : Nat) (ox oy : Oper), (ops.toList.take m)[x]? = some ox → (ops.toList.take m)[y]? = some oy → ox.dst = some t → oy.dst = some t → x = y := fun x y ox oy hx hy h1 h2 => by
        rcases Nat.decEq x y with hne | he
        · exact absurd h1 (((flowOk_at hok (conv x ox hx).2).2.2.2 y oy t (conv y oy hy).2 h2).1 (fun e => hne e.symm))
        · exact he
      obtain ⟨h1, h2⟩ := puts_get (held ops a) (ops.toList.take m) 0 a0 t hsz huniq
      by_cases hex : ∃ (j : Nat) (oj : Oper), (ops.toList.take m)[j]? = some oj ∧ oj.dst = some t
      · obtain ⟨j, oj, hj, hd⟩ := hex
        rw [h2 j oj hj hd, Nat.zero_add]
        simp only [held, (conv j oj hj).2, slot, hd]
        have hts : t < a.tmps.size := by rw [hI.tsz]; exact hsz
        simp [Array.getD, hts]
      · have hex' : ∀ (j : Nat) (o : Oper), (ops.toList.take m)[j]? = some o → o.dst ≠ some t := fun j o hj hd => hex ⟨j, o, hj, hd⟩
        rw [h1 hex']
        refine hI.old t fun j oj hj hs => ?_
        have hjm : j < m := by
          rcases Nat.lt_or_ge j m with h | h
          · exact h
          · rw [hn j h] at hs; cases hs
        exact hex' j oj (by rw [List.getElem?_take, if_pos hjm, Array.getElem?_toList]; exact hj)
    · rw [Array.getElem?_eq_none (by rw [hI.tsz]; omega), Array.getElem?_eq_none (by rw [puts_size]; omega)]
  have ext : ∀ x y : Act, x.tmps = y.tmps → x.defers = y.defers → x = y := by rintro ⟨_, _⟩ ⟨_, _⟩ rfl rfl; rfl
  exact ext _ _ ht hd
theorem flow_tail_any (hok : flowOk ops a0.tmps.size = true) (hsel : Region.noSelect ops = true) (hmn : m ≤ ops.size) (htl : tailOk ops m = true) (hmono : ∀ p ∈ φ, Mono p)
    (hobl : ∀ f, Obls P ops φ w0 f 0 (ops.toList.take m) a0)
    (hfin : ∀ (g : Nat → Value) u, Ext w0 u → (∀ j, j < m → fact φ j (g j) u) → wpList P ops Q (ops.toList.drop m) (puts g 0 (ops.toList.take m) a0) u) :
    ∀ (n : Nat) (seen : Array Bool) (a : Act) (u : World), Inv ops φ a0 w0 seen a u → (∀ j, m ≤ j → seen.getD j false = false) → left ops seen = n → wpAny P .any ops Q n seen a u := by
  have whole : ∀ (n : Nat) (seen : Array Bool) (a : Act) (u : World), Inv ops φ a0 w0 seen a u → (∀ j, m ≤ j → seen.getD j false = false) → left ops seen = n → (∀ j, j < m → seen.getD j false = true) → wpAny P .any ops Q n seen a u := fun n seen a u hI hn hl hall => by
    have hseen : seen = Done ops.size m := by
      apply Array.ext
      · rw [hI.size, done_size]
      · intro i h1 h2
        have e1 : seen[i] = seen.getD i false := by simp [Array.getD, h1]
        have e2 : (Done ops.size m)[i] = (Done ops.size m).getD i false := by simp [Array.getD, h2]
        rw [e1, e2, done_getD false (by rw [← hI.size]; exact h1)]
        rcases Nat.lt_or_ge i m with h | h
        · rw [hall i h]; simp [h]
        · rw [hn i h]; simp; omega
    have hleft : left ops seen = ops.size - m := by
      unfold left
      have : (List.range ops.size).countP (fun i => !seen.getD i false) = (List.range ops.size).countP (fun i => decide (m ≤ i)) := by
        apply List.countP_congr
        intro j hj
        rcases Nat.lt_or_ge j m with h | h
        · rw [hall j h]; simp; omega
        · rw [hn j h]; simp; omega
      rw [this]
      have cnt : ∀ N, (List.range N).countP (fun i => decide (m ≤ i)) = N - m := by
        intro N
        induction N with
        | zero => simp
        | succ N ih =>
          rw [List.range_succ, List.countP_append, ih, List.countP_singleton]
          by_cases h : m ≤ N
          · simp [h]; omega
          · simp [h]; omega
      exact cnt _
    have hA := act_tail hok hI hn
    have hF := hfin (held ops a) u hI.ext fun j hj => by
      have hoj : ops[j]? = some ops[j] := Array.getElem?_eq_getElem (by omega)
      simp only [held, hoj]
      exact hI.facts j _ hoj (hall j hj)
    rw [← hA] at hF
    rw [← hl, hleft, hseen]
    exact seq_tail hok htl _ _ _ _ (by omega) (Nat.le_refl _) hF
  intro n
  induction n with
  | zero =>
    intro seen a u hI hn hl
    refine whole 0 seen a u hI hn hl fun j hj => ?_
    have := List.countP_eq_zero.1 hl j (List.mem_range.2 (by omega))
    simpa using this
  | succ n ih =>
    intro seen a u hI hn hl
    by_cases hall : ∀ j, j < m → seen.getD j false = true
    · exact whole _ seen a u hI hn hl hall
    · have hread : Region.ready .any ops seen = [] → False := fun hr => hall fun j hj => by
        exact all_seen hok hI hr j (by omega)
      refine ⟨fun hr => (hread hr).elim, fun i hi => ?_⟩
      obtain ⟨hun, oi, hio, hed⟩ := mem_ready.1 hi
      have hlt := (Array.getElem?_eq_some_iff.1 hio).1
      rw [getD_both seen (by rw [hI.size]; exact hlt)] at hun
      have hleft := left_next hI.size hlt hun
      have him : i < m := by
        rcases Nat.lt_or_ge i m with h | h
        · exact h
        · exfalso
          refine hall fun j hj => ?_
          exact ready_seen hI hio hed (tail_reach htl hio h j hj)
      refine wpOp_mono (fun b u' hb => ih _ b u' hb ?_ (by omega)) (flow_step hok hsel hmono hobl hI him hi)
      intro j hj
      rw [set_getD, if_neg (fun h => by have := h.1; omega)]; exact hn j hj
theorem flow_tail {id : Nat} {w : World} (hm0 : P.follows .mixedOrders = true) (φ : List (Value → World → Prop)) (m : Nat) (hok : flowOk ops a0.tmps.size = true) (hsel : Region.noSelect ops = true) (hmn : decide (m ≤ ops.size) = true) (htl : tailOk ops m = true) (hmono : ∀ p ∈ φ, Mono p)
    (hobl : ∀ f, Obls P ops φ w.drew f 0 (ops.toList.take m) a0)
    (hfin : ∀ (g : Nat → Value) u, Ext w.drew u → (∀ j, j < m → fact φ j (g j) u) → wpList P ops Q (ops.toList.drop m) (puts g 0 (ops.toList.take m) a0) u) :
    (Code.region id ops true).wp P Q a0 w := by
  refine wp_region_any hm0 (flow_tail_any hok hsel (of_decide_eq_true hmn) htl hmono hobl hfin ops.size _ a0 w.drew inv_start (fun j _ => ?_) left_start)
  rw [Array.getD_eq_getD_getElem?]
  by_cases hj : j < ops.size
  · simp [hj]
  · simp [hj]
end
end Go.Proofs.YthhgjeeangepaaaGreat
namespace Go.Proofs.YthhgjeeangepaaaGreat
open Go.ChangeShapes Go.WideShapes Go.ChangeAt Go.RowKit
theorem entry_ret1 {fn : Func} {tmps : Array Value} {w : World} {g : Nat} {p : Tmp} {c : Array Value} {R : Ending → World → Prop} (hr : fn.results = #[.cell p 55]) (h2 : tmps.getD p undef = .pointer (some ⟨g, 0, none⟩))
    (hc : c.size = 4) (hg : w.heap[g]? = some (.cells c 55 (0, 0))) (h : R (.returned (.agg c)) w) : bodyPost Tryz.prog fn R .ret { tmps := tmps, defers := [] } w := by
  have hi : (Tryz.prog.info? 55).map (·.size) = some 4 := by kernel_rfl
  exact ⟨rfl, .agg c, results_cell_row hr _ _ _ _ _ _ _ h2 hg Tryz.underlying55 rfl (by rw [hc]; exact hi), h⟩
theorem Own.far {B : Nat} {l : List Nat} {v x : Value} {u : World} {p : Addr} (h : Own B l v u) (hp : p.block < B) : Own B l v (u.setCell p x) :=
  row_kept h (fun g hg => Below.heap_setCell _ _ _ _ (by have := (row_lt h g hg).1; omega))
def CopyAns (w : World) (e : Ent) (x : Ending) (w' : World) : Prop :=
  Ext w w' ∧ ∃ g : Hd, x = .returned (e.at_ g) ∧ Own w.heap.size e.key (.slice g.kA e.key.length g.kc) w' ∧ Own w.heap.size e.val (.slice g.vA e.val.length g.vc) w'
set_option maxRecDepth 100000 in
set_option maxHeartbeats 4000000 in
theorem copy_any {w : World} {lo hi : Nat} {e : Ent} {g : Hd} (hm : Em w lo hi e g) (hhi : hi ≤ w.heap.size) (hk : e.key.length ≤ 1099511627776) (hv : e.val.length ≤ 1099511627776) : Calls Tryz.prog 106 #[e.at_ g] w (CopyAns w e) := by
  obtain ⟨w1, hw1⟩ : ∃ w1, w1 = (w.alloc (.cells #[.slice g.kA e.key.length g.kc, .int .i64 e.seq, .int .i64 e.kind, .slice g.vA e.val.length g.vc] 55)).alloc (.cells #[.slice none 0 0, .int .i64 0, .int .i64 0, .slice none 0 0] 55) := ⟨_, rfl⟩
  have HX : Hid (Ext w w1) := by rw [hw1]; exact Ext.trans (ext_alloc _ _) (ext_alloc _ _)
  have HZ1 : Hid (w1.heap.size = w.heap.size + 2) := by rw [hw1]; simp [Hid]
  have HBX : Hid (w1.heap[w.heap.size]? = some (.cells #[.slice g.kA e.key.length g.kc, .int .i64 e.seq, .int .i64 e.kind, .slice g.vA e.val.length g.vc] 55 (0, 0))) := by rw [hw1]; exact ext_heap (ext_alloc _ _) (heap_at _ _ rfl)
  have HRX : Hid (w1.heap[w.heap.size + 1]? = some (.cells #[.slice none 0 0, .int .i64 0, .int .i64 0, .slice none 0 0] 55 (0, 0))) := by rw [hw1]; exact heap_at _ _ (by simp)
  have HM := Lib.hid hm
  have HHI := Lib.hid hhi
  have HK := Lib.hid hk
  have HV := Lib.hid hv
  clear hm hhi hk hv
  have c0 := cell_of HBX.out (k := 0) rfl
  have c3 := cell_of HBX.out (k := 3) rfl
  unfold Ent.at_
  go_enter Tryz.func106, Tryz.ntmps106
  go_upto_region 1 with (fail)
  rw [← hw1]
  clear hw1
  refine flow_tail (by kernel_rfl) [Is (.pointer (some ⟨w.heap.size, 0, none⟩)), Is (.slice g.kA e.key.length g.kc), Own w1.heap.size e.key, Is (.pointer (some ⟨w.heap.size, 3, none⟩)), Is (.slice g.vA e.val.length g.vc), Own w1.heap.size e.val, Is (.pointer (some ⟨w.heap.size, 0, none⟩))] 7 (by kernel_rfl) (by kernel_rfl) (by kernel_rfl) (by kernel_rfl) ?mono (fun f => ?obl) ?fin
  case mono =>
    simp only [List.forall_mem_cons, List.not_mem_nil, false_imp_iff, implies_true, and_true]
    exact ⟨.is _, .is _, .own _ _, .is _, .is _, .own _ _, .is _⟩
  case fin =>
    intro g1 u hu hg
    simp only [List.take_succ_cons, List.take_zero, List.drop_succ_cons, List.drop_zero, puts, Act.put, zq1, zq2, zq3]
    have h2 : Own w1.heap.size e.key (g1 2) u := hg 2 (by decide)
    have h5 : Own w1.heap.size e.val (g1 5) u := hg 5 (by decide)
    have h6 : g1 6 = .pointer (some ⟨w.heap.size, 0, none⟩) := hg 6 (by decide)
    obtain ⟨v2, e2⟩ : ∃ v, v = g1 2 := ⟨_, rfl⟩
    obtain ⟨v5, e5⟩ : ∃ v, v = g1 5 := ⟨_, rfl⟩
    rw [h6]
    rw [← e2] at h2 ⊢
    rw [← e5] at h5 ⊢
    have H2 := Lib.hid h2
    have H5 := Lib.hid h5
    obtain ⟨A2, c2, rfl⟩ := h2.slice
    obtain ⟨A5, c5, rfl⟩ := h5.slice
    have HU : Hid (Ext w1 u) := Ext.trans (Ext.drew w1) hu
    have hb1 := ext_heap HU.out HBX.out
    have hb2 := ext_heap HU.out HRX.out
    have q0 := cell_of hb1 (k := 0) rfl
    have q1 := cell_of hb1 (k := 1) rfl
    have q2 := cell_of hb1 (k := 2) rfl
    have q3 := cell_of hb1 (k := 3) rfl
    have z0 := frozen_four hb1 (j := 0)
    have z3 := frozen_four hb1 (j := 3)
    have r0 := cell_of hb2 (k := 0) rfl
    have r1 := cell_of hb2 (k := 1) rfl
    have r2 := cell_of hb2 (k := 2) rfl
    have r3 := cell_of hb2 (k := 3) rfl
    have y0 := frozen_four hb2 (j := 0)
    have y1 := frozen_four hb2 (j := 1)
    have y2 := frozen_four hb2 (j := 2)
    have y3 := frozen_four hb2 (j := 3)
    have HB2 := Lib.hid hb2
    clear h2 h5 h6 e2 e5 hb1 hb2 hg hu c0 c3
    go_wp2_with fail
    have n1 : w.heap.size < w1.heap.size := by have := HZ1.out; omega
    have n2 : w.heap.size + 1 < w1.heap.size := by have := HZ1.out; omega
    have n3 : w.heap.size ≤ w1.heap.size := Nat.le_of_lt n1
    have HUW := Ext.trans HX.out HU.out
    refine entry_ret1 (p := 2) (by kernel_rfl) rfl rfl (set_four (a := .slice none 0 0) (b := .int .i64 0) (c := .int .i64 0) (d := .slice none 0 0) ?_) ?_
    · rw [Below.heap_setCell _ _ _ _ (by simp), Below.heap_setCell _ _ _ _ (by simp)]; exact HB2.out
    · refine ⟨Below.setCell (Below.setCell (Below.setCell (Below.setCell (Below.setCell (Below.setCell HUW (Nat.le_refl _) _) (Nat.le_refl _) _) (Nat.le_succ _) _) (Nat.le_succ _) _) (Nat.le_succ _) _) (Nat.le_succ _) _, ⟨A2, c2, A5, c5⟩, rfl, ?_, ?_⟩
      · exact ((((((H2.out.far n1).far n1).far n2).far n2).far n2).far n2).base n3
      · exact ((((((H5.out.far n1).far n1).far n2).far n2).far n2).far n2).base n3
  case obl =>
    refine ⟨fun u hu hd => ?_, ?_⟩
    · go_simp
      exact ⟨Ext.refl _, rfl⟩
    refine ⟨fun u hu hd => ?_, ?_⟩
    · simp only [Act.put, zq1, zq2, zq3]
      have e0 : f 0 = (.pointer (some ⟨w.heap.size, 0, none⟩)) := hd 0 (by kernel_rfl)
      have q := ext_cell hu c0
      go_simp
      exact ⟨Ext.refl _, rfl⟩
    refine ⟨fun u hu hd => ?_, ?_⟩
    · simp only [Act.put, zq1, zq2, zq3]
      have e1 : f 1 = (.slice g.kA e.key.length g.kc) := hd 1 (by kernel_rfl)
      go_simp
      refine (clone_any _ lo hi e.key u (HM.out.k.below (Ext.trans HX.out (Ext.trans (Ext.drew w1) hu)) HHI.out) (Nat.le_trans HHI.out (Ext.trans HX.out (Ext.trans (Ext.drew w1) hu)).size) HK.out).mono ?_
      rintro x w9 ⟨v, rfl, hown, hb9⟩
      exact ⟨v, rfl, hb9, ownsRow_base hown (Ext.trans (Ext.drew w1) hu).size⟩
    refine ⟨fun u hu hd => ?_, ?_⟩
    · simp only [Act.put, zq1, zq2, zq3]
      go_simp
      exact ⟨Ext.refl _, rfl⟩
    refine ⟨fun u hu hd => ?_, ?_⟩
    · simp only [Act.put, zq1, zq2, zq3]
      have e3 : f 3 = (.pointer (some ⟨w.heap.size, 3, none⟩)) := hd 3 (by kernel_rfl)
      have q := ext_cell hu c3
      go_simp
      exact ⟨Ext.refl _, rfl⟩
    refine ⟨fun u hu hd => ?_, ?_⟩
    · simp only [Act.put, zq1, zq2, zq3]
      have e4 : f 4 = (.slice g.vA e.val.length g.vc) := hd 4 (by kernel_rfl)
      go_simp
      refine (clone_any _ lo hi e.val u (HM.out.v.below (Ext.trans HX.out (Ext.trans (Ext.drew w1) hu)) HHI.out) (Nat.le_trans HHI.out (Ext.trans HX.out (Ext.trans (Ext.drew w1) hu)).size) HV.out).mono ?_
      rintro x w9 ⟨v, rfl, hown, hb9⟩
      exact ⟨v, rfl, hb9, ownsRow_base hown (Ext.trans (Ext.drew w1) hu).size⟩
    refine ⟨fun u hu hd => ?_, ?_⟩
    · simp only [Act.put, zq1, zq2, zq3]
      go_simp
      exact ⟨Ext.refl _, rfl⟩
    trivial
end Go.Proofs.YthhgjeeangepaaaGreat
namespace Go.Proofs.YthhgjeeangepaaaGreat
open Go.ChangeShapes Go.WideShapes Go.ChangeAt Go.RowKit
theorem conv_new (w : World) (l : List Nat) (hl : ∀ x ∈ l, x < 256) (hlen : l.length ≤ 1000) : ∃ A c w', (convert 9 26 (.string (tx l))).run Tryz.prog w = .ok (.slice A l.length c) w' ∧ Ext w w' ∧ Bs w' w.heap.size w'.heap.size (.slice A l.length c) l := by
  have hs : (tx l).size = l.length := by unfold tx; rw [strOfNums_size, List.length_map]
  have hb : ∀ (b : Nat), b < w.heap.size → (Lib.bytesWorld w 5 (tx l)).heap[b]? = w.heap[b]? := fun b hb => Lib.bytesWorld_at_old _ _ _ _ hb
  refine ⟨_, _, _, by rw [← hs]; exact Lib.run_convert_string_bytes w _ _ _ (tx l) Tryz.underlying9 Tryz.underlying26 Tryz.underlying5, ⟨?_, ?_, ?_, ?_, fun b h => hb b h⟩, ?_⟩
  · simp [Lib.bytesWorld, World.freeze, World.alloc, World.drew, -World.alloc_eq, -World.drew_eq]
  · simp [Lib.bytesWorld, World.freeze, World.alloc, World.drew, -World.alloc_eq, -World.drew_eq]
  · simp [Lib.bytesWorld, World.freeze, World.alloc, World.drew, -World.alloc_eq, -World.drew_eq]
  · rw [Lib.bytesWorld_size]; omega
  · refine ⟨_, _, rfl, by rw [← hs]; exact grownCap_ge _ _ _ _, by exact grownCap_le_maxLen _ _ _ _ (by rw [hs]; unfold maxLen; omega), (fun h => by cases h), .inr ⟨w.heap.size, 0, rfl, Nat.le_refl _, by rw [Lib.bytesWorld_size]; omega, fun i u hu => ?_⟩⟩
    have hi : i < l.length := by
      rcases Nat.lt_or_ge i l.length with h | h
      · exact h
      · rw [List.getElem?_eq_none (by rw [bv_length]; exact h)] at hu; cases hu
    rw [Nat.zero_add, Lib.bytesWorld_cell _ _ _ _ (by rw [hs]; exact hi), ← hu]
    have hx := hl l[i] (List.getElem_mem hi)
    unfold tx bv
    rw [strOfNums_data]
    simp [List.getD, List.getElem?_eq_getElem hi, Nat.mod_eq_of_lt hx]
def LitAns (w : World) (e : Ent) (x : Ending) (w' : World) : Prop := Ext w w' ∧ ∃ g : Hd, x = .returned (e.at_ g) ∧ Em w' w.heap.size w'.heap.size e g
end Go.Proofs.YthhgjeeangepaaaGreat
namespace Go.Proofs.YthhgjeeangepaaaGreat
open Go.ChangeShapes Go.WideShapes Go.ChangeAt Go.RowKit
def ecells (p : Ent × Hd) : List Value := [.slice p.2.kA p.1.key.length p.2.kc, .int .i64 p.1.seq, .int .i64 p.1.kind, .slice p.2.vA p.1.val.length p.2.vc]
theorem ecells_length (p : Ent × Hd) : (ecells p).length = 4 := rfl
def erow (L : List (Ent × Hd)) : List Value := L.flatMap ecells
theorem erow_length (L : List (Ent × Hd)) : (erow L).length = L.length * 4 := by
  unfold erow
  induction L with
  | nil => rfl
  | cons a l ih => rw [List.flatMap_cons, List.length_append, ih, ecells_length, List.length_cons]; omega
theorem erow_append (L R : List (Ent × Hd)) : erow (L ++ R) = erow L ++ erow R := by simp [erow]
theorem erow_at (L : List (Ent × Hd)) {k j : Nat} (hk : k < L.length) (hj : j < 4) : (erow L)[k * 4 + j]? = (ecells L[k])[j]? := by
  unfold erow
  induction L generalizing k with
  | nil => simp at hk
  | cons a l ih =>
    rw [List.flatMap_cons]
    cases k with
    | zero => rw [List.getElem?_append_left (by rw [ecells_length]; omega)]; simp
    | succ k =>
      rw [List.getElem?_append_right (by rw [ecells_length]; omega), ecells_length, show (k + 1) * 4 + j - 4 = k * 4 + j by omega]
      simpa using ih (k := k) (by simpa using hk)
theorem erow_one (L : List (Ent × Hd)) : ∀ u ∈ erow L, u.oneCell' = true := by
  intro u hu
  unfold erow at hu
  obtain ⟨p, _, h⟩ := List.mem_flatMap.1 hu
  simp only [ecells, List.mem_cons, List.not_mem_nil, or_false] at h
  rcases h with rfl | rfl | rfl | rfl <;> rfl
structure Es (w : World) (lo hi : Nat) (A : Option Addr) (L : List (Ent × Hd)) : Prop where
  outer : Sl w lo hi A (erow L)
  each : ∀ p ∈ L, Em w lo hi p.1 p.2
theorem Es.below {w w' : World} {lo hi B : Nat} {A : Option Addr} {L : List (Ent × Hd)} (h : Es w lo hi A L) (hb : Below B w w') (hB : hi ≤ B) : Es w' lo hi A L := ⟨h.outer.below hb hB, fun p hp => (h.each p hp).below hb hB⟩
theorem Es.wide {w : World} {lo hi lo' hi' : Nat} {A : Option Addr} {L : List (Ent × Hd)} (h : Es w lo hi A L) (h1 : lo' ≤ lo) (h2 : hi ≤ hi') : Es w lo' hi' A L := ⟨h.outer.wide h1 h2, fun p hp => (h.each p hp).wide h1 h2⟩
theorem Es.at_ {w : World} {lo hi : Nat} {A : Option Addr} {L : List (Ent × Hd)} (h : Es w lo hi A L) {k : Nat} (hk : k < L.length) :
    ∃ b o, A = some ⟨b, o, none⟩ ∧ b < hi ∧ w.cell? ⟨b, o + k * 4, none⟩ = some (.slice L[k].2.kA L[k].1.key.length L[k].2.kc) ∧ w.cell? ⟨b, o + k * 4 + 1, none⟩ = some (.int .i64 L[k].1.seq) ∧
      w.cell? ⟨b, o + k * 4 + 2, none⟩ = some (.int .i64 L[k].1.kind) ∧ w.cell? ⟨b, o + k * 4 + 3, none⟩ = some (.slice L[k].2.vA L[k].1.val.length L[k].2.vc) := by
  obtain ⟨b, o, rfl, _, hb, _⟩ := Sl.at_ h.outer (i := k * 4) (by rw [erow_length]; omega)
  have hc : ∀ j u, (erow L)[j]? = some u → w.cell? ⟨b, o + j, none⟩ = some u := by
    rcases h.outer with h0 | ⟨b', o', he, _, _, hc⟩
    · have := congrArg List.length h0
      rw [erow_length] at this
      simp at this; omega
    · injection he with he
      injection he with e1 e2
      subst e1 e2
      exact hc
  have hj := fun (j : Nat) (hj : j < 4) (u : Value) (hu : (ecells L[k])[j]? = some u) => hc (k * 4 + j) u ((erow_at L hk hj).trans hu)
  refine ⟨b, o, rfl, hb, hj 0 (by decide) _ rfl, ?_, ?_, ?_⟩
  · rw [Nat.add_assoc]; exact hj 1 (by decide) _ rfl
  · rw [Nat.add_assoc]; exact hj 2 (by decide) _ rfl
  · rw [Nat.add_assoc]; exact hj 3 (by decide) _ rfl
theorem Es.base {w : World} {lo hi : Nat} {A : Option Addr} {L : List (Ent × Hd)} (h : Es w lo hi A L) (h0 : 0 < L.length) : ∃ b o, A = some ⟨b, o, none⟩ := by
  obtain ⟨b, o, e, _⟩ := h.at_ h0
  exact ⟨b, o, e⟩
theorem Es.get {w : World} {lo hi b o : Nat} {L : List (Ent × Hd)} (h : Es w lo hi (some ⟨b, o, none⟩) L) {k : Nat} {p : Ent × Hd} (hk : L[k]? = some p) :
    w.cell? ⟨b, o + k * 4, none⟩ = some (.slice p.2.kA p.1.key.length p.2.kc) ∧ w.cell? ⟨b, o + k * 4 + 1, none⟩ = some (.int .i64 p.1.seq) ∧
      w.cell? ⟨b, o + k * 4 + 2, none⟩ = some (.int .i64 p.1.kind) ∧ w.cell? ⟨b, o + k * 4 + 3, none⟩ = some (.slice p.2.vA p.1.val.length p.2.vc) := by
  obtain ⟨hlt, rfl⟩ := List.getElem?_eq_some_iff.1 hk
  obtain ⟨_, _, he, _, c0, c1, c2, c3⟩ := h.at_ hlt
  injection he with he; injection he with e1 e2; subst e1 e2
  exact ⟨c0, c1, c2, c3⟩
structure RiseAt (L : List Ent) (n : Nat) : Prop where
  le : n ≤ L.length
  rise : ∀ j a b, j + 1 < n → L[j]? = some a → L[j + 1]? = some b → cmpE a b < 0
  stop : n < L.length → ∃ j a b, n = j + 1 ∧ L[j]? = some a ∧ L[j + 1]? = some b ∧ ¬ cmpE a b < 0
end Go.Proofs.YthhgjeeangepaaaGreat
namespace Go.Proofs.YthhgjeeangepaaaGreat
open Go.ChangeShapes Go.WideShapes Go.ChangeAt Go.RowKit
set_option maxRecDepth 100000 in
set_option maxHeartbeats 4000000 in
theorem rising_any {w : World} {lo hi : Nat} {A : Option Addr} {c : Nat} {L : List (Ent × Hd)} (h : Es w lo hi A L) (hhi : hi ≤ w.heap.size) (hlen : L.length ≤ 1000000000000) :
    Calls Tryz.prog 114 #[.slice A L.length c] w fun x w' => ∃ n : Nat, RiseAt (L.map Prod.fst) n ∧ x = .returned (.int .i64 (n : Int)) ∧ Ext w w' := by
  by_cases h0 : L.length = 0
  · obtain rfl : L = [] := List.eq_nil_of_length_eq_zero h0
    clear h hhi hlen h0
    go_enter Tryz.func114, Tryz.ntmps114
    go_wp2_with fail
    go_loopw [3] (fun a wr => a = .int .i64 1 ∧ Ext w wr) (fun _ _ => 0)
    case atStart => exact ⟨rfl, Ext.refl _⟩
    case round =>
      obtain ⟨rfl, hx⟩ := hrel
      go_wp2_with fail
      go_ret
      exact ⟨0, ⟨by simp, fun j a b hj => by omega, fun h => by simp at h⟩, rfl, hx⟩
  · obtain ⟨b, o, rfl⟩ := h.base (by omega)
    have HE := Lib.hid h
    have HHI := Lib.hid hhi
    have HL := Lib.hid hlen
    have hlI : (L.length : Int) ≤ 1000000000000 := by omega
    clear h hhi
    go_enter Tryz.func114, Tryz.ntmps114
    go_wp2_with fail
    go_loopw [3] (fun a wr => ∃ i : Nat, a = .int .i64 (i : Int) ∧ 1 ≤ i ∧ i ≤ L.length ∧ Hid (∀ j a b, j + 1 < i → (L.map Prod.fst)[j]? = some a → (L.map Prod.fst)[j + 1]? = some b → cmpE a b < 0) ∧ Hid (Ext w wr)) (fun a _ => L.length - (intOf a).toNat)
    case atStart => exact ⟨1, rfl, by omega, by omega, fun j a b hj => by omega, Ext.refl _⟩
    case round =>
      obtain ⟨i, rfl, hi1, hm, HR, HX⟩ := hrel
      obtain ⟨m, him⟩ : ∃ m, m + 1 = i := ⟨i - 1, by omega⟩
      have HIM := Lib.hid him
      by_cases hlt : i < L.length
      · have d : decide ((i : Int) < (L.length : Int)) = true := by simp; omega
        obtain ⟨p, hp⟩ : ∃ p, L[m]? = some p := ⟨_, List.getElem?_eq_getElem (by omega)⟩
        obtain ⟨q, hq⟩ : ∃ q, L[i]? = some q := ⟨_, List.getElem?_eq_getElem hlt⟩
        obtain ⟨c0, c1, c2, c3⟩ := (HE.out.below HX.out HHI.out).get hp
        obtain ⟨d0, d1, d2, d3⟩ := (HE.out.below HX.out HHI.out).get hq
        have HC : Hid (∀ u, Ext wr u → Calls Tryz.prog 102 #[.agg #[.slice p.2.kA p.1.key.length p.2.kc, .int .i64 p.1.seq, .int .i64 p.1.kind, .slice p.2.vA p.1.val.length p.2.vc], .agg #[.slice q.2.kA q.1.key.length q.2.kc, .int .i64 q.1.seq, .int .i64 q.1.kind, .slice q.2.vA q.1.val.length q.2.vc]] u fun x w' => x = .returned (.int .i64 (cmpE p.1 q.1)) ∧ Ext u w') := fun u hu => by
          have hE := HE.out.below (Ext.trans HX.out hu) HHI.out
          have hle := Nat.le_trans HHI.out (Ext.trans HX.out hu).size
          exact compare_any (hE.each p (List.mem_of_getElem? hp)) (hE.each q (List.mem_of_getElem? hq)) hle hle
        have HP1 := Lib.hid hp
        have HQ1 := Lib.hid hq
        have hw : wrap64 ((i : Int) - 1) = (m : Int) := by have := HL.out; unfold wrap64; omega
        have hw2 : wrap64 ((i : Int) + 1) = ((i + 1 : Nat) : Int) := by have := HL.out; unfold wrap64; omega
        have hw3 : IntKind.i64.wrap ((i : Int) - 1) = (m : Int) := by have := HL.out; rw [IntKind.wrap_i64]; omega
        have n1 : (0 : Int) ≤ (m : Int) := by omega
        have n2 : (m : Int) < (L.length : Int) := by omega
        have n3 : (0 : Int) ≤ (i : Int) := by omega
        have n4 : (i : Int) < (L.length : Int) := by omega
        have HLT := Lib.hid hlt
        have HI1 := Lib.hid hi1
        clear hp hq hlt hm h0 him hi1
        go_upto_region 4 with (fail)
        refine flow (by kernel_rfl) [Is (.slice (some ⟨b, o, none⟩) L.length c), Is (.int .i64 (i : Int)), Is (.int .i64 (m : Int)), Is (.pointer (some ⟨b, o + m * 4, none⟩)), Is (.agg #[.slice p.2.kA p.1.key.length p.2.kc, .int .i64 p.1.seq, .int .i64 p.1.kind, .slice p.2.vA p.1.val.length p.2.vc]), Is (.slice (some ⟨b, o, none⟩) L.length c), Is (.int .i64 (i : Int)), Is (.pointer (some ⟨b, o + i * 4, none⟩)), Is (.agg #[.slice q.2.kA q.1.key.length q.2.kc, .int .i64 q.1.seq, .int .i64 q.1.kind, .slice q.2.vA q.1.val.length q.2.vc]), Is (.int .i64 (cmpE p.1 q.1)), Is (.bool (decide (0 ≤ cmpE p.1 q.1)))] (by kernel_rfl) (by kernel_rfl) ?mono (fun f => ?obl) ?fin
        case mono =>
          simp only [List.forall_mem_cons, List.not_mem_nil, false_imp_iff, implies_true, and_true]
          exact ⟨.is _, .is _, .is _, .is _, .is _, .is _, .is _, .is _, .is _, .is _, .is _⟩
        case fin =>
          intro g1 u hu hg
          simp only [puts, Act.put, zq1, zq2, zq3]
          have h10 : g1 10 = .bool (decide (0 ≤ cmpE p.1 q.1)) := hg 10 (by decide)
          rw [h10]
          have HXU : Hid (Ext w u) := Ext.trans HX.out (Ext.trans (Ext.drew wr) hu)
          clear h10 hg hu HX c0 c1 c2 c3 d0 d1 d2 d3
          obtain ⟨z, hz⟩ : ∃ z, z = decide (0 ≤ cmpE p.1 q.1) := ⟨_, rfl⟩
          rw [← hz]
          have HZ := Lib.hid hz
          clear hz
          rcases z with _ | _
          rotate_left
          · have HCC := Lib.hid (of_decide_eq_true HZ.out.symm)
            go_wp2_with fail
            go_ret
            have him := HIM.out
            subst him
            refine ⟨m + 1, ⟨by have := HLT.out; rw [List.length_map]; omega, HR.out, fun _ => ⟨m, p.1, q.1, rfl, by rw [List.getElem?_map, HP1.out]; rfl, by rw [List.getElem?_map, HQ1.out]; rfl, by have := HCC.out; omega⟩⟩, rfl, HXU.out⟩
          · have HCC := Lib.hid (of_decide_eq_false HZ.out.symm)
            go_wp2_with fail
            refine ⟨⟨i + 1, rfl, by omega, HLT.out, fun j a b hj ha hb => ?_, HXU.out⟩, ?_⟩
            · by_cases hji : j + 1 = i
              · have hjm : j = m := by have := HIM.out; omega
                rw [hjm, List.getElem?_map, HP1.out] at ha
                rw [hji, List.getElem?_map, HQ1.out] at hb
                simp at ha hb
                subst ha hb
                have := HCC.out; omega
              · exact HR.out j a b (by omega) ha hb
            · have := HLT.out; simp [intOf]; omega
        case obl =>
          refine ⟨fun u hu hd => ?_, ?_⟩
          · go_simp
            exact ⟨Ext.refl _, rfl⟩
          refine ⟨fun u hu hd => ?_, ?_⟩
          · simp only [Act.put, zq1, zq2, zq3]
            go_simp
            exact ⟨Ext.refl _, rfl⟩
          refine ⟨fun u hu hd => ?_, ?_⟩
          · simp only [Act.put, zq1, zq2, zq3]
            have e1 : f 1 = (.int .i64 (i : Int)) := hd 1 (by kernel_rfl)
            go_simp
            exact ⟨Ext.refl _, rfl⟩
          refine ⟨fun u hu hd => ?_, ?_⟩
          · simp only [Act.put, zq1, zq2, zq3]
            have e0 : f 0 = (.slice (some ⟨b, o, none⟩) L.length c) := hd 0 (by kernel_rfl)
            have e2 : f 2 = (.int .i64 (m : Int)) := hd 2 (by kernel_rfl)
            go_simp
            exact ⟨Ext.refl _, rfl⟩
          refine ⟨fun u hu hd => ?_, ?_⟩
          · simp only [Act.put, zq1, zq2, zq3]
            have e3 : f 3 = (.pointer (some ⟨b, o + m * 4, none⟩)) := hd 3 (by kernel_rfl)
            have hu2 := Ext.trans (Ext.drew wr) hu
            have q0 := ext_cell hu2 c0
            have q1 := ext_cell hu2 c1
            have q2 := ext_cell hu2 c2
            have q3 := ext_cell hu2 c3
            go_simp
            exact ⟨Ext.refl _, rfl⟩
          refine ⟨fun u hu hd => ?_, ?_⟩
          · simp only [Act.put, zq1, zq2, zq3]
            go_simp
            exact ⟨Ext.refl _, rfl⟩
          refine ⟨fun u hu hd => ?_, ?_⟩
          · simp only [Act.put, zq1, zq2, zq3]
            go_simp
            exact ⟨Ext.refl _, rfl⟩
          refine ⟨fun u hu hd => ?_, ?_⟩
          · simp only [Act.put, zq1, zq2, zq3]
            have e5 : f 5 = (.slice (some ⟨b, o, none⟩) L.length c) := hd 5 (by kernel_rfl)
            have e6 : f 6 = (.int .i64 (i : Int)) := hd 6 (by kernel_rfl)
            go_simp
            exact ⟨Ext.refl _, rfl⟩
          refine ⟨fun u hu hd => ?_, ?_⟩
          · simp only [Act.put, zq1, zq2, zq3]
            have e7 : f 7 = (.pointer (some ⟨b, o + i * 4, none⟩)) := hd 7 (by kernel_rfl)
            have hu2 := Ext.trans (Ext.drew wr) hu
            have q0 := ext_cell hu2 d0
            have q1 := ext_cell hu2 d1
            have q2 := ext_cell hu2 d2
            have q3 := ext_cell hu2 d3
            go_simp
            exact ⟨Ext.refl _, rfl⟩
          refine ⟨fun u hu hd => ?_, ?_⟩
          · simp only [Act.put, zq1, zq2, zq3]
            have e4 : f 4 = (.agg #[.slice p.2.kA p.1.key.length p.2.kc, .int .i64 p.1.seq, .int .i64 p.1.kind, .slice p.2.vA p.1.val.length p.2.vc]) := hd 4 (by kernel_rfl)
            have e8 : f 8 = (.agg #[.slice q.2.kA q.1.key.length q.2.kc, .int .i64 q.1.seq, .int .i64 q.1.kind, .slice q.2.vA q.1.val.length q.2.vc]) := hd 8 (by kernel_rfl)
            go_simp
            refine (HC.out u (Ext.trans (Ext.drew wr) hu)).mono ?_
            rintro x w9 ⟨rfl, hb9⟩
            exact ⟨_, rfl, hb9, rfl⟩
          refine ⟨fun u hu hd => ?_, ?_⟩
          · simp only [Act.put, zq1, zq2, zq3]
            have e9 : f 9 = (.int .i64 (cmpE p.1 q.1)) := hd 9 (by kernel_rfl)
            go_simp
            exact ⟨Ext.refl _, rfl⟩
          trivial
      · have d : decide ((i : Int) < (L.length : Int)) = false := by simp; omega
        have HLT := Lib.hid hlt
        have HM := Lib.hid hm
        clear hlt hm him h0 hi1
        go_wp2_with fail
        go_ret
        exact ⟨L.length, ⟨by simp, fun j a b hj ha hb => HR.out j a b (by have := HLT.out; have := HM.out; omega) ha hb, fun h => by simp at h⟩, rfl, HX.out⟩
end Go.Proofs.YthhgjeeangepaaaGreat
namespace Go.Proofs.YthhgjeeangepaaaGreat
open Go.ChangeShapes Go.WideShapes Go.ChangeAt Go.RowKit
theorem cmpK_nil (b : List Nat) : cmpK [] b = if b.length = 0 then 0 else -1 := by cases b <;> simp [cmpK]
end Go.Proofs.YthhgjeeangepaaaGreat
namespace Go.Proofs.YthhgjeeangepaaaGreat
open Go.RowKit
section
variable {P : Program} {ops : Array Oper} {Q : Exit → Act → World → Prop} {l m : Nat}
theorem op_in {o : Oper} {a : Act} {w : World} {K : Act → World → Prop} (hnd : ∀ c, o.op ≠ .defer c) (h : o.wp P a w K Q) : o.wpIn (Fence.wide.inRound l) m P a w K Q := by
  refine ⟨fun _ _ => trivial, ?_⟩
  rw [show (Fence.wide.inRound l).round = some l from rfl, Oper.semAt_some l a.eval o hnd]
  unfold Oper.wp at h
  generalize (execOp a.eval o).run P w = r at h ⊢
  cases r with
  | ok x w' =>
    cases x with
    | value v => exact h
    | skip => exact h
    | defer d => exact h
    | enter f args => exact ⟨(fun e => (by cases e)), CallsIn.inRound l (callsIn_wide.2 h)⟩
    | row row args =>
      refine ⟨(fun e => (by cases e)), fun c cs _ => ?_⟩
      obtain ⟨v, w2, hr, hs⟩ := h c cs
      exact ⟨v, w2, hr, stepsIn_wide.2 hs⟩
    | _ => exact h.elim
  | halt x w' => cases x <;> first | exact h | exact h.elim
theorem any_in (hnd : ∀ (i : Nat) (o : Oper), ops[i]? = some o → ∀ c, o.op ≠ .defer c) (hQ : ¬ LetsOut Q) : ∀ (n : Nat) (seen : Array Bool) (a : Act) (w : World), wpAny P .any ops Q n seen a w → wpAnyIn (Fence.wide.inRound l) m P .any ops Q n seen a w := by
  intro n
  induction n with
  | zero => intro seen a w h; exact h
  | succ n ih =>
    intro seen a w h
    refine ⟨h.1, fun i hi => ?_⟩
    have h2 := h.2 i hi
    unfold wpOp at h2
    unfold wpOpIn
    cases ho : ops[i]? with
    | none => simp only [ho] at h2 ⊢; exact ih _ _ _ h2
    | some o =>
      simp only [ho] at h2 ⊢
      split
      · rename_i hw
        rw [if_pos hw] at h2
        rcases h2 with h2 | ⟨_, h2⟩
        · exact Oper.wpIn_mono (fun a w h => ih _ a w h) (op_in (hnd i o ho) h2)
        · exact absurd h2 hQ
      · rename_i hw
        rw [if_neg hw] at h2
        exact ⟨fun _ _ => trivial, ih _ _ _ h2⟩
def noDefer (ops : Array Oper) : Bool := ops.all fun o => match o.op with | .defer _ => false | _ => true
theorem noDefer_at (h : noDefer ops = true) (i : Nat) (o : Oper) (ho : ops[i]? = some o) (c : Call) : o.op ≠ .defer c := by
  intro e
  obtain ⟨hi, he⟩ := Array.getElem?_eq_some_iff.1 ho
  have := (Array.all_eq_true.1 h) i hi
  rw [he, e] at this
  cases this
theorem flow_in {a0 : Act} {id : Nat} {w : World} (hm : P.follows .mixedOrders = true) (hnd : noDefer ops = true) (hQ : ∀ a w, ¬ Q .outgrown a w) (φ : List (Value → World → Prop)) (hok : flowOk ops a0.tmps.size = true) (hsel : Region.noSelect ops = true) (hmono : ∀ p ∈ φ, Mono p)
    (hobl : ∀ f, Obls P ops φ w.drew f 0 ops.toList a0)
    (hfin : ∀ (g : Nat → Value) u, Ext w.drew u → (∀ j, j < ops.size → fact φ j (g j) u) → Q .normal (puts g 0 ops.toList a0) u) : (Code.region id ops true).wpIn (Fence.wide.inRound l) m P Q a0 w := by
  refine wpIn_region_any hm (any_in (noDefer_at hnd) (fun ⟨a, w, h⟩ => hQ a w h) _ _ _ _ (flow_any hok hsel hmono hobl hfin _ _ _ _ ⟨Ext.refl _, by simp, rfl, rfl, fun _ _ => rfl, fun j oj hj hs => ?_, fun j oj hj hs => ?_⟩ ?_))
  · have hlt := (Array.getElem?_eq_some_iff.1 hj).1
    simp [Array.getD, hlt] at hs
  · have hlt := (Array.getElem?_eq_some_iff.1 hj).1
    simp [Array.getD, hlt] at hs
  · unfold left
    rw [List.countP_eq_length.2]
    · simp
    · intro i hi
      have hlt := List.mem_range.1 hi
      simp [Array.getD, hlt]
end
end Go.Proofs.YthhgjeeangepaaaGreat
namespace Go.Proofs.YthhgjeeangepaaaGreat
open Go.RowKit Go.Shelf
attribute [local go_sem] Oper.semAt_some
theorem Em.keep {w w' : World} {lo hi : Nat} {e : Ent} {g : Hd} (m : Em w lo hi e g) (hk : ∀ p : Addr, lo ≤ p.block → p.block < hi → w'.cell? p = w.cell? p) : Em w' lo hi e g := ⟨m.k.of fun _ h => h.keep hk, m.v.of fun _ h => h.keep hk, m.bk, m.bv, m.s1, m.s2, m.d1, m.d2⟩
theorem Es.keep {w w' : World} {lo hi : Nat} {A : Option Addr} {L : List (Ent × Hd)} (h : Es w lo hi A L) (hk : ∀ p : Addr, lo ≤ p.block → p.block < hi → w'.cell? p = w.cell? p) : Es w' lo hi A L := ⟨h.outer.keep hk, fun p hp => (h.each p hp).keep hk⟩
theorem einfo : (Tryz.prog.info? 55).map (fun i => (i.zero, i.size, i.bytes)) = some (some (.agg #[.slice none 0 0, .int .i64 0, .int .i64 0, .slice none 0 0]), 4, 64) := by kernel_rfl
theorem esize (w : World) : (sizeOf (Tryz.prog.elem 22)).run Tryz.prog w = .ok 4 w := by
  obtain ⟨i0, hi, _, hz1, _⟩ := info_parts einfo
  have e : Tryz.prog.elem 22 = 55 := by kernel_rfl
  rw [e]
  simp [Go.sizeOf, typeInfo, hi, hz1]
theorem erow_drop (L : List (Ent × Hd)) (k : Nat) (hk : k ≤ L.length) : erow (L.drop k) = (erow L).drop (k * 4) := by
  have h := erow_append (L.take k) (L.drop k)
  rw [List.take_append_drop] at h
  have hl : (erow (L.take k)).length = k * 4 := by rw [erow_length, List.length_take, Nat.min_eq_left hk]
  rw [h, ← hl, List.drop_left]
theorem erow_take (L : List (Ent × Hd)) (k : Nat) (hk : k ≤ L.length) : erow (L.take k) = (erow L).take (k * 4) := by
  have h := erow_append (L.take k) (L.drop k)
  rw [List.take_append_drop] at h
  have hl : (erow (L.take k)).length = k * 4 := by rw [erow_length, List.length_take, Nat.min_eq_left hk]
  rw [h, ← hl, List.take_left]
theorem Es.drop {w : World} {lo hi c : Nat} {A : Option Addr} {L : List (Ent × Hd)} (h : Es w lo hi A L) {k : Nat} (hk : k ≤ L.length) (hc : L.length ≤ c) : Es w lo hi (if c = k then A else A.map (·.add (k * 4))) (L.drop k) := by
  refine ⟨?_, fun p hp => h.each p (List.mem_of_mem_drop hp)⟩
  rw [erow_drop L k hk]
  have h2 := Sl.drop (k := k * 4) (cap := c * 4) h.outer (by rw [erow_length]; omega) (by rw [erow_length]; omega)
  by_cases e : c = k
  · rw [if_pos e]; rw [if_pos (by omega)] at h2; exact h2
  · rw [if_neg e]; rw [if_neg (by omega)] at h2; exact h2
theorem Es.take {w : World} {lo hi : Nat} {A : Option Addr} {L : List (Ent × Hd)} (h : Es w lo hi A L) {k : Nat} (hk : k ≤ L.length) : Es w lo hi A (L.take k) := by
  refine ⟨?_, fun p hp => h.each p (List.mem_of_mem_take hp)⟩
  rw [erow_take L k hk]
  exact Sl.take h.outer _
end Go.Proofs.YthhgjeeangepaaaGreat
namespace Go.Proofs.YthhgjeeangepaaaGreat
open Go.RowKit
end Go.Proofs.YthhgjeeangepaaaGreat
namespace Go.Proofs.YthhgjeeangepaaaGreat
open Go.RowKit Go.Shelf
attribute [local go_sem] Oper.semAt_some
structure Good (e : Ent) : Prop where
  bk : ∀ x ∈ e.key, x < 256
  bv : ∀ x ∈ e.val, x < 256
  s1 : -9223372036854775808 ≤ e.seq
  s2 : e.seq ≤ 9223372036854775807
  d1 : -9223372036854775808 ≤ e.kind
  d2 : e.kind ≤ 9223372036854775807
structure Mine (B : Nat) (p : Ent × Hd) (A : World) : Prop where
  k : Own B p.1.key (.slice p.2.kA p.1.key.length p.2.kc) A
  v : Own B p.1.val (.slice p.2.vA p.1.val.length p.2.vc) A
  good : Good p.1
theorem Mine.em {B : Nat} {p : Ent × Hd} {A : World} (h : Mine B p A) : Em A 0 A.heap.size p.1 p.2 := ⟨h.k.bs, h.v.bs, h.good.bk, h.good.bv, h.good.s1, h.good.s2, h.good.d1, h.good.d2⟩
theorem Mine.below {B : Nat} {p : Ent × Hd} {A A' : World} (h : Mine B p A) (hx : Ext A A') : Mine B p A' := ⟨h.k.below hx, h.v.below hx, h.good⟩
theorem Mine.base {B B' : Nat} {p : Ent × Hd} {A : World} (h : Mine B p A) (hB : B' ≤ B) : Mine B' p A := ⟨h.k.base hB, h.v.base hB, h.good⟩
theorem Mine.chg {B : Nat} {p : Ent × Hd} {A A' : World} {S : Nat → Prop} (h : Mine B p A) (hc : Chg S A A') (hS : ∀ k, B ≤ k → ¬ S k) : Mine B p A' := ⟨row_chg h.k hc hS, row_chg h.v hc hS, h.good⟩
theorem rowN_kept {w w' : World} {base s n : Nat} {e : TypeId} {v : Value} {xs : List Value} (h : w.ownsRow base e s v n xs) (hk : ∀ g, v.ownBlock = some g → w'.heap[g]? = w.heap[g]?) : w'.ownsRow base e s v n xs := by
  obtain ⟨h1, h2⟩ := h
  refine ⟨h1, ?_⟩
  rcases h2 with h2 | ⟨g, cap, cur, hv, hg, hh, r⟩
  · exact Or.inl h2
  · exact Or.inr ⟨g, cap, cur, hv, hg, (hk g (by rw [hv]; rfl)).trans hh, r⟩
theorem rowN_lt {w : World} {base s n : Nat} {e : TypeId} {v : Value} {xs : List Value} (h : w.ownsRow base e s v n xs) : ∀ g, v.ownBlock = some g → base ≤ g ∧ g < w.heap.size ∧ ∃ cur, w.heap[g]? = some (.cells cur e (0, 0)) := by
  intro g hg
  rcases h.2 with ⟨rfl, _⟩ | ⟨g', cap, cur, hv, hb, hh, r⟩
  · cases hg
  · rw [hv] at hg
    injection hg with hg
    subst hg
    exact ⟨hb, (Array.getElem?_eq_some_iff.1 hh).1, cur, hh⟩
theorem rowN_base {w : World} {b b' s n : Nat} {e : TypeId} {v : Value} {xs : List Value} (h : w.ownsRow b e s v n xs) (hb : b' ≤ b) : w.ownsRow b' e s v n xs := by
  obtain ⟨h1, h2⟩ := h
  refine ⟨h1, ?_⟩
  rcases h2 with h2 | ⟨g, cap, cur, hv, hg, hh, r⟩
  · exact Or.inl h2
  · exact Or.inr ⟨g, cap, cur, hv, Nat.le_trans hb hg, hh, r⟩
theorem rowN_slice {w : World} {base s n : Nat} {e : TypeId} {v : Value} {xs : List Value} (h : w.ownsRow base e s v n xs) : ∃ A c, v = .slice A n c := by
  rcases h.2 with ⟨rfl, rfl⟩ | ⟨g', cap, cur, hv, _⟩
  · exact ⟨none, 0, rfl⟩
  · exact ⟨_, _, hv⟩
theorem rows_apart {w : World} {B B' s s' n n' : Nat} {e e' : TypeId} {v v' : Value} {xs xs' : List Value} (h : w.ownsRow B e s v n xs) (h' : w.ownsRow B' e' s' v' n' xs') (hne : e ≠ e') {g : Nat} (hg : v.ownBlock = some g) : v'.ownBlock ≠ some g := by
  intro hg'
  obtain ⟨_, _, c, hc⟩ := rowN_lt h g hg
  obtain ⟨_, _, c', hc'⟩ := rowN_lt h' g hg'
  rw [hc] at hc'
  injection hc' with hc'
  injection hc' with _ h2 _
  exact hne h2
end Go.Proofs.YthhgjeeangepaaaGreat
namespace Go.Proofs.YthhgjeeangepaaaGreat
open Go.RowKit Go.Shelf
attribute [local go_sem] Oper.semAt_some
end Go.Proofs.YthhgjeeangepaaaGreat
namespace Go.Proofs.YthhgjeeangepaaaGreat
open Go.RowKit Go.Shelf Go.ChangeShapes Go.WideShapes Go.ChangeAt
set_option maxRecDepth 100000 in
theorem cv_any {w : World} {lo hi : Nat} {A : Option Addr} {c : Nat} {l : List Nat} (h : Bs w lo hi (.slice A l.length c) l) : (convert 26 9 (.slice A l.length c)).run Tryz.prog w = .ok (.string (tx l)) w := by
  obtain ⟨A', c', he, _, _, _, hy⟩ := h
  injection he with e1 _ e3
  subst e1 e3
  exact run_text (P := Tryz.prog) w 26 5 Tryz.underlying26 Tryz.underlying5 hy l.length c rfl 9 Tryz.underlying9
attribute [local go_sem] Oper.semAt_some
set_option maxHeartbeats 2000000 in
theorem rsame_any {w : World} {lo hi lo2 hi2 : Nat} {a b : Ent} {g h : Hd} (hu : Em w lo hi a g) (hv : Em w lo2 hi2 b h) (h1 : hi ≤ w.heap.size) (h2 : hi2 ≤ w.heap.size) :
    Calls Tryz.prog 29 #[a.at_ g, b.at_ h] w fun e w' => ∃ z : Bool, (z = true ↔ a = b) ∧ e = .returned (.bool z) ∧ Ext w w' := by
  obtain ⟨w1, hw1⟩ : ∃ w1, w1 = (w.alloc (.cells #[.slice g.kA a.key.length g.kc, .int .i64 a.seq, .int .i64 a.kind, .slice g.vA a.val.length g.vc] 55)).alloc (.cells #[.slice h.kA b.key.length h.kc, .int .i64 b.seq, .int .i64 b.kind, .slice h.vA b.val.length h.vc] 55) := ⟨_, rfl⟩
  have HX : Hid (Ext w w1) := by rw [hw1]; exact Ext.trans (ext_alloc _ _) (ext_alloc _ _)
  have cvn : ∀ (X : Option Addr) (c : Nat) (l : List Nat) (lo hi : Nat), hi ≤ w.heap.size → Bs w lo hi (.slice X l.length c) l → (convert 26 9 (.slice X l.length c)).run Tryz.prog w1 = .ok (.string (tx l)) w1 := fun X c l lo hi hh hb => cv_any (hb.below HX.out hh)
  have v1 := cvn _ _ _ _ _ h1 hu.k
  have v2 := cvn _ _ _ _ _ h2 hv.k
  have v3 := cvn _ _ _ _ _ h1 hu.v
  have v4 := cvn _ _ _ _ _ h2 hv.v
  have t1 := tx_same hu.bk hv.bk
  have t2 := tx_same hu.bv hv.bv
  rw [hw1] at v1 v2 v3 v4
  clear cvn hu hv h1 h2
  unfold Ent.at_
  rw [hw1] at HX
  clear hw1
  by_cases hk : a.key = b.key
  · rw [decide_eq_true hk] at t1
    by_cases hs : a.seq = b.seq
    · have d1 : (a.seq == b.seq) = true := by simp [hs]
      by_cases hd : a.kind = b.kind
      · have d2 : (a.kind == b.kind) = true := by simp [hd]
        obtain ⟨z, hz⟩ : ∃ z, z = decide (a.val = b.val) := ⟨_, rfl⟩
        rw [← hz] at t2
        have HZ : Hid (z = true ↔ a = b) := by rw [hz]; unfold Hid; rw [decide_eq_true_eq]; exact ⟨fun h => Ent.ext hk hs hd h, fun h => by rw [h]⟩
        clear hk hs hd hz
        go_enter Tryz.func29, Tryz.ntmps29
        go_wp2_with fail
        go_ret
        exact ⟨z, HZ.out, by cases z <;> rfl, HX.out⟩
      · have d2 : (a.kind == b.kind) = false := by simp [hd]
        have HZ : Hid (false = true ↔ a = b) := ⟨fun h => (by cases h), fun h => absurd (by rw [h]) hd⟩
        clear hk hs hd t2
        go_enter Tryz.func29, Tryz.ntmps29
        go_wp2_with fail
        go_ret
        exact ⟨false, HZ.out, rfl, HX.out⟩
    · have d1 : (a.seq == b.seq) = false := by simp [hs]
      have HZ : Hid (false = true ↔ a = b) := ⟨fun h => (by cases h), fun h => absurd (by rw [h]) hs⟩
      clear hk hs t2
      go_enter Tryz.func29, Tryz.ntmps29
      go_wp2_with fail
      go_ret
      exact ⟨false, HZ.out, rfl, HX.out⟩
  · rw [decide_eq_false hk] at t1
    have HZ : Hid (false = true ↔ a = b) := ⟨fun h => (by cases h), fun h => absurd (by rw [h]) hk⟩
    clear hk t2
    go_enter Tryz.func29, Tryz.ntmps29
    go_wp2_with fail
    go_ret
    exact ⟨false, HZ.out, rfl, HX.out⟩
theorem results_cell_bool {fn : Func} {p : Tmp} (h : fn.results = #[.cell p 4]) (tmps : Array Value) (w : World) (g : Nat) (z : Bool) (hp : tmps.getD p undef = .pointer (some ⟨g, 0, none⟩)) (hc : w.cell? ⟨g, 0, none⟩ = some (.bool z)) :
    (results fn tmps).run Tryz.prog w = .ok (.bool z) w := by
  simp only [results, h]
  have hp' : tmps[p]?.getD undef = .pointer (some ⟨g, 0, none⟩) := by simpa using hp
  simp [Sem.run_bind, hp', go_sem, hc]
end Go.Proofs.YthhgjeeangepaaaGreat
namespace Go.Proofs.YthhgjeeangepaaaGreat
open Go.ChangeShapes Go.WideShapes Go.ChangeAt Go.RowKit
theorem all_next {α : Type} {f : α → Bool} {L : List α} {i : Nat} {p : α} (h : (L.take i).all f = true) (hp : L[i]? = some p) (hf : f p = true) : (L.take (i + 1)).all f = true := by
  rw [List.take_succ_eq_append_getElem (List.getElem?_eq_some_iff.1 hp).1, List.all_append, h]
  simp [(List.getElem?_eq_some_iff.1 hp).2, hf]
theorem all_not {α : Type} {f : α → Bool} {L : List α} {i : Nat} {p : α} (hp : L[i]? = some p) (hf : f p = false) : L.all f = false := by
  rw [Bool.eq_false_iff]
  intro h
  rw [List.all_eq_true] at h
  rw [h p (List.mem_of_getElem? hp)] at hf
  cases hf
set_option maxRecDepth 100000 in
set_option maxHeartbeats 4000000 in
theorem allmay_any {w : World} {lo hi : Nat} {A : Option Addr} {c : Nat} {L : List (Ent × Hd)} (h : Es w lo hi A L) (hhi : hi ≤ w.heap.size) (hlen : L.length ≤ 1000000000000) :
    Calls Tryz.prog 115 #[.slice A L.length c] w fun x w' => x = .returned (.bool (L.all fun p => p.1.may)) ∧ Ext w w' := by
  have HE := Lib.hid h
  have HHI := Lib.hid hhi
  have HL := Lib.hid hlen
  clear h hhi hlen
  go_enter Tryz.func115, Tryz.ntmps115
  go_wp2_with fail
  go_loopw [7] (fun a wr => ∃ i : Nat, a = .int .i64 (i : Int) ∧ i ≤ L.length ∧ Hid ((L.take i).all (fun p => p.1.may) = true) ∧ Hid (Ext w wr)) (fun a _ => L.length - (intOf a).toNat)
  case atStart => exact ⟨0, rfl, by omega, by simp [Hid], Lib.hid (Ext.refl _)⟩
  case round =>
    obtain ⟨i, rfl, hm, HR, HX⟩ := hrel
    by_cases hlt : i < L.length
    · have d : decide ((i : Int) < (L.length : Int)) = true := decide_eq_true (by omega)
      have dn : decide (i < L.length) = true := decide_eq_true hlt
      obtain ⟨b, o, hA⟩ := HE.out.base (by omega)
      subst hA
      obtain ⟨p, hp⟩ : ∃ p, L[i]? = some p := ⟨_, List.getElem?_eq_getElem hlt⟩
      obtain ⟨c0, c1, c2, c3⟩ := (HE.out.below HX.out HHI.out).get hp
      have HP := Lib.hid hp
      have n1 : (0 : Int) ≤ (i : Int) := by omega
      have n2 : (i : Int) < (L.length : Int) := by omega
      have hw2 : wrap64 ((i : Int) + 1) = ((i + 1 : Nat) : Int) := by have := HL.out; unfold wrap64; omega
      clear hp
      go_upto_region 4 with (fail)
      obtain ⟨w4, hw4⟩ : ∃ w4, w4 = wr.alloc (.cells #[.slice p.2.kA p.1.key.length p.2.kc, .int .i64 p.1.seq, .int .i64 p.1.kind, .slice p.2.vA p.1.val.length p.2.vc] 55) := ⟨_, rfl⟩
      rw [← hw4]
      have HX4 : Hid (Ext wr w4) := by rw [hw4]; exact ext_alloc _ _
      have HB4 : Hid (w4.heap[wr.heap.size]? = some (.cells #[.slice p.2.kA p.1.key.length p.2.kc, .int .i64 p.1.seq, .int .i64 p.1.kind, .slice p.2.vA p.1.val.length p.2.vc] 55 (0, 0))) := by rw [hw4]; exact heap_at _ _ rfl
      clear hw4 c0 c1 c2 c3
      have c0 := cell_of HB4.out (k := 0) rfl
      have c1 := cell_of HB4.out (k := 1) rfl
      have c2 := cell_of HB4.out (k := 2) rfl
      have c3 := cell_of HB4.out (k := 3) rfl
      go_wp2_with fail
      refine (may_any _ _ _ _ _ _ _ _ _).mono ?_
      rintro x w9 ⟨rfl, hx9⟩
      have HX9 : Hid (Ext w w9) := Ext.trans HX.out (Ext.trans HX4.out hx9)
      clear hx9 c0 c1 c2 c3
      obtain ⟨z, hz⟩ : ∃ z, z = mayN p.1.key.length p.1.seq p.1.kind p.1.val.length := ⟨_, rfl⟩
      rw [← hz]
      have HZ := Lib.hid hz
      clear hz
      cases z with
      | false =>
        go_wp2_with fail
        go_ret
        exact ⟨by rw [all_not (f := fun p : Ent × Hd => p.1.may) HP.out HZ.out.symm]; rfl, HX9.out⟩
      | true =>
        go_wp2_with fail
        go_roundw
        case rel => exact ⟨i + 1, by rw [hw2], by omega, Lib.hid (all_next (f := fun p : Ent × Hd => p.1.may) HR.out HP.out HZ.out.symm), HX9⟩
        case measure => rw [hw2]; simp [intOf]; omega
    · have d : decide ((i : Int) < (L.length : Int)) = false := decide_eq_false (by omega)
      have dn : decide (i < L.length) = false := decide_eq_false hlt
      have HM : Hid (L.all (fun p => p.1.may) = true) := by have h := HR.out; rwa [List.take_of_length_le (by omega)] at h
      clear hlt hm
      go_wp2_with fail
      go_ret
      exact ⟨by rw [HM.out]; rfl, HX.out⟩
def Rise (l : List Ent) : Prop := ∀ j a b, l[j]? = some a → l[j + 1]? = some b → cmpE a b < 0
theorem RiseAt.all {l : List Ent} {n : Nat} (h : RiseAt l n) : n = l.length ↔ Rise l := by
  obtain ⟨h1, h2, h3⟩ := h
  refine ⟨fun e j a b ha hb => h2 j a b (by have := (List.getElem?_eq_some_iff.1 hb).1; omega) ha hb, fun hr => ?_⟩
  rcases Nat.lt_or_ge n l.length with h | h
  · obtain ⟨m, a, b, e, ha, hb, hc⟩ := h3 h
    have := hr m a b ha hb
    omega
  · omega
set_option maxRecDepth 100000 in
set_option maxHeartbeats 4000000 in
theorem rises_any {w : World} {lo hi : Nat} {A : Option Addr} {c : Nat} {L : List (Ent × Hd)} (h : Es w lo hi A L) (hhi : hi ≤ w.heap.size) (hlen : L.length ≤ 1000000000000) :
    Calls Tryz.prog 75 #[.slice A L.length c] w fun x w' => ∃ z : Bool, (z = true ↔ Rise (L.map Prod.fst) ∧ (L.all fun p => p.1.may) = true) ∧ x = .returned (.bool z) ∧ Ext w w' := by
  have HR := Lib.hid (rising_any (c := c) h hhi hlen)
  have HA : Hid (∀ u, Ext w u → Calls Tryz.prog 115 #[.slice A L.length c] u fun x w' => x = .returned (.bool (L.all fun p => p.1.may)) ∧ Ext u w') := fun u hu => allmay_any (h.below hu hhi) (Nat.le_trans hhi hu.size) hlen
  clear h hhi hlen
  obtain ⟨m, hm⟩ : ∃ m, m = L.all fun p => p.1.may := ⟨_, rfl⟩
  rw [← hm] at HA ⊢
  clear hm
  go_enter Tryz.func75, Tryz.ntmps75
  go_wp2_with fail
  refine HR.out.mono ?_
  rintro x w2 ⟨n, hr, rfl, hx2⟩
  have hn := hr.all
  rw [List.length_map] at hn
  have HX2 := Lib.hid hx2
  have HN := Lib.hid hn
  clear hr hx2 hn
  by_cases h0 : n = L.length
  · have e1 : ((n : Int) == (L.length : Int)) = true := by rw [beq_iff_eq]; omega
    have e1n : (n == L.length) = true := by simpa using h0
    have HH := Lib.hid h0
    clear h0
    go_wp2_with fail
    refine (HA.out w2 HX2.out).mono ?_
    rintro x w3 ⟨rfl, hx3⟩
    have HX3 : Hid (Ext w w3) := Ext.trans HX2.out hx3
    clear hx3
    go_wp2_with fail
    go_ret
    exact ⟨m, ⟨fun h => ⟨HN.out.1 HH.out, h⟩, fun h => h.2⟩, rfl, HX3.out⟩
  · have e1 : ((n : Int) == (L.length : Int)) = false := by rw [beq_eq_false_iff_ne]; omega
    have e1n : (n == L.length) = false := by simpa using h0
    have HH := Lib.hid h0
    clear h0
    go_wp2_with fail
    go_ret
    exact ⟨false, ⟨fun h => (by cases h), fun h => absurd (HN.out.2 h.1) HH.out⟩, rfl, HX2.out⟩
end Go.Proofs.YthhgjeeangepaaaGreat
namespace Go.Proofs.YthhgjeeangepaaaGreat
def be4 (n : Nat) : List Nat := [n / 16777216 % 256, n / 65536 % 256, n / 256 % 256, n % 256]
def num4 (l : List Nat) : Nat := l.foldl (fun n c => n * 256 + c) 0
theorem be4_length (n : Nat) : (be4 n).length = 4 := rfl
theorem be4_lt (n : Nat) : ∀ c ∈ be4 n, c < 256 := by
  intro c hc
  simp only [be4, List.mem_cons, List.not_mem_nil, or_false] at hc
  rcases hc with rfl | rfl | rfl | rfl <;> omega
theorem num4_be4 {n : Nat} (h : n < 4294967296) : num4 (be4 n) = n := by
  simp only [num4, be4, List.foldl]; omega
theorem list4 {l : List Nat} (h : l.length = 4) : ∃ a b c d, l = [a, b, c, d] := by
  match l, h with
  | [a, b, c, d], _ => exact ⟨a, b, c, d, rfl⟩
theorem num4_lt {l : List Nat} (h : l.length = 4) (hb : ∀ c ∈ l, c < 256) : num4 l < 4294967296 := by
  obtain ⟨a, b, c, d, rfl⟩ := list4 h
  have ha := hb a (by simp)
  have hb' := hb b (by simp)
  have hc := hb c (by simp)
  have hd := hb d (by simp)
  simp only [num4, List.foldl]; omega
def shr : List Nat → List Nat → Nat
  | a :: l, b :: r => if a = b then shr l r + 1 else 0
  | _, _ => 0
theorem shr_nil (b : List Nat) : shr [] b = 0 := by cases b <;> rfl
theorem shr_le_l : ∀ (a b : List Nat), shr a b ≤ a.length
  | [], b => by rw [shr_nil]; exact Nat.zero_le _
  | _ :: _, [] => Nat.zero_le _
  | x :: l, y :: r => by
    unfold shr
    split
    · have := shr_le_l l r; simp only [List.length_cons]; omega
    · omega
theorem shr_le_r : ∀ (a b : List Nat), shr a b ≤ b.length
  | [], b => by rw [shr_nil]; exact Nat.zero_le _
  | _ :: _, [] => Nat.zero_le _
  | x :: l, y :: r => by
    unfold shr
    split
    · have := shr_le_r l r; simp only [List.length_cons]; omega
    · omega
theorem shr_take : ∀ (a b : List Nat), a.take (shr a b) = b.take (shr a b)
  | [], b => by rw [shr_nil]; rfl
  | _ :: _, [] => rfl
  | x :: l, y :: r => by
    unfold shr
    split
    · rename_i h
      rw [List.take_succ_cons, List.take_succ_cons, h, shr_take l r]
    · rfl
theorem shr_is : ∀ {a b : List Nat} {n : Nat}, n ≤ a.length → n ≤ b.length → a.take n = b.take n → (∀ x y, a[n]? = some x → b[n]? = some y → x ≠ y) → shr a b = n
  | [], b, n, h1, _, _, _ => by rw [shr_nil]; simp at h1; omega
  | _ :: _, [], n, _, h2, _, _ => by simp at h2; subst h2; rfl
  | x :: l, y :: r, n, h1, h2, h3, h4 => by
    unfold shr
    cases n with
    | zero =>
      have := h4 x y rfl rfl
      rw [if_neg this]
    | succ n =>
      rw [List.take_succ_cons, List.take_succ_cons] at h3
      injection h3 with h3 h5
      rw [if_pos h3, shr_is (n := n) (by simpa using h1) (by simpa using h2) h5 (fun u v hu hv => h4 u v (by simpa using hu) (by simpa using hv))]
def kform (ah : List Nat) (e : Ent) : List Nat :=
  form (shr ah e.key) ++ (bytesForm (e.key.drop (shr ah e.key)) ++ (form e.seq.toNat ++ (form e.kind.toNat ++ (if e.kind = 1 then bytesForm e.val else []))))
theorem kform_pos (ah : List Nat) (e : Ent) : 0 < (kform ah e).length := by
  have := form_pos (shr ah e.key)
  unfold kform
  rw [List.length_append]; omega
theorem kform_len {ah : List Nat} {e : Ent} (h : e.may = true) : (kform ah e).length ≤ 65700 := by
  obtain ⟨u1, u2, u3, u4⟩ := Ent.may_u64 h
  obtain ⟨h1, h2, h3, h4, h5⟩ := mayN_iff.1 h
  have hs := shr_le_r ah e.key
  have a0 := form_len64 (n := shr ah e.key) ⟨by omega⟩
  have hd : (e.key.drop (shr ah e.key)).length ≤ 32 := by rw [List.length_drop]; omega
  have a1 := (bytesForm_len (l := e.key.drop (shr ah e.key)) ⟨by omega⟩).1
  have a2 := form_len64 u2
  have a3 := form_len64 u3
  have a4 := (bytesForm_len u4).1
  unfold kform
  split <;> simp only [List.length_append, List.length_nil] <;> rcases h5 with ⟨h5, h6⟩ | ⟨h5, h6⟩ <;> omega
theorem kform_lt {ah : List Nat} {e : Ent} (hk : ∀ x ∈ e.key, x < 256) (hv : ∀ x ∈ e.val, x < 256) : ∀ x ∈ kform ah e, x < 256 := by
  intro x hx
  unfold kform bytesForm at hx
  simp only [List.mem_append] at hx
  rcases hx with hx | (hx | hx) | hx | hx | hx
  · exact form_bytes _ x hx
  · exact form_bytes _ x hx
  · exact hk x (List.mem_of_mem_drop hx)
  · exact form_bytes _ x hx
  · exact form_bytes _ x hx
  · split at hx
    · rcases List.mem_append.1 hx with hx | hx
      · exact form_bytes _ x hx
      · exact hv x hx
    · cases hx
def ahOf (L : List Ent) (i : Nat) : List Nat := if i % 4 = 0 then [] else ((L[i - 1]?).map Ent.key).getD []
def pieceOf (L : List Ent) (i : Nat) : List Nat := ((L[i]?).map (kform (ahOf L i))).getD []
def upto (L : List Ent) (k : Nat) : List Nat := (List.range k).flatMap (pieceOf L)
def fromK (L : List Ent) (k : Nat) : List Nat := (List.range (L.length - k)).flatMap fun i => pieceOf L (k + i)
def ats (L : List Ent) (k : Nat) : List Nat := ((List.range k).filter fun i => i % 4 = 0).map fun i => (upto L i).length
def wr (L : List Ent) : List Nat := upto L L.length ++ ((ats L L.length).flatMap be4 ++ be4 (ats L L.length).length)
def MayB (L : List Ent) : Prop := 1 ≤ L.length ∧ L.length ≤ 1024 ∧ Rise L ∧ ∀ e ∈ L, e.may = true
theorem upto_zero (L : List Ent) : upto L 0 = [] := rfl
theorem upto_succ (L : List Ent) (k : Nat) : upto L (k + 1) = upto L k ++ pieceOf L k := by
  unfold upto
  rw [List.range_succ, List.flatMap_append]; simp
theorem piece_at {L : List Ent} {k : Nat} {e : Ent} (h : L[k]? = some e) : pieceOf L k = kform (ahOf L k) e := by unfold pieceOf; rw [h]; rfl
theorem fromK_at {L : List Ent} {k : Nat} (h : k < L.length) : fromK L k = pieceOf L k ++ fromK L (k + 1) := by
  unfold fromK
  have e1 : L.length - k = (L.length - (k + 1)) + 1 := by omega
  rw [e1, List.range_succ_eq_map, List.flatMap_cons, List.flatMap_map]
  congr 1
  refine congrArg (fun f => List.flatMap f _) ?_
  funext i
  show pieceOf L (k + (i + 1)) = _
  congr 1; omega
theorem fromK_end (L : List Ent) {k : Nat} (h : L.length ≤ k) : fromK L k = [] := by
  unfold fromK
  rw [show L.length - k = 0 by omega]; rfl
theorem fromK_zero (L : List Ent) : fromK L 0 = upto L L.length := by
  unfold fromK upto
  rw [Nat.sub_zero]
  refine congrArg (fun f => List.flatMap f _) ?_
  funext i
  rw [Nat.zero_add]
theorem ats_zero (L : List Ent) : ats L 0 = [] := rfl
theorem ats_hit (L : List Ent) {k : Nat} (h : k % 4 = 0) : ats L (k + 1) = ats L k ++ [(upto L k).length] := by
  unfold ats
  rw [List.range_succ, List.filter_append, List.map_append]
  simp [h]
theorem ats_miss (L : List Ent) {k : Nat} (h : k % 4 ≠ 0) : ats L (k + 1) = ats L k := by
  unfold ats
  rw [List.range_succ, List.filter_append, List.map_append]
  simp [h]
theorem ats_len (L : List Ent) (k : Nat) : (ats L k).length = (k + 3) / 4 := by
  induction k with
  | zero => rfl
  | succ k ih =>
    by_cases h : k % 4 = 0
    · rw [ats_hit L h, List.length_append, ih, List.length_singleton]; omega
    · rw [ats_miss L h, ih]; omega
theorem ats_get (L : List Ent) (k j : Nat) (h : 4 * j < k) : (ats L k)[j]? = some (upto L (4 * j)).length := by
  induction k with
  | zero => omega
  | succ k ih =>
    have hl := ats_len L k
    by_cases hk : k % 4 = 0
    · rw [ats_hit L hk]
      by_cases h1 : 4 * j < k
      · rw [List.getElem?_append_left (by omega)]; exact ih h1
      · have : k = 4 * j := by omega
        subst this
        rw [List.getElem?_append_right (by omega), hl, show j - (4 * j + 3) / 4 = 0 by omega]; rfl
    · rw [ats_miss L hk]; exact ih (by omega)
theorem upto_le {L : List Ent} (hm : ∀ e ∈ L, e.may = true) (k : Nat) : (upto L k).length ≤ 65700 * k := by
  induction k with
  | zero => simp [upto_zero]
  | succ k ih =>
    rw [upto_succ, List.length_append]
    have : (pieceOf L k).length ≤ 65700 := by
      cases h : L[k]? with
      | none => unfold pieceOf; rw [h]; simp
      | some e => rw [piece_at h]; exact kform_len (hm e (List.mem_of_getElem? h))
    omega
theorem ats_lt {L : List Ent} (hm : ∀ e ∈ L, e.may = true) (hl : L.length ≤ 1024) : ∀ x ∈ ats L L.length, x < 4294967296 := by
  intro x hx
  unfold ats at hx
  simp only [List.mem_map, List.mem_filter, List.mem_range] at hx
  obtain ⟨i, ⟨hi, _⟩, rfl⟩ := hx
  have := upto_le hm i
  omega
theorem flat4_len (l : List Nat) : (l.flatMap be4).length = 4 * l.length := by
  induction l with
  | nil => rfl
  | cons a l ih => rw [List.flatMap_cons, List.length_append, ih, be4_length, List.length_cons]; omega
theorem wr_len (L : List Ent) : (wr L).length = (upto L L.length).length + 4 * (ats L L.length).length + 4 := by
  unfold wr
  rw [List.length_append, List.length_append, flat4_len, be4_length]; omega
theorem upto_lt {L : List Ent} (hb : ∀ e ∈ L, (∀ x ∈ e.key, x < 256) ∧ ∀ x ∈ e.val, x < 256) (k : Nat) : ∀ x ∈ upto L k, x < 256 := by
  induction k with
  | zero => intro x hx; cases hx
  | succ k ih =>
    intro x hx
    rw [upto_succ] at hx
    rcases List.mem_append.1 hx with hx | hx
    · exact ih x hx
    · cases h : L[k]? with
      | none => unfold pieceOf at hx; rw [h] at hx; cases hx
      | some e => rw [piece_at h] at hx; exact kform_lt (hb e (List.mem_of_getElem? h)).1 (hb e (List.mem_of_getElem? h)).2 x hx
def Stands (ah l : List Nat) (e : Ent) (rest : List Nat) : Prop :=
  e.may = true ∧ ∃ n, n ≤ ah.length ∧ n ≤ e.key.length ∧ ah.take n = e.key.take n ∧
    l = form n ++ (bytesForm (e.key.drop n) ++ (form e.seq.toNat ++ (form e.kind.toNat ++ ((if e.kind = 1 then bytesForm e.val else []) ++ rest))))
theorem stands_kform {ah : List Nat} {e : Ent} (h : e.may = true) (rest : List Nat) : Stands ah (kform ah e ++ rest) e rest := by
  refine ⟨h, shr ah e.key, shr_le_l _ _, shr_le_r _ _, shr_take _ _, ?_⟩
  unfold kform
  simp only [List.append_assoc]
def BodyIs (L : List Ent) (bd : List Nat) : Prop := MayB L ∧ upto L L.length = bd
structure Ahead (bd : List Nat) (k : Nat) (ah l : List Nat) : Prop where
  is : ∀ L, BodyIs L bd → k ≤ L.length ∧ l = fromK L k ∧ (0 < k → ∃ p, L[k - 1]? = some p ∧ ah = p.key) ∧ (k = 0 → ah = [])
theorem Ahead.start (bd : List Nat) : Ahead bd 0 [] bd := ⟨fun L h => ⟨Nat.zero_le _, by rw [fromK_zero]; exact h.2.symm, fun h => absurd h (by omega), fun _ => rfl⟩⟩
theorem Ahead.stands {bd : List Nat} {k : Nat} {ah l : List Nat} (h : Ahead bd k ah l) {L : List Ent} (hL : BodyIs L bd) (hl : l ≠ []) : ∃ e, L[k]? = some e ∧ Stands ah l e (fromK L (k + 1)) := by
  obtain ⟨h1, h2, h3, h4⟩ := h.is L hL
  have hk : k < L.length := by
    rcases Nat.lt_or_ge k L.length with h | h
    · exact h
    · exact absurd (h2.trans (fromK_end L h)) hl
  refine ⟨L[k], List.getElem?_eq_getElem hk, ?_⟩
  rw [h2, fromK_at hk, piece_at (List.getElem?_eq_getElem hk)]
  have hm : L[k].may = true := hL.1.2.2.2 _ (List.getElem_mem hk)
  by_cases h0 : k % 4 = 0
  · unfold ahOf
    rw [if_pos h0]
    refine ⟨hm, 0, Nat.zero_le _, Nat.zero_le _, rfl, ?_⟩
    unfold kform
    rw [shr_nil]
    simp only [List.append_assoc]
  · have hk0 : 0 < k := by omega
    obtain ⟨p, hp, ha⟩ := h3 hk0
    unfold ahOf
    rw [if_neg h0, hp, ha]
    exact stands_kform hm _
theorem Ahead.ends {bd : List Nat} {k : Nat} {ah : List Nat} (h : Ahead bd k ah []) {L : List Ent} (hL : BodyIs L bd) : L.length = k := by
  obtain ⟨h1, h2, h3, h4⟩ := h.is L hL
  rcases Nat.lt_or_ge k L.length with hk | hk
  · rw [fromK_at hk, piece_at (List.getElem?_eq_getElem hk)] at h2
    have h5 := congrArg List.length h2
    rw [List.length_append, List.length_nil] at h5
    have := kform_pos (ahOf L k) L[k]
    omega
  · omega
theorem Ahead.next {bd : List Nat} {k : Nat} {ah l rest : List Nat} {e : Ent} (h : Ahead bd k ah l) (hl : l ≠ []) (hn : ∀ e' rest', Stands ah l e' rest' → e' = e ∧ rest' = rest) :
    Ahead bd (k + 1) e.key rest ∧ ∀ L, BodyIs L bd → L[k]? = some e := by
  have hh : ∀ L, BodyIs L bd → L[k]? = some e ∧ rest = fromK L (k + 1) := fun L hL => by
    obtain ⟨e', he', hs⟩ := h.stands hL hl
    obtain ⟨rfl, e2⟩ := hn _ _ hs
    exact ⟨he', e2.symm⟩
  refine ⟨⟨fun L hL => ⟨?_, (hh L hL).2, fun _ => ⟨e, by simpa using (hh L hL).1, rfl⟩, fun h => absurd h (by omega)⟩⟩, fun L hL => (hh L hL).1⟩
  have := (List.getElem?_eq_some_iff.1 (hh L hL).1).1
  omega
theorem Stands.unique {ah l : List Nat} {e e' : Ent} {rest rest' : List Nat} (h : Stands ah l e rest) (h' : Stands ah l e' rest') : e = e' ∧ rest = rest' := by
  obtain ⟨hm, n, a1, a2, a3, a4⟩ := h
  obtain ⟨hm', n', b1, b2, b3, b4⟩ := h'
  obtain ⟨u1, u2, u3, u4⟩ := Ent.may_u64 hm
  obtain ⟨v1, v2, v3, v4⟩ := Ent.may_u64 hm'
  have hh := a4.symm.trans b4
  have un : U64 n := ⟨Nat.lt_of_le_of_lt a2 u1.lt⟩
  have un' : U64 n' := ⟨Nat.lt_of_le_of_lt b2 v1.lt⟩
  obtain ⟨rfl, hh⟩ := form_cut un un' hh
  have ud : U64 (e.key.drop n).length := ⟨by rw [List.length_drop]; have := u1.lt; omega⟩
  have ud' : U64 (e'.key.drop n).length := ⟨by rw [List.length_drop]; have := v1.lt; omega⟩
  obtain ⟨e1, hh⟩ := bytesForm_cut ud ud' hh
  obtain ⟨e2, hh⟩ := form_cut u2 v2 hh
  obtain ⟨e3, hh⟩ := form_cut u3 v3 hh
  obtain ⟨c1, c2, c3, c4, c5⟩ := mayN_iff.1 hm
  obtain ⟨d1, d2, d3, d4, d5⟩ := mayN_iff.1 hm'
  have k0 : e.kind = e'.kind := by rcases c5 with ⟨a, _⟩ | ⟨a, _⟩ <;> rcases d5 with ⟨b, _⟩ | ⟨b, _⟩ <;> omega
  have s0 : e.seq = e'.seq := by omega
  have key0 : e.key = e'.key := by
    rw [← List.take_append_drop n e.key, ← List.take_append_drop n e'.key, e1, ← a3, ← b3]
  rcases c5 with ⟨a, _⟩ | ⟨a, an⟩
  · rw [if_pos a, if_pos (k0.symm.trans a)] at hh
    obtain ⟨e4, e5⟩ := bytesForm_cut u4 v4 hh
    refine ⟨?_, e5⟩
    cases e; cases e'; simp_all
  · have hk2 : ¬ e.kind = 1 := by omega
    have hk2' : ¬ e'.kind = 1 := by omega
    rw [if_neg hk2, if_neg hk2'] at hh
    have v0 : e.val = e'.val := by
      rcases d5 with ⟨b, _⟩ | ⟨b, bn⟩
      · omega
      · rw [List.eq_nil_of_length_eq_zero an, List.eq_nil_of_length_eq_zero bn]
    refine ⟨?_, by simpa using hh⟩
    cases e; cases e'; simp_all
theorem body_unique_at {bd : List Nat} {L M : List Ent} (h : BodyIs L bd) (k : BodyIs M bd) : ∀ n, n ≤ L.length → n ≤ M.length ∧ L.take n = M.take n ∧ fromK L n = fromK M n := by
  intro n
  induction n with
  | zero => intro _; exact ⟨Nat.zero_le _, rfl, by rw [fromK_zero, fromK_zero, h.2, k.2]⟩
  | succ n ih =>
    intro hn
    obtain ⟨h1, h2, h3⟩ := ih (by omega)
    have hA : Ahead bd n (if n = 0 then [] else ((L[n - 1]?).map Ent.key).getD []) (fromK L n) → True := fun _ => trivial
    have hk : n < L.length := by omega
    have hm : n < M.length := by
      rcases Nat.lt_or_ge n M.length with hx | hx
      · exact hx
      · rw [fromK_end M hx, fromK_at hk, piece_at (List.getElem?_eq_getElem hk)] at h3
        have h5 := congrArg List.length h3
        rw [List.length_append, List.length_nil] at h5
        have := kform_pos (ahOf L n) L[n]
        omega
    have hah : ahOf L n = ahOf M n := by
      unfold ahOf
      split
      · rfl
      · have e1 : L[n - 1]? = (L.take n)[n - 1]? := by rw [List.getElem?_take, if_pos (by omega)]
        have e2 : M[n - 1]? = (M.take n)[n - 1]? := by rw [List.getElem?_take, if_pos (by omega)]
        rw [e1, e2, h2]
    have h4 := h3
    rw [fromK_at hk, fromK_at hm, piece_at (List.getElem?_eq_getElem hk), piece_at (List.getElem?_eq_getElem hm), hah] at h4
    have s1 := stands_kform (ah := ahOf M n) (h.1.2.2.2 _ (List.getElem_mem hk)) (fromK L (n + 1))
    have s2 := stands_kform (ah := ahOf M n) (k.1.2.2.2 _ (List.getElem_mem hm)) (fromK M (n + 1))
    rw [h4] at s1
    obtain ⟨e1, e2⟩ := s1.unique s2
    refine ⟨hm, ?_, e2⟩
    rw [List.take_add_one, List.take_add_one, h2, List.getElem?_eq_getElem hk, List.getElem?_eq_getElem hm, e1]
theorem body_unique {bd : List Nat} {L M : List Ent} (h : BodyIs L bd) (k : BodyIs M bd) : L = M := by
  obtain ⟨h1, h2, _⟩ := body_unique_at h k L.length (Nat.le_refl _)
  obtain ⟨k1, _, _⟩ := body_unique_at k h M.length (Nat.le_refl _)
  have e : L.length = M.length := by omega
  rw [List.take_length, e, List.take_length] at h2
  exact h2
def IsB (b : List Nat) (L : List Ent) : Prop := MayB L ∧ wr L = b
def bodyOf (b : List Nat) : List Nat := b.take (b.length - 4 - 4 * num4 (b.drop (b.length - 4)))
theorem IsB.last {b : List Nat} {L : List Ent} (h : IsB b L) : 4 ≤ b.length ∧ b.drop (b.length - 4) = be4 (ats L L.length).length ∧ num4 (b.drop (b.length - 4)) = (L.length + 3) / 4 ∧ b.length = (upto L L.length).length + 4 * ((L.length + 3) / 4) + 4 := by
  have hl := wr_len L
  rw [h.2] at hl
  rw [ats_len] at hl
  have hd : b.drop (b.length - 4) = be4 (ats L L.length).length := by
    rw [← h.2, wr_len]
    unfold wr
    rw [← List.append_assoc, List.drop_append_of_le_length (by rw [List.length_append, flat4_len]; omega)]
    rw [List.drop_eq_nil_of_le (by rw [List.length_append, flat4_len]; omega)]; rfl
  refine ⟨by omega, hd, ?_, hl⟩
  rw [hd, ats_len]
  have := h.1.2.1
  exact num4_be4 (by omega)
theorem IsB.body {b : List Nat} {L : List Ent} (h : IsB b L) : BodyIs L (bodyOf b) := by
  obtain ⟨h1, h2, h3, h4⟩ := h.last
  refine ⟨h.1, ?_⟩
  unfold bodyOf
  rw [h3, show b.length - 4 - 4 * ((L.length + 3) / 4) = (upto L L.length).length by omega, ← h.2]
  unfold wr
  rw [List.take_append_of_le_length (Nat.le_refl _), List.take_length]
theorem IsB.unique {b : List Nat} {L M : List Ent} (h : IsB b L) (k : IsB b M) : L = M := body_unique h.body k.body
end Go.Proofs.YthhgjeeangepaaaGreat
namespace Go.Proofs.YthhgjeeangepaaaGreat.Bl
def pol : Nat := 2197175160
def sh (s : Nat) : Nat := (s / 2) ^^^ (s % 2 * pol)
def shn : Nat → Nat → Nat
  | 0, s => s
  | n + 1, s => shn n (sh s)
theorem shn_add (a b s : Nat) : shn (a + b) s = shn b (shn a s) := by
  induction a generalizing s with
  | zero => rw [Nat.zero_add]; rfl
  | succ a ih => rw [show a + 1 + b = (a + b) + 1 by omega]; exact ih _
theorem shn_succ' (n s : Nat) : shn (n + 1) s = sh (shn n s) := shn_add n 1 s
theorem xor_mod2 (a b : Nat) : (a ^^^ b) % 2 = (a % 2) ^^^ (b % 2) := by
  have h := Nat.xor_mod_two_pow (a := a) (b := b) (n := 1)
  simpa using h
theorem xor_div2 (a b : Nat) : (a ^^^ b) / 2 = (a / 2) ^^^ (b / 2) := by
  have h := Nat.xor_div_two_pow (a := a) (b := b) (n := 1)
  simpa using h
theorem bit_mul (a b p : Nat) : ((a % 2) ^^^ (b % 2)) * p = (a % 2 * p) ^^^ (b % 2 * p) := by
  rcases Nat.mod_two_eq_zero_or_one a with h | h <;> rcases Nat.mod_two_eq_zero_or_one b with k | k <;> simp [h, k]
theorem xor_swap (a b c d : Nat) : (a ^^^ b) ^^^ (c ^^^ d) = (a ^^^ c) ^^^ (b ^^^ d) := by
  rw [Nat.xor_assoc, ← Nat.xor_assoc b c d, Nat.xor_comm b c, Nat.xor_assoc c b d, ← Nat.xor_assoc]
theorem sh_xor (a b : Nat) : sh (a ^^^ b) = sh a ^^^ sh b := by
  unfold sh
  rw [xor_div2, xor_mod2, bit_mul, xor_swap]
theorem shn_xor (n a b : Nat) : shn n (a ^^^ b) = shn n a ^^^ shn n b := by
  induction n generalizing a b with
  | zero => rfl
  | succ n ih => unfold shn; rw [sh_xor, ih]
theorem xor_lt {a b : Nat} (h : a < 4294967296) (k : b < 4294967296) : a ^^^ b < 4294967296 := Nat.xor_lt_two_pow (n := 32) h k
theorem sh_lt {s : Nat} (h : s < 4294967296) : sh s < 4294967296 := by
  unfold sh
  refine xor_lt (by omega) ?_
  have : s % 2 < 2 := Nat.mod_lt _ (by omega)
  unfold pol
  omega
theorem shn_lt {n s : Nat} (h : s < 4294967296) : shn n s < 4294967296 := by
  induction n generalizing s with
  | zero => exact h
  | succ n ih => exact ih (sh_lt h)
def reg : Nat → List Nat → Nat
  | s, [] => s
  | s, c :: l => reg (shn 8 (s ^^^ c)) l
theorem reg_append (s : Nat) (l r : List Nat) : reg s (l ++ r) = reg (reg s l) r := by
  induction l generalizing s with
  | nil => rfl
  | cons c l ih => exact ih _
theorem reg_snoc (s : Nat) (l : List Nat) (c : Nat) : reg s (l ++ [c]) = shn 8 (reg s l ^^^ c) := by rw [reg_append]; rfl
theorem reg_lt {s : Nat} {l : List Nat} (h : s < 4294967296) (hl : ∀ c ∈ l, c < 256) : reg s l < 4294967296 := by
  induction l generalizing s with
  | nil => exact h
  | cons c l ih => exact ih (shn_lt (xor_lt h (by have := hl c (by simp); omega))) (fun x hx => hl x (by simp [hx]))
def ones : Nat := 4294967295
theorem ones_lt : ones < 4294967296 := by unfold ones; omega
def more (sum : Nat) (l : List Nat) : Nat := reg (sum ^^^ ones) l ^^^ ones
def crc (l : List Nat) : Nat := reg ones l ^^^ ones
theorem crc_lt {l : List Nat} (hl : ∀ c ∈ l, c < 256) : crc l < 4294967296 := xor_lt (reg_lt ones_lt hl) ones_lt
theorem more_lt {s : Nat} {l : List Nat} (h : s < 4294967296) (hl : ∀ c ∈ l, c < 256) : more s l < 4294967296 := xor_lt (reg_lt (xor_lt h ones_lt) hl) ones_lt
theorem shn4 (r : Nat) : shn 4 r = (r / 16) ^^^ shn 4 (r % 16) := by
  have h : r = (r / 16 * 16) ^^^ (r % 16) := by
    apply Nat.eq_of_testBit_eq
    intro i
    rw [Nat.testBit_xor, show r / 16 * 16 = (r / 2 ^ 4) <<< 4 by rw [Nat.shiftLeft_eq], Nat.testBit_shiftLeft, show r % 16 = r % 2 ^ 4 from rfl, Nat.testBit_mod_two_pow]
    by_cases hi : 4 ≤ i
    · have e2 : (r / 2 ^ 4).testBit (i - 4) = r.testBit i := by rw [Nat.testBit_div_two_pow]; congr 1; omega
      rw [e2]
      simp [hi, show ¬ i < 4 by omega]
    · simp [hi, show i < 4 by omega]
  have e2 : ∀ q, sh (2 * q) = q := by
    intro q; unfold sh
    rw [show 2 * q / 2 = q by omega, show 2 * q % 2 = 0 by omega, Nat.zero_mul, Nat.xor_zero]
  have e4 : shn 4 (r / 16 * 16) = r / 16 := by
    simp only [shn]
    rw [show r / 16 * 16 = 2 * (2 * (2 * (2 * (r / 16)))) by omega, e2, e2, e2, e2]
  conv => lhs; rw [h, shn_xor, e4]
theorem shn4_lt16 {n : Nat} (h : n < 16) : shn 4 n < 4294967296 := shn_lt (by omega)
end Go.Proofs.YthhgjeeangepaaaGreat.Bl
