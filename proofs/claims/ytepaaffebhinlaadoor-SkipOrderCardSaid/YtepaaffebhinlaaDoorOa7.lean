/- Sget Irise Flowin Ikeys Tailin Ilatest Iseq Srow, joined. -/
import Derived.Test.YtepaaffebhinlaaDoorOa6
import Derived.Laws.ResultCell
import Derived.Test.YtepaaffebhinlaaDoorOa4
import Derived.Test.YtepaaffebhinlaaDoorOa3
import Derived.Test.YtepaaffebhinlaaDoorOa2
import Derived.OrdersIn
import Derived.Laws.EntriesVeiled
import Derived.Deep.Slices
import Derived.Sort.LoopGhostIn

/- Get, Len, Bytes. -/
namespace Go.Proofs.YtepaaffebhinlaaDoor
open Go.ChangeShapes Go.WideShapes Go.ChangeAt Go.RowKit Go.Shelf

theorem entry_ret2 {fn : Func} {tmps : Array Value} {w : World} {g : Nat} {p q : Tmp} {c : Array Value} {k : Value} {R : Ending → World → Prop} (hr : fn.results = #[.cell p 28, .tmp q]) (h2 : tmps.getD p undef = .pointer (some ⟨g, 0, none⟩)) (h3 : tmps.getD q undef = k)
    (hc : c.size = 4) (hg : w.heap[g]? = some (.cells c 28 (0, 0))) (h : R (.returned (.tuple #[.agg c, k])) w) : bodyPost Tryd.prog fn R .ret { tmps := tmps, defers := [] } w := by
  refine ⟨rfl, .tuple #[.agg c, k], ?_, h⟩
  have hi : (Tryd.prog.info? 28).map (·.size) = some 4 := by kernel_rfl
  have hl := run_loadVar_row (P := Tryd.prog) w g 28 28 c (0, 0) _ hg Tryd.underlying28 rfl (by rw [hc]; exact hi)
  have ha : (asAddr (.pointer (some ⟨g, 0, none⟩))).run Tryd.prog w = .ok ⟨g, 0, none⟩ w := rfl
  rw [results_cell_tmp hr, h2, h3, ha, Result.andThen_ok, hl, Result.andThen_ok]

theorem arr_index {m : Nat} (hm : m < 8) (q : Nat → Option Addr) (w : World) : (Instr.index 61 (.agg #[.pointer (q 0), .pointer (q 1), .pointer (q 2), .pointer (q 3), .pointer (q 4), .pointer (q 5), .pointer (q 6), .pointer (q 7)]) (.int .i64 (m : Int))).run Tryd.prog w = .ok (.pointer (q m)) w := by
  rcases m with _ | _ | _ | _ | _ | _ | _ | _ | m
  · kernel_rfl
  · kernel_rfl
  · kernel_rfl
  · kernel_rfl
  · kernel_rfl
  · kernel_rfl
  · kernel_rfl
  · kernel_rfl
  · omega
/-- What Get answers. -/
def GetAns (w : World) (o : Option Ent) (e : Ending) (w' : World) : Prop :=
  Ext w w' ∧ match o with
    | some x => ∃ g : Hd, e = .returned (.tuple #[x.at_ g, .int .i64 0]) ∧ Own w.heap.size x.key (.slice g.kA x.key.length g.kc) w' ∧ Own w.heap.size x.val (.slice g.vA x.val.length g.vc) w'
    | none => e = .returned (.tuple #[zeroE.at_ ⟨none, 0, none, 0⟩, .int .i64 6])

set_option maxRecDepth 100000 in
set_option maxHeartbeats 8000000 in
theorem sget_any {w : World} {D : Nat → Prop} {lb hb lo hi kc : Nat} {kA : Option Addr} {T : List Tw} {key : List Nat} {s : Int} (h : Sk w D lb hb T) (hk : Bs w lo hi (.slice kA key.length kc) key) (hhi : hi ≤ w.heap.size) (bk : ∀ x ∈ key, x < 256) (s1 : -9223372036854775808 ≤ s) (s2 : s ≤ 9223372036854775807) :
    Calls Tryd.prog 21 #[.pointer (some ⟨lb, 0, none⟩), .slice kA key.length kc, .int .i64 s] w (GetAns w (getE (T.map Tw.e) key s)) := by
  obtain ⟨o, ho⟩ : ∃ o, o = getE (T.map Tw.e) key s := ⟨_, rfl⟩
  rw [← ho]
  have HO0 := Lib.hid ho
  clear ho
  obtain ⟨w1, hw1⟩ : ∃ w1, w1 = w.alloc (.cells #[.slice none 0 0, .int .i64 0, .int .i64 0, .slice none 0 0] 28) := ⟨_, rfl⟩
  have HX1 : Hid (Ext w w1) := by rw [hw1]; exact ext_alloc _ _
  have HB1 : Hid (w1.heap[w.heap.size]? = some (.cells #[.slice none 0 0, .int .i64 0, .int .i64 0, .slice none 0 0] 28)) := by rw [hw1]; exact heap_at _ _ rfl
  have H := Lib.hid h
  have HK := Lib.hid hk
  have HHI := Lib.hid hhi
  have HBK := Lib.hid bk
  have HN := Lib.hid (none_no (ext_heap HX1.out h.list))
  have HS := Lib.hid (And.intro s1 s2)
  clear h hk hhi bk s1 s2
  subst hw1
  go_enter Tryd.func21, Tryd.ntmps21
  go_wp2_with fail
  refine Calls.mono HN.out ?_
  rintro e w' ⟨rfl, rfl⟩
  go_wp2_with fail
  refine Calls.mono (aheadOf_any _ _ _ _ _) ?_
  rintro e w3 ⟨rfl, hw3⟩
  have HX3 : Hid (Ext w w3) := Ext.trans HX1.out (by rw [hw3]; exact ext_alloc _ _)
  have HB3 : Hid (w3.heap[w.heap.size]? = some (.cells #[.slice none 0 0, .int .i64 0, .int .i64 0, .slice none 0 0] 28)) := by rw [hw3]; exact ext_heap (ext_alloc _ _) HB1.out
  have HAF := Lib.hid (ahead1_fn (HK.out.below HX3.out HHI.out) (Nat.le_trans HHI.out HX3.out.size) HBK.out HS.out.1 HS.out.2 (p := w.heap.size + 1) (by rw [hw3]; exact heap_at _ _ (by simp)))
  have HBF := Lib.hid (before_any (H.out.ext HX3.out) HAF.out (H.out.asc.ahead _ _))
  have hsz1 : (w.alloc (.cells #[.slice none 0 0, .int .i64 0, .int .i64 0, .slice none 0 0] 28)).heap.size = w.heap.size + 1 := by simp
  rw [hsz1]
  clear hw3 hsz1
  go_wp2_with fail
  refine Calls.mono HBF.out ?_
  rintro e w4 ⟨hx4, f, hf, rfl⟩
  have HX4 := Lib.hid (Ext.trans HX3.out hx4)
  have HB4 := Lib.hid (ext_heap hx4 HB3.out)
  have HF := Lib.hid hf
  clear hx4 hf
  obtain ⟨HH, hHH⟩ : ∃ HH, HH = headT hb :: T := ⟨_, rfl⟩
  obtain ⟨p, hp⟩ : ∃ p, p = 1 + cutOf (aheadE key s) (T.map Tw.e) := ⟨_, rfl⟩
  rw [← hHH] at HF ⊢
  rw [← hp] at HF
  have HHH := Lib.hid hHH
  have HP := Lib.hid hp
  clear hHH hp
  have hlen : HH.length = T.length + 1 := by rw [HHH.out]; rfl
  have hcle : cutOf (aheadE key s) (T.map Tw.e) ≤ T.length := by have := cutOf_le (aheadE key s) (T.map Tw.e); rwa [List.length_map] at this
  have HPL : Hid (1 ≤ p ∧ p ≤ HH.length) := by have := HP.out; unfold Hid; omega
  have HALL : Hid (∀ t ∈ HH, 1 ≤ t.h ∧ t.h ≤ 8) := fun t ht => by
    rw [HHH.out] at ht
    rcases List.mem_cons.1 ht with rfl | ht
    · show 1 ≤ 8 ∧ 8 ≤ 8; omega
    · rw [H.out.hts t ht]; exact hgt_le _ _
  have HCH : Hid (Chain w4 D T.length HH) := by rw [HHH.out]; exact H.out.chain.ext HX4.out
  have HF0 : Hid (f 0 + 1 = p) := last_zero (fun t ht => (HALL.out t ht).1) HPL.out.2 (HF.out 0 (by decide))
  have HGT : Hid (HH[p]? = T[cutOf (aheadE key s) (T.map Tw.e)]?) := by
    unfold Hid
    rw [HP.out, HHH.out, Nat.add_comm, List.getElem?_cons_succ]
  have HNX : Hid (nxt 0 (HH.drop p) = HH[p]?.map Tw.b) := by
    unfold Hid
    rw [nxt_first (fun t ht => (HALL.out t (List.mem_of_mem_drop ht)).1), List.head?_drop]
  obtain ⟨t0, ht0⟩ : ∃ t0, HH[f 0]? = some t0 := ⟨_, List.getElem?_eq_getElem (by have := HF0.out; have := HPL.out; omega)⟩
  obtain ⟨_, g0, born0, hb0, _⟩ := HCH.out (f 0) t0 ht0
  have q1 : w4.cell? ⟨bAt HH (f 0), 5, none⟩ = some (optp (HH[p]?.map Tw.b)) := by
    rw [bAt_of ht0]
    refine cell_of hb0 ((tcells_next _ _ _ _ (n := 0) (by decide)).trans ?_)
    unfold nextOf
    rw [if_pos (by have := (HALL.out t0 (List.mem_of_getElem? ht0)).1; omega), HF0.out, HNX.out]
  clear hlen hcle hb0 ht0
  have hix : ∀ W, (Instr.index 61 (.agg #[.pointer (some ⟨bAt HH (f 0), 0, none⟩), .pointer (some ⟨bAt HH (f 1), 0, none⟩), .pointer (some ⟨bAt HH (f 2), 0, none⟩), .pointer (some ⟨bAt HH (f 3), 0, none⟩), .pointer (some ⟨bAt HH (f 4), 0, none⟩), .pointer (some ⟨bAt HH (f 5), 0, none⟩), .pointer (some ⟨bAt HH (f 6), 0, none⟩), .pointer (some ⟨bAt HH (f 7), 0, none⟩)]) (.int .i64 0)).run Tryd.prog W = .ok (.pointer (some ⟨bAt HH (f 0), 0, none⟩)) W := fun W => arr_index (m := 0) (by decide) (fun k => some ⟨bAt HH (f k), 0, none⟩) W
  have hgE : getE (T.map Tw.e) key s = match HH[p]? with | some t => if cmpK t.e.key key = 0 then some t.e else none | none => none := by
    unfold getE
    rw [List.getElem?_map, HGT.out]
    cases T[cutOf (aheadE key s) (T.map Tw.e)]? <;> rfl
  have HO := Lib.hid (HO0.out.trans hgE)
  clear hgE
  cases hnx : HH[p]? with
  | none =>
    rw [hnx] at q1
    dsimp only [optp, Option.map_none] at q1
    obtain rfl : o = none := by have := HO.out; rw [hnx] at this; exact this
    clear hnx
    have r0 := cell_of (v := .slice none 0 0) HB4.out (k := 0) rfl
    have r1 := cell_of (v := .int .i64 0) HB4.out (k := 1) rfl
    have r2 := cell_of (v := .int .i64 0) HB4.out (k := 2) rfl
    have r3 := cell_of (v := .slice none 0 0) HB4.out (k := 3) rfl
    have z0 := frozen_four (j := 0) HB4.out
    have z1 := frozen_four (j := 1) HB4.out
    have z2 := frozen_four (j := 2) HB4.out
    have z3 := frozen_four (j := 3) HB4.out
    go_wp2_with fail
    refine entry_ret2 (p := 6) (q := 7) (by kernel_rfl) rfl rfl rfl (set_four HB4.out) ⟨?_, rfl⟩
    have e := Nat.le_refl w.heap.size
    exact Below.setCell (Below.setCell (Below.setCell (Below.setCell HX4.out e _) e _) e _) e _
  | some tn =>
    have hins : InE tn.e := by
      have h1 := HGT.out
      rw [hnx] at h1
      exact H.out.ins tn (List.mem_of_getElem? h1.symm)
    obtain ⟨gn, bn, hbn, _, _, hem⟩ := (HCH.out p tn hnx).em hins
    rw [hnx] at q1
    dsimp only [optp, Option.map_some] at q1
    have HINS := Lib.hid hins
    have HEM := Lib.hid hem
    have HBN := Lib.hid hbn
    have d0 := cell_of (v := .slice gn.kA tn.e.key.length gn.kc) hbn (k := 0) rfl
    have HKC := Lib.hid (keys_any hem.k (HK.out.below HX4.out HHI.out) hem.bk HBK.out)
    have ho : o = if cmpK tn.e.key key = 0 then some tn.e else none := by have := HO.out; rw [hnx] at this; exact this
    obtain ⟨c, hc⟩ : ∃ c, c = cmpK tn.e.key key := ⟨_, rfl⟩
    rw [← hc] at HKC ho
    have HO2 := Lib.hid ho
    clear ho HO
    clear hnx hins hem hbn hc
    go_wp2_with fail
    refine Calls.mono HKC.out ?_
    rintro e w5 ⟨rfl, hw5⟩
    have hw5 := hw5.symm
    subst hw5
    clear q1 d0 hix
    by_cases h0 : c = 0
    · have d : (c != 0) = false := by simp [h0]
      obtain rfl : o = some tn.e := by rw [HO2.out, if_pos h0]
      have d0 := cell_of (v := .slice gn.kA tn.e.key.length gn.kc) HBN.out (k := 0) rfl
      have d1 := cell_of (v := .int .i64 tn.e.seq) HBN.out (k := 1) rfl
      have d2 := cell_of (v := .int .i64 tn.e.kind) HBN.out (k := 2) rfl
      have d3 := cell_of (v := .slice gn.vA tn.e.val.length gn.vc) HBN.out (k := 3) rfl
      have HCP := Lib.hid (copy_any HEM.out (Nat.le_refl _) (by have := HINS.out.s; omega) (by have := HINS.out.s; omega))
      unfold Ent.at_ at HCP
      clear h0
      go_wp2_with fail
      refine Calls.mono HCP.out ?_
      rintro e w6 ⟨hx6, g6, rfl, ok, ov⟩
      have HX6 := Lib.hid (Ext.trans HX4.out hx6)
      have HB6 := Lib.hid (ext_heap hx6 HB4.out)
      have HOK := Lib.hid ok
      have HOV := Lib.hid ov
      have HZ4 := Lib.hid HX4.out.size
      unfold Ent.at_
      have r0 := cell_of (v := .slice none 0 0) HB6.out (k := 0) rfl
      have r1 := cell_of (v := .int .i64 0) HB6.out (k := 1) rfl
      have r2 := cell_of (v := .int .i64 0) HB6.out (k := 2) rfl
      have r3 := cell_of (v := .slice none 0 0) HB6.out (k := 3) rfl
      have z0 := frozen_four (j := 0) HB6.out
      have z1 := frozen_four (j := 1) HB6.out
      have z2 := frozen_four (j := 2) HB6.out
      have z3 := frozen_four (j := 3) HB6.out
      clear hx6 ok ov d0 d1 d2 d3
      go_wp2_with fail
      have hlt : w.heap.size < w4.heap.size := Nat.lt_of_lt_of_le (Array.getElem?_eq_some_iff.1 HB4.out).1 (Nat.le_refl _)
      refine entry_ret2 (p := 6) (q := 7) (by kernel_rfl) rfl rfl rfl (set_four HB6.out) ⟨?_, g6, rfl, ?_, ?_⟩
      · have e := Nat.le_refl w.heap.size
        exact Below.setCell (Below.setCell (Below.setCell (Below.setCell HX6.out e _) e _) e _) e _
      · exact ((((HOK.out.far hlt).far hlt).far hlt).far hlt).base (Nat.le_of_lt hlt)
      · exact ((((HOV.out.far hlt).far hlt).far hlt).far hlt).base (Nat.le_of_lt hlt)
    · have d : (c != 0) = true := by simp [h0]
      obtain rfl : o = none := by rw [HO2.out, if_neg h0]
      have r0 := cell_of (v := .slice none 0 0) HB4.out (k := 0) rfl
      have r1 := cell_of (v := .int .i64 0) HB4.out (k := 1) rfl
      have r2 := cell_of (v := .int .i64 0) HB4.out (k := 2) rfl
      have r3 := cell_of (v := .slice none 0 0) HB4.out (k := 3) rfl
      have z0 := frozen_four (j := 0) HB4.out
      have z1 := frozen_four (j := 1) HB4.out
      have z2 := frozen_four (j := 2) HB4.out
      have z3 := frozen_four (j := 3) HB4.out
      clear h0
      go_wp2_with fail
      refine entry_ret2 (p := 6) (q := 7) (by kernel_rfl) rfl rfl rfl (set_four HB4.out) ⟨?_, rfl⟩
      have e := Nat.le_refl w.heap.size
      exact Below.setCell (Below.setCell (Below.setCell (Below.setCell HX4.out e _) e _) e _) e _

theorem slen_any {w : World} {D : Nat → Prop} {lb hb : Nat} {T : List Tw} (h : Sk w D lb hb T) : Calls Tryd.prog 8 #[.pointer (some ⟨lb, 0, none⟩)] w fun e w' => e = .returned (.int .i64 (T.length : Int)) ∧ w = w' := by
  have HN := Lib.hid (none_no h.list)
  have c1 := cell_of (v := .int .i64 (T.length : Int)) h.list (k := 1) rfl
  clear h
  go_enter Tryd.func8, Tryd.ntmps8
  go_wp2_with fail
  refine Calls.mono HN.out ?_
  rintro e w' ⟨rfl, rfl⟩
  go_wp2_with fail
  go_ret
  exact ⟨rfl, rfl⟩
theorem sbytes_any {w : World} {D : Nat → Prop} {lb hb : Nat} {T : List Tw} (h : Sk w D lb hb T) : Calls Tryd.prog 24 #[.pointer (some ⟨lb, 0, none⟩)] w fun e w' => e = .returned (.int .i64 (bytesE (T.map Tw.e) : Int)) ∧ w = w' := by
  have HN := Lib.hid (none_no h.list)
  have c1 := cell_of (v := .int .i64 (bytesE (T.map Tw.e) : Int)) h.list (k := 2) rfl
  clear h
  go_enter Tryd.func24, Tryd.ntmps24
  go_wp2_with fail
  refine Calls.mono HN.out ?_
  rintro e w' ⟨rfl, rfl⟩
  go_wp2_with fail
  go_ret
  exact ⟨rfl, rfl⟩
end Go.Proofs.YtepaaffebhinlaaDoor

/- How far entries rise. -/
namespace Go.Proofs.YtepaaffebhinlaaDoor
open Go.ChangeShapes Go.WideShapes Go.ChangeAt Go.RowKit

end Go.Proofs.YtepaaffebhinlaaDoor

/- A region that draws its order, by facts, within a round of a loop over a function. -/
namespace Go.Proofs.YtepaaffebhinlaaDoor
open Go.RowKit

section
variable {P : Program} {ops : Array Oper} {Q : Exit → Act → World → Prop} {l m : Nat}

theorem op_in {o : Oper} {a : Act} {w : World} {K : Act → World → Prop} (hnd : ∀ c, o.op ≠ .defer c) (h : o.wp P a w K Q) : o.wpIn (Fence.wide.inRound l) m P a w K Q := by
  refine ⟨fun _ _ => trivial, ?_⟩
  rw [show (Fence.wide.inRound l).round = some l from rfl, Oper.semAt_some l a.eval o hnd]
  unfold Oper.wp at h
  generalize (execOp a.eval o).run P w = r at h ⊢
  cases r with
  | ok x w' =>
    cases x with
    | value v => exact h
    | skip => exact h
    | defer d => exact h
    | enter f args => exact ⟨(fun e => (by cases e)), CallsIn.inRound l (callsIn_wide.2 h)⟩
    | row row args =>
      refine ⟨(fun e => (by cases e)), fun c cs _ => ?_⟩
      obtain ⟨v, w2, hr, hs⟩ := h c cs
      exact ⟨v, w2, hr, stepsIn_wide.2 hs⟩
    | _ => exact h.elim
  | halt x w' => cases x <;> first | exact h | exact h.elim

theorem any_in (hnd : ∀ (i : Nat) (o : Oper), ops[i]? = some o → ∀ c, o.op ≠ .defer c) (hQ : ¬ LetsOut Q) : ∀ (n : Nat) (seen : Array Bool) (a : Act) (w : World), wpAny P .any ops Q n seen a w → wpAnyIn (Fence.wide.inRound l) m P .any ops Q n seen a w := by
  intro n
  induction n with
  | zero => intro seen a w h; exact h
  | succ n ih =>
    intro seen a w h
    refine ⟨h.1, fun i hi => ?_⟩
    have h2 := h.2 i hi
    unfold wpOp at h2
    unfold wpOpIn
    cases ho : ops[i]? with
    | none => simp only [ho] at h2 ⊢; exact ih _ _ _ h2
    | some o =>
      simp only [ho] at h2 ⊢
      split
      · rename_i hw
        rw [if_pos hw] at h2
        rcases h2 with h2 | ⟨_, h2⟩
        · exact Oper.wpIn_mono (fun a w h => ih _ a w h) (op_in (hnd i o ho) h2)
        · exact absurd h2 hQ
      · rename_i hw
        rw [if_neg hw] at h2
        exact ⟨fun _ _ => trivial, ih _ _ _ h2⟩

/-- No operation of these is a defer statement. -/
def noDefer (ops : Array Oper) : Bool := ops.all fun o => match o.op with | .defer _ => false | _ => true
theorem noDefer_at (h : noDefer ops = true) (i : Nat) (o : Oper) (ho : ops[i]? = some o) (c : Call) : o.op ≠ .defer c := by
  intro e
  obtain ⟨hi, he⟩ := Array.getElem?_eq_some_iff.1 ho
  have := (Array.all_eq_true.1 h) i hi
  rw [he, e] at this
  cases this

theorem flow_in {a0 : Act} {id : Nat} {w : World} (hm : P.follows .mixedOrders = true) (hnd : noDefer ops = true) (hQ : ∀ a w, ¬ Q .outgrown a w) (φ : List (Value → World → Prop)) (hok : flowOk ops a0.tmps.size = true) (hsel : Region.noSelect ops = true) (hmono : ∀ p ∈ φ, Mono p)
    (hobl : ∀ f, Obls P ops φ w.drew f 0 ops.toList a0)
    (hfin : ∀ (g : Nat → Value) u, Ext w.drew u → (∀ j, j < ops.size → fact φ j (g j) u) → Q .normal (puts g 0 ops.toList a0) u) : (Code.region id ops true).wpIn (Fence.wide.inRound l) m P Q a0 w := by
  refine wpIn_region_any hm (any_in (noDefer_at hnd) (fun ⟨a, w, h⟩ => hQ a w h) _ _ _ _ (flow_any hok hsel hmono hobl hfin _ _ _ _ ⟨Ext.refl _, by simp, rfl, rfl, fun _ _ => rfl, fun j oj hj hs => ?_, fun j oj hj hs => ?_⟩ ?_))
  · have hlt := (Array.getElem?_eq_some_iff.1 hj).1
    simp [Array.getD, hlt] at hs
  · have hlt := (Array.getElem?_eq_some_iff.1 hj).1
    simp [Array.getD, hlt] at hs
  · unfold left
    rw [List.countP_eq_length.2]
    · simp
    · intro i hi
      have hlt := List.mem_range.1 hi
      simp [Array.getD, hlt]
end
end Go.Proofs.YtepaaffebhinlaaDoor

/- Going over the pieces of a row of entries that have one key each. -/
namespace Go.Proofs.YtepaaffebhinlaaDoor
open Go.RowKit Go.Shelf
attribute [local go_sem] Oper.semAt_some

theorem Em.keep {w w' : World} {lo hi : Nat} {e : Ent} {g : Hd} (m : Em w lo hi e g) (hk : ∀ p : Addr, lo ≤ p.block → p.block < hi → w'.cell? p = w.cell? p) : Em w' lo hi e g := ⟨m.k.of fun _ h => h.keep hk, m.v.of fun _ h => h.keep hk, m.bk, m.bv, m.s1, m.s2, m.d1, m.d2⟩
theorem Es.keep {w w' : World} {lo hi : Nat} {A : Option Addr} {L : List (Ent × Hd)} (h : Es w lo hi A L) (hk : ∀ p : Addr, lo ≤ p.block → p.block < hi → w'.cell? p = w.cell? p) : Es w' lo hi A L := ⟨h.outer.keep hk, fun p hp => (h.each p hp).keep hk⟩
theorem einfo : (Tryd.prog.info? 28).map (fun i => (i.zero, i.size, i.bytes)) = some (some (.agg #[.slice none 0 0, .int .i64 0, .int .i64 0, .slice none 0 0]), 4, 64) := by kernel_rfl
theorem esize (w : World) : (sizeOf (Tryd.prog.elem 22)).run Tryd.prog w = .ok 4 w := by
  obtain ⟨i0, hi, _, hz1, _⟩ := info_parts einfo
  have e : Tryd.prog.elem 22 = 28 := by kernel_rfl
  rw [e]
  simp [Go.sizeOf, typeInfo, hi, hz1]
/-- A piece of a row of entries. -/
theorem eslice_run (A : Option Addr) (n c k j : Nat) (hkj : k ≤ j) (hjn : j ≤ n) (hc : n ≤ c) (w : World) :
    (Instr.slice 22 (.slice A n c) (some (.int .i64 (k : Int))) (some (.int .i64 (j : Int))) none).run Tryd.prog w = .ok (.slice (if c = k then A else A.map (·.add (k * 4))) (j - k) (c - k)) w := by
  have he : Tryd.prog.underlying 22 = some (.slice (Tryd.prog.elem 22)) := by kernel_rfl
  rw [run_slice_lh w 22 A n c he .i64 .i64 (k : Int) (j : Int) (by omega) (by omega) (by omega), esize w]
  simp [Result.andThen, sliced]
theorem eslice_run0 (A : Option Addr) (n c j : Nat) (hjn : j ≤ n) (hc : n ≤ c) (w : World) :
    (Instr.slice 22 (.slice A n c) none (some (.int .i64 (j : Int))) none).run Tryd.prog w = .ok (.slice A j c) w := by
  have he : Tryd.prog.underlying 22 = some (.slice (Tryd.prog.elem 22)) := by kernel_rfl
  rw [run_slice_h w 22 A n c he .i64 (j : Int) (by omega) (by omega), esize w]
  by_cases h : c = 0
  · subst h; simp [Result.andThen, sliced]
  · have : ¬ c = 0 := h
    cases A <;> simp [Result.andThen, sliced, Addr.add]
theorem erow_drop (L : List (Ent × Hd)) (k : Nat) (hk : k ≤ L.length) : erow (L.drop k) = (erow L).drop (k * 4) := by
  have h := erow_append (L.take k) (L.drop k)
  rw [List.take_append_drop] at h
  have hl : (erow (L.take k)).length = k * 4 := by rw [erow_length, List.length_take, Nat.min_eq_left hk]
  rw [h, ← hl, List.drop_left]
theorem erow_take (L : List (Ent × Hd)) (k : Nat) (hk : k ≤ L.length) : erow (L.take k) = (erow L).take (k * 4) := by
  have h := erow_append (L.take k) (L.drop k)
  rw [List.take_append_drop] at h
  have hl : (erow (L.take k)).length = k * 4 := by rw [erow_length, List.length_take, Nat.min_eq_left hk]
  rw [h, ← hl, List.take_left]
theorem Es.drop {w : World} {lo hi c : Nat} {A : Option Addr} {L : List (Ent × Hd)} (h : Es w lo hi A L) {k : Nat} (hk : k ≤ L.length) (hc : L.length ≤ c) : Es w lo hi (if c = k then A else A.map (·.add (k * 4))) (L.drop k) := by
  refine ⟨?_, fun p hp => h.each p (List.mem_of_mem_drop hp)⟩
  rw [erow_drop L k hk]
  have h2 := Sl.drop (k := k * 4) (cap := c * 4) h.outer (by rw [erow_length]; omega) (by rw [erow_length]; omega)
  by_cases e : c = k
  · rw [if_pos e]; rw [if_pos (by omega)] at h2; exact h2
  · rw [if_neg e]; rw [if_neg (by omega)] at h2; exact h2
theorem Es.take {w : World} {lo hi : Nat} {A : Option Addr} {L : List (Ent × Hd)} (h : Es w lo hi A L) {k : Nat} (hk : k ≤ L.length) : Es w lo hi A (L.take k) := by
  refine ⟨?_, fun p hp => h.each p (List.mem_of_mem_take hp)⟩
  rw [erow_take L k hk]
  exact Sl.take h.outer _

/-- Where the pieces begin and end, from i on, the piece that i is in having begun at f. -/
def cuts (L : List Ent) : Nat → Nat → Nat → List (Nat × Nat)
  | 0, _, _ => []
  | r + 1, f, i => match L[i]?, L[i + 1]? with
    | some a, some b => if a.key = b.key then cuts L r f (i + 1) else (f, i + 1) :: cuts L r (i + 1) (i + 1)
    | _, _ => (f, i + 1) :: cuts L r (i + 1) (i + 1)

theorem cuts_same {L : List Ent} {i f : Nat} {a b : Ent} (hi : i < L.length) (ha : L[i]? = some a) (hb : L[i + 1]? = some b) (h : a.key = b.key) : cuts L (L.length - i) f i = cuts L (L.length - (i + 1)) f (i + 1) := by
  have e : L.length - i = L.length - (i + 1) + 1 := by omega
  rw [e, cuts]
  simp only [ha, hb, h, if_true]
theorem cuts_other {L : List Ent} {i f : Nat} {a : Ent} (hi : i < L.length) (ha : L[i]? = some a) (h : ∀ b, L[i + 1]? = some b → a.key ≠ b.key) : cuts L (L.length - i) f i = (f, i + 1) :: cuts L (L.length - (i + 1)) (i + 1) (i + 1) := by
  have e : L.length - i = L.length - (i + 1) + 1 := by omega
  rw [e, cuts]
  cases hb : L[i + 1]? with
  | none => simp only [ha]
  | some b => simp only [ha, if_neg (h b hb)]
theorem drop_cons {α : Type} {l r : List α} {k : Nat} {x : α} (h : l.drop k = x :: r) : k < l.length ∧ l[k]? = some x ∧ l.drop (k + 1) = r := by
  have hk : k < l.length := by
    rcases Nat.lt_or_ge k l.length with h1 | h1
    · exact h1
    · rw [List.drop_of_length_le h1] at h; cases h
  rw [List.drop_eq_getElem_cons hk] at h
  injection h with h1 h2
  exact ⟨hk, by rw [List.getElem?_eq_getElem hk, h1], h2⟩

/-- The blocks that must stay. -/
def Kept (lo hi bd : Nat) (w A : World) : Prop := ∀ k, (lo ≤ k ∧ k < hi ∨ k = bd) → k < w.heap.size → A.heap[k]? = w.heap[k]?
theorem Kept.es {lo hi bd : Nat} {w A : World} {X : Option Addr} {L : List (Ent × Hd)} (h : Kept lo hi bd w A) (hhi : hi ≤ w.heap.size) (hE : Es w lo hi X L) : Es A lo hi X L := hE.keep fun p h1 h2 => World.cell?_of_block (h p.block (.inl ⟨h1, h2⟩) (Nat.lt_of_lt_of_le h2 hhi))
theorem Kept.box {lo hi bd : Nat} {w A : World} {v : Value} (h : Kept lo hi bd w A) (hb : w.cell? ⟨bd, 0, none⟩ = some v) : A.cell? ⟨bd, 0, none⟩ = some v := by
  rw [World.cell?_of_block (w := w) (a := ⟨bd, 0, none⟩) (h bd (.inr rfl) (World.block_lt_of_cell? w _ hb))]; exact hb

/-- The k-th piece, as a value. -/
def PieceOk (L : List (Ent × Hd)) (A : Option Addr) (c : Nat) (_n₁ k : Nat) (x : Option Addr × Nat × Nat) (_w : World) : Prop :=
  ∃ f t, (cuts (L.map Prod.fst) L.length 0 0)[k]? = some (f, t) ∧ f < t ∧ t ≤ L.length ∧ x = ((if c = f then A else A.map (·.add (f * 4))), t - f, c - f)
def pieceV (x : Option Addr × Nat × Nat) : Array Value := #[.slice x.1 x.2.1 x.2.2]

end Go.Proofs.YtepaaffebhinlaaDoor

/- A region that draws its order, by facts, whose last operations are done one behind the other, within a round of a loop over a function (no function of the program). -/
namespace Go.Proofs.YtepaaffebhinlaaDoor
open Go.RowKit
theorem flow_tail_in {P : Program} {ops : Array Oper} {Q : Exit → Act → World → Prop} {l n : Nat} {a0 : Act} {id : Nat} {w : World} (hm0 : P.follows .mixedOrders = true) (hnd : noDefer ops = true) (hQ : ∀ a w, ¬ Q .outgrown a w) (φ : List (Value → World → Prop)) (m : Nat) (hok : flowOk ops a0.tmps.size = true) (hsel : Region.noSelect ops = true) (hmn : decide (m ≤ ops.size) = true) (htl : tailOk ops m = true) (hmono : ∀ p ∈ φ, Mono p)
    (hobl : ∀ f, Obls P ops φ w.drew f 0 (ops.toList.take m) a0)
    (hfin : ∀ (g : Nat → Value) u, Ext w.drew u → (∀ j, j < m → fact φ j (g j) u) → wpList P ops Q (ops.toList.drop m) (puts g 0 (ops.toList.take m) a0) u) :
    (Code.region id ops true).wpIn (Fence.wide.inRound l) n P Q a0 w := by
  refine wpIn_region_any hm0 (any_in (noDefer_at hnd) (fun ⟨a, w, h⟩ => hQ a w h) _ _ _ _ (flow_tail_any hok hsel (of_decide_eq_true hmn) htl hmono hobl hfin ops.size _ a0 w.drew inv_start (fun j _ => ?_) left_start))
  rw [Array.getD_eq_getD_getElem?]
  by_cases hj : j < ops.size
  · simp [hj]
  · simp [hj]
end Go.Proofs.YtepaaffebhinlaaDoor

/- ikey's Latest: what is seen at a number. -/
namespace Go.Proofs.YtepaaffebhinlaaDoor
open Go.RowKit Go.Shelf
attribute [local go_sem] Oper.semAt_some

/-- Of each piece the first one whose number is at most s. -/
def firsts (L : List Ent) (s : Int) (cs : List (Nat × Nat)) : List Ent := cs.filterMap fun x => ((L.drop x.1).take (x.2 - x.1)).find? fun e => decide (e.seq ≤ s)
theorem firsts_next {L : List Ent} {s : Int} {cs : List (Nat × Nat)} {k f t : Nat} (h : cs[k]? = some (f, t)) : firsts L s (cs.take (k + 1)) = firsts L s (cs.take k) ++ ((((L.drop f).take (t - f)).find? fun e => decide (e.seq ≤ s)).toList) := by
  obtain ⟨hk, he⟩ := List.getElem?_eq_some_iff.1 h
  unfold firsts
  rw [List.take_succ_eq_append_getElem hk, List.filterMap_append, he]
  simp only [List.filterMap_cons, List.filterMap_nil]
  cases ((L.drop f).take (t - f)).find? fun e => decide (e.seq ≤ s) <;> rfl
theorem find_at {α : Type} {q : α → Bool} {x : α} : ∀ {L : List α} {i : Nat}, L[i]? = some x → q x = true → (∀ j y, j < i → L[j]? = some y → q y = false) → L.find? q = some x
  | [], i, h, _, _ => by simp at h
  | a :: l, 0, h, hq, _ => by simp at h; subst h; simp [hq]
  | a :: l, i + 1, h, hq, hno => by
    have h0 := hno 0 a (Nat.succ_pos _) rfl
    rw [List.find?_cons, h0]
    exact find_at (i := i) (by simpa using h) hq (fun j y hj hy => hno (j + 1) y (by omega) (by simpa using hy))
theorem firsts_len (L : List Ent) (s : Int) (cs : List (Nat × Nat)) : (firsts L s cs).length ≤ cs.length := List.length_filterMap_le _ _
theorem cuts_len (L : List Ent) : ∀ (r f i : Nat), (cuts L r f i).length ≤ r := by
  intro r
  induction r with
  | zero => intro f i; simp [cuts]
  | succ r ih =>
    intro f i
    rw [cuts]
    split
    · split
      · exact Nat.le_succ_of_le (ih _ _)
      · simpa using ih _ _
    · simpa using ih _ _
/-- What an entry's parts are bounded by. -/
structure Good (e : Ent) : Prop where
  bk : ∀ x ∈ e.key, x < 256
  bv : ∀ x ∈ e.val, x < 256
  s1 : -9223372036854775808 ≤ e.seq
  s2 : e.seq ≤ 9223372036854775807
  d1 : -9223372036854775808 ≤ e.kind
  d2 : e.kind ≤ 9223372036854775807
theorem Em.good {w : World} {lo hi : Nat} {e : Ent} {g : Hd} (h : Em w lo hi e g) : Good e := ⟨h.bk, h.bv, h.s1, h.s2, h.d1, h.d2⟩
/-- An entry of the call's own. -/
structure Mine (B : Nat) (p : Ent × Hd) (A : World) : Prop where
  k : Own B p.1.key (.slice p.2.kA p.1.key.length p.2.kc) A
  v : Own B p.1.val (.slice p.2.vA p.1.val.length p.2.vc) A
  good : Good p.1
theorem Mine.em {B : Nat} {p : Ent × Hd} {A : World} (h : Mine B p A) : Em A 0 A.heap.size p.1 p.2 := ⟨h.k.bs, h.v.bs, h.good.bk, h.good.bv, h.good.s1, h.good.s2, h.good.d1, h.good.d2⟩
theorem Mine.below {B : Nat} {p : Ent × Hd} {A A' : World} (h : Mine B p A) (hx : Ext A A') : Mine B p A' := ⟨h.k.below hx, h.v.below hx, h.good⟩
theorem Mine.base {B B' : Nat} {p : Ent × Hd} {A : World} (h : Mine B p A) (hB : B' ≤ B) : Mine B' p A := ⟨h.k.base hB, h.v.base hB, h.good⟩
theorem Mine.chg {B : Nat} {p : Ent × Hd} {A A' : World} {S : Nat → Prop} (h : Mine B p A) (hc : Chg S A A') (hS : ∀ k, B ≤ k → ¬ S k) : Mine B p A' := ⟨row_chg h.k hc hS, row_chg h.v hc hS, h.good⟩

/-- A row of entries in a box, each of them of the call's own. -/
structure Seen (B sb : Nat) (R : List (Ent × Hd)) (A : World) : Prop where
  ex : ∃ v, Boxed A sb 22 v ∧ A.ownsRow B 28 4 v R.length (erow R)
  each : ∀ p ∈ R, Mine B p A

theorem rowN_kept {w w' : World} {base s n : Nat} {e : TypeId} {v : Value} {xs : List Value} (h : w.ownsRow base e s v n xs) (hk : ∀ g, v.ownBlock = some g → w'.heap[g]? = w.heap[g]?) : w'.ownsRow base e s v n xs := by
  obtain ⟨h1, h2⟩ := h
  refine ⟨h1, ?_⟩
  rcases h2 with h2 | ⟨g, cap, cur, hv, hg, hh, r⟩
  · exact Or.inl h2
  · exact Or.inr ⟨g, cap, cur, hv, hg, (hk g (by rw [hv]; rfl)).trans hh, r⟩
theorem rowN_lt {w : World} {base s n : Nat} {e : TypeId} {v : Value} {xs : List Value} (h : w.ownsRow base e s v n xs) : ∀ g, v.ownBlock = some g → base ≤ g ∧ g < w.heap.size ∧ ∃ cur, w.heap[g]? = some (.cells cur e (0, 0)) := by
  intro g hg
  rcases h.2 with ⟨rfl, _⟩ | ⟨g', cap, cur, hv, hb, hh, r⟩
  · cases hg
  · rw [hv] at hg
    injection hg with hg
    subst hg
    exact ⟨hb, (Array.getElem?_eq_some_iff.1 hh).1, cur, hh⟩
theorem rowN_base {w : World} {b b' s n : Nat} {e : TypeId} {v : Value} {xs : List Value} (h : w.ownsRow b e s v n xs) (hb : b' ≤ b) : w.ownsRow b' e s v n xs := by
  obtain ⟨h1, h2⟩ := h
  refine ⟨h1, ?_⟩
  rcases h2 with h2 | ⟨g, cap, cur, hv, hg, hh, r⟩
  · exact Or.inl h2
  · exact Or.inr ⟨g, cap, cur, hv, Nat.le_trans hb hg, hh, r⟩
theorem rowN_slice {w : World} {base s n : Nat} {e : TypeId} {v : Value} {xs : List Value} (h : w.ownsRow base e s v n xs) : ∃ A c, v = .slice A n c := by
  rcases h.2 with ⟨rfl, rfl⟩ | ⟨g', cap, cur, hv, _⟩
  · exact ⟨none, 0, rfl⟩
  · exact ⟨_, _, hv⟩
/-- Rows of unlike things lie apart. -/
theorem rows_apart {w : World} {B B' s s' n n' : Nat} {e e' : TypeId} {v v' : Value} {xs xs' : List Value} (h : w.ownsRow B e s v n xs) (h' : w.ownsRow B' e' s' v' n' xs') (hne : e ≠ e') {g : Nat} (hg : v.ownBlock = some g) : v'.ownBlock ≠ some g := by
  intro hg'
  obtain ⟨_, _, c, hc⟩ := rowN_lt h g hg
  obtain ⟨_, _, c', hc'⟩ := rowN_lt h' g hg'
  rw [hc] at hc'
  injection hc' with hc'
  injection hc' with _ h2 _
  exact hne h2
theorem Seen.chg {B sb : Nat} {R : List (Ent × Hd)} {A A' : World} {S : Nat → Prop} (h : Seen B sb R A) (hc : Chg S A A') (hS : ∀ k, B ≤ k → ¬ S k) (hb : ¬ S sb) : Seen B sb R A' := by
  obtain ⟨v, h1, h2⟩ := h.ex
  exact ⟨⟨v, boxed_chg h1 hc hb, rowN_kept h2 fun g hg => hc.block g (rowN_lt h2 g hg).2.1 (hS g (rowN_lt h2 g hg).1)⟩, fun p hp => (h.each p hp).chg hc hS⟩
theorem Seen.base {B B' sb : Nat} {R : List (Ent × Hd)} {A : World} (h : Seen B sb R A) (hB : B' ≤ B) : Seen B' sb R A := by
  obtain ⟨v, h1, h2⟩ := h.ex
  exact ⟨⟨v, h1, rowN_base h2 hB⟩, fun p hp => (h.each p hp).base hB⟩

/-- A copy, as a value. -/
def CpOk (B : Nat) (e : Ent) (v : Value) (u : World) : Prop := ∃ g : Hd, v = e.at_ g ∧ Mine B (e, g) u
theorem Mono.cp (B : Nat) (e : Ent) : Mono (CpOk B e) := fun _ _ _ ⟨g, h, m⟩ hu => ⟨g, h, m.below hu⟩
/-- A literal of one entry. -/
def LtOk (B : Nat) (e : Ent) (v : Value) (u : World) : Prop := ∃ (g : Hd) (b : Nat), v = .slice (some ⟨b, 0, none⟩) 1 1 ∧ Mine B (e, g) u ∧ u.heap[b]? = some (.cells (ecells (e, g)).toArray 28 (0, 0))
theorem Mono.lt (B : Nat) (e : Ent) : Mono (LtOk B e) := fun _ _ _ ⟨g, b, h, m, hb⟩ hu => ⟨g, b, h, m.below hu, ext_heap hu hb⟩

/-- Between two rounds: what is seen of the first k pieces. -/
def LatI (T : List (Ent × Hd)) (s : Int) (lo hi bd : Nat) (w w3 : World) (n₁ k : Nat) (A : World) : Prop :=
  ∃ R, R.map Prod.fst = firsts (T.map Prod.fst) s ((cuts (T.map Prod.fst) T.length 0 0).take k) ∧ Seen n₁ (w.heap.size + 1) R A ∧ Kept lo hi bd w3 A ∧ w3.heap.size ≤ A.heap.size ∧ n₁ ≤ A.heap.size ∧ A.cell? ⟨w.heap.size, 0, none⟩ = some (.int .i64 s) ∧ Below w.heap.size w A
theorem LatI.chg {T : List (Ent × Hd)} {s : Int} {lo hi bd n₁ k : Nat} {w w3 A A' : World} (h : LatI T s lo hi bd w w3 n₁ k A) (hz : w.heap.size + 2 ≤ w3.heap.size) (hc : Chg (Btw w3.heap.size n₁) A A') : LatI T s lo hi bd w w3 n₁ k A' := by
  obtain ⟨R, hR, hS, hK, hz0, hz1, hs, hb⟩ := h
  refine ⟨R, hR, hS.chg hc (fun i hi hb => by have := hb.2; omega) (fun hb => by have := hb.1; omega), fun i hi hlt => ?_, Nat.le_trans hz0 hc.size, Nat.le_trans hz1 hc.size, ?_, hb.trans (hc.below (fun i hb => by have := hb.1; omega) hb.size)⟩
  · exact (hc.block i (Nat.lt_of_lt_of_le hlt hz0) (fun hb => by have := hb.1; omega)).trans (hK i hi hlt)
  · rw [World.cell?_of_block (w := A) (a := ⟨w.heap.size, 0, none⟩) (hc.block w.heap.size (by omega) (fun hb => by have := hb.1; omega))]; exact hs

end Go.Proofs.YtepaaffebhinlaaDoor

/- Going over what Latest saw. -/
namespace Go.Proofs.YtepaaffebhinlaaDoor
open Go.RowKit Go.Shelf
attribute [local go_sem] Oper.semAt_some

/-- The row in the box, its value named. -/
structure SeenV (B sb : Nat) (v : Value) (R : List (Ent × Hd)) (A : World) : Prop where
  box : Boxed A sb 22 v
  row : A.ownsRow B 28 4 v R.length (erow R)
  each : ∀ p ∈ R, Mine B p A
theorem SeenV.chg {B sb : Nat} {v : Value} {R : List (Ent × Hd)} {A A' : World} {S : Nat → Prop} (h : SeenV B sb v R A) (hc : Chg S A A') (hS : ∀ k, B ≤ k → ¬ S k) (hb : ¬ S sb) : SeenV B sb v R A' :=
  ⟨boxed_chg h.box hc hb, rowN_kept h.row fun g hg => hc.block g (rowN_lt h.row g hg).2.1 (hS g (rowN_lt h.row g hg).1), fun p hp => (h.each p hp).chg hc hS⟩
theorem SeenV.ext {B sb : Nat} {v : Value} {R : List (Ent × Hd)} {A A' : World} (h : SeenV B sb v R A) (hx : Ext A A') : SeenV B sb v R A' := h.chg (S := fun _ => False) (Chg.of_ext hx) (fun _ _ h => h) (fun h => h)
theorem rowE_sl {A : World} {B n c : Nat} {X : Option Addr} {R : List (Ent × Hd)} (h : A.ownsRow B 28 4 (.slice X n c) n (erow R)) : Sl A 0 A.heap.size X (erow R) := by
  rcases h.2 with ⟨he, rfl⟩ | ⟨g, cap, cur, he, hb, hh, hn, hm, hcs, hx⟩
  · left
    exact List.eq_nil_of_length_eq_zero (by simpa using h.1)
  · injection he with he _ _
    subst he
    refine .inr ⟨g, 0, rfl, Nat.zero_le _, (Array.getElem?_eq_some_iff.1 hh).1, fun i u hu => ?_⟩
    rw [Nat.zero_add, cell_of_row A g i cur _ (0, 0) hh]
    rw [← hx, List.getElem?_take] at hu
    split at hu
    · rw [← Array.getElem?_toList]; exact hu
    · cases hu
theorem SeenV.es {B sb n c : Nat} {X : Option Addr} {R : List (Ent × Hd)} {A : World} (h : SeenV B sb (.slice X n c) R A) : Es A 0 A.heap.size X R := by
  have hn : n = R.length := by
    obtain ⟨A', c', e⟩ := rowN_slice h.row
    injection e
  subst hn
  exact ⟨rowE_sl h.row, fun p hp => (h.each p hp).em⟩

/-- Of the k-th: it, in memory of its own. -/
def SeqOk (R : List (Ent × Hd)) (n₁ k : Nat) (x : Ent × Hd) (A : World) : Prop := ∃ p, R[k]? = some p ∧ x.1 = p.1 ∧ Mine n₁ x A
def seqV (x : Ent × Hd) : Array Value := #[x.1.at_ x.2]
end Go.Proofs.YtepaaffebhinlaaDoor

/- A row of towers, gone over. -/
namespace Go.Proofs.YtepaaffebhinlaaDoor
open Go.ChangeShapes Go.WideShapes Go.ChangeAt Go.RowKit Go.Shelf
attribute [local go_sem] Oper.semAt_some

theorem last_ex {H : List Tw} {t0 : Tw} {n : Nat} (h0 : H[0]? = some t0) (hn : n < t0.h) : ∀ p, 0 < p → ∃ i, LastAt H p n i
  | 0, h => absurd h (Nat.lt_irrefl _)
  | 1, _ => ⟨0, by decide, ⟨t0, h0, hn⟩, fun j t h1 h2 _ => by omega⟩
  | p + 2, _ => by
    obtain ⟨i, hi⟩ := last_ex h0 hn (p + 1) (Nat.succ_pos _)
    by_cases hx : ∃ t, H[p + 1]? = some t ∧ n < t.h
    · exact ⟨p + 1, Nat.lt_succ_self _, hx, fun j t h1 h2 _ => by omega⟩
    · refine ⟨i, Nat.lt_succ_of_lt hi.lt, hi.at_, fun j t h1 h2 h3 => ?_⟩
      rcases Nat.lt_or_ge j (p + 1) with h | h
      · exact hi.last j t h1 h h3
      · have : j = p + 1 := by omega
        subst this
        rcases Nat.lt_or_ge n t.h with h4 | h4
        · exact absurd ⟨t, h3, h4⟩ hx
        · exact h4
theorem LastAt.unique {H : List Tw} {p n i j : Nat} (h : LastAt H p n i) (k : LastAt H p n j) : i = j := by
  obtain ⟨t, ht, hn⟩ := h.at_
  obtain ⟨u, hu, hm⟩ := k.at_
  rcases Nat.lt_trichotomy i j with hlt | he | hgt
  · have := h.last j u hlt k.lt hu; omega
  · exact he
  · have := k.last i t hgt h.lt ht; omega
theorem before_at {w : World} {D : Nat → Prop} {lb hb gf : Nat} {caps : Array Value} {T : List Tw} {q : Ent → Bool} (h : Sk w D lb hb T) (hA : AheadFn w gf caps q) (hq : (T.map Tw.e).Pairwise fun a b => q b = true → q a = true)
    {f : Nat → Nat} (hf : ∀ n, n < 8 → LastAt (headT hb :: T) (1 + cutOf q (T.map Tw.e)) n (f n)) :
    Calls Tryd.prog 35 #[.pointer (some ⟨lb, 0, none⟩), .func (.func gf) #[] caps] w fun e w' => e = .returned (.agg #[.pointer (some ⟨bAt (headT hb :: T) (f 0), 0, none⟩), .pointer (some ⟨bAt (headT hb :: T) (f 1), 0, none⟩), .pointer (some ⟨bAt (headT hb :: T) (f 2), 0, none⟩), .pointer (some ⟨bAt (headT hb :: T) (f 3), 0, none⟩), .pointer (some ⟨bAt (headT hb :: T) (f 4), 0, none⟩), .pointer (some ⟨bAt (headT hb :: T) (f 5), 0, none⟩), .pointer (some ⟨bAt (headT hb :: T) (f 6), 0, none⟩), .pointer (some ⟨bAt (headT hb :: T) (f 7), 0, none⟩)]) ∧ Ext w w' := by
  refine (before_any h hA hq).mono ?_
  rintro e w' ⟨hx, f', hf', rfl⟩
  refine ⟨?_, hx⟩
  have he : ∀ n, n < 8 → f' n = f n := fun n hn => (hf' n hn).unique (hf n hn)
  rw [he 0 (by decide), he 1 (by decide), he 2 (by decide), he 3 (by decide), he 4 (by decide), he 5 (by decide), he 6 (by decide), he 7 (by decide)]

theorem Own.bs_lt {B N : Nat} {l : List Nat} {v : Value} {w : World} (h : Own B l v w) (hN : ∀ k, v.ownBlock = some k → k < N) : Bs w 0 N v l := by
  obtain ⟨A, c, rfl, h1, h2, h3, h4⟩ := h.bs
  refine ⟨A, c, rfl, h1, h2, h3, ?_⟩
  rcases h4 with h4 | ⟨b, o, rfl, _, _, hc⟩
  · exact .inl h4
  · exact .inr ⟨b, o, rfl, Nat.zero_le _, hN b rfl, hc⟩

/-- row makes a function over the list. -/
theorem srow_any (d : Option Addr) (n : Int) (gf : Nat) (caps : Array Value) (w : World) : Calls Tryd.prog 40 #[.pointer d, .int .i64 n, .func (.func gf) #[] caps] w fun e w' =>
    e = .returned (.func (.func 52) #[] #[.pointer (some ⟨w.heap.size, 0, none⟩), .pointer (some ⟨w.heap.size + 1, 0, none⟩), .pointer (some ⟨w.heap.size + 2, 0, none⟩)]) ∧
    w' = ((w.alloc (.cells #[.pointer d] 29)).alloc (.cells #[.int .i64 n] 3)).alloc (.cells #[.func (.func gf) #[] caps] 64) := by
  go_enter Tryd.func40, Tryd.ntmps40
  go_wp2
  go_ret
  exact ⟨rfl, rfl⟩
theorem enters_row1 : ∀ args w, (callFunc 52 args).run Tryd.prog w = .ok (.enter 52 args) w := enters_of Tryd.func52 (by kernel_rfl) rfl

def rowV (x : Ent × Hd) : Array Value := #[x.1.at_ x.2]
/-- Of the k-th: it, in the list's own memory. -/
def RowOk (L : List Tw) (N : Nat) (_n₁ k : Nat) (x : Ent × Hd) (A : World) : Prop := ∃ t, L[k]? = some t ∧ x.1 = t.e ∧ Em A 0 N x.1 x.2
/-- What is gone over. -/
def rowOf (T : List Tw) (q : Ent → Bool) (n : Nat) : List Tw := (T.drop (cutOf q (T.map Tw.e))).filter fun t => decide (n < t.h)
/-- What the one who goes over it promises. -/
def RowC (w : World) (D : Nat → Prop) (b0 b1 b2 : Nat) (A : World) : Prop := ∀ k, D k ∨ (k = b1 ∨ k = b0 ∨ k = b2) → k < w.heap.size → A.heap[k]? = w.heap[k]?

set_option maxRecDepth 100000 in
set_option maxHeartbeats 8000000 in
theorem row_iterN {N : Nat} {w : World} {D : Nat → Prop} {lb hb gf b0 b1 b2 n : Nat} {caps : Array Value} {T : List Tw} {q : Ent → Bool} (h : Sk w D lb hb T) (hA : AheadFn w gf caps q) (hq : (T.map Tw.e).Pairwise fun a b => q b = true → q a = true) (hn : n < 8) (hN : ∀ k, D k → k < w.heap.size → k < N)
    (x0 : w.cell? ⟨b0, 0, none⟩ = some (.pointer (some ⟨lb, 0, none⟩))) (x1 : w.cell? ⟨b1, 0, none⟩ = some (.int .i64 (n : Int))) (x2 : w.cell? ⟨b2, 0, none⟩ = some (.func (.func gf) #[] caps)) :
    Iter Tryd.prog 52 #[.pointer (some ⟨b0, 0, none⟩), .pointer (some ⟨b1, 0, none⟩), .pointer (some ⟨b2, 0, none⟩)] (rowOf T q n).length rowV (RowOk (rowOf T q n) N) (RowC w D b0 b1 b2) w := by
  have HNB := Lib.hid hN
  clear hN
  intro mm l J Jx W hx hC hJ hJx h0 hY
  obtain ⟨HH, hHH⟩ : ∃ HH, HH = headT hb :: T := ⟨_, rfl⟩
  obtain ⟨p, hp⟩ : ∃ p, p = 1 + cutOf q (T.map Tw.e) := ⟨_, rfl⟩
  obtain ⟨L0, hL0⟩ : ∃ L0, L0 = rowOf T q n := ⟨_, rfl⟩
  obtain ⟨LL, hLL⟩ : ∃ LL, LL = L0.length := ⟨_, rfl⟩
  rw [← hL0] at hY ⊢
  have HLN := Lib.hid hLL
  have HHH := Lib.hid hHH
  have HP := Lib.hid hp
  have HL0 : Hid (L0 = (HH.drop p).filter fun t => decide (n < t.h)) := by unfold Hid; rw [hL0, hHH, hp, Nat.add_comm, List.drop_succ_cons]; rfl
  have HLL := Lib.hid hLL
  have HSW := Lib.hid h
  have HCHW : Hid (Chain w D T.length HH) := by rw [hHH]; exact h.chain
  have HS := Lib.hid (h.ext hx)
  have HAF := Lib.hid (hA.ext hx)
  have HPQ := Lib.hid hq
  have HN8 := Lib.hid hn
  have HC := Lib.hid hC
  have HJ := Lib.hid hJ
  have HJX := Lib.hid hJx
  have H0 := Lib.hid h0
  have HY := Lib.hid hY
  have HX1 := Lib.hid x1
  have HPL : Hid (1 ≤ p) := by unfold Hid; omega
  have hch : ∀ k, ∃ i, k < 8 → LastAt HH p k i := fun k => by
    by_cases hk : k < 8
    · obtain ⟨i, hi⟩ := last_ex (H := HH) (t0 := headT hb) (n := k) (by rw [hHH]; rfl) hk p HPL.out
      exact ⟨i, fun _ => hi⟩
    · exact ⟨0, fun h => absurd h hk⟩
  obtain ⟨f, hf⟩ := Classical.axiomOfChoice hch
  have HF : Hid (∀ k, k < 8 → LastAt HH p k (f k)) := hf
  obtain ⟨hfp, ⟨tl, htl, hth⟩, hlast⟩ := hf n hn
  have HIX : Hid (∀ W, (Instr.index 61 (.agg #[.pointer (some ⟨bAt HH (f 0), 0, none⟩), .pointer (some ⟨bAt HH (f 1), 0, none⟩), .pointer (some ⟨bAt HH (f 2), 0, none⟩), .pointer (some ⟨bAt HH (f 3), 0, none⟩), .pointer (some ⟨bAt HH (f 4), 0, none⟩), .pointer (some ⟨bAt HH (f 5), 0, none⟩), .pointer (some ⟨bAt HH (f 6), 0, none⟩), .pointer (some ⟨bAt HH (f 7), 0, none⟩)]) (.int .i64 (n : Int))).run Tryd.prog W = .ok (.pointer (some ⟨tl.b, 0, none⟩)) W) := fun W => by
    have := arr_index hn (fun k => some ⟨bAt HH (f k), 0, none⟩) W
    rw [bAt_of htl] at this
    exact this
  obtain ⟨v6, hv6⟩ : ∃ v6, v6 = optp (nxt n (HH.drop p)) := ⟨_, rfl⟩
  have HV6 := Lib.hid hv6
  have hnp : nxt n (HH.drop (f n + 1)) = nxt n (HH.drop p) := by
    have e : HH.drop (f n + 1) = (HH.drop (f n + 1)).take (p - (f n + 1)) ++ HH.drop p := by
      rw [show HH.drop p = (HH.drop (f n + 1)).drop (p - (f n + 1)) by rw [List.drop_drop]; congr 1; omega]
      exact (List.take_append_drop _ _).symm
    rw [e, nxt_append]
    intro v hv
    obtain ⟨k, hk⟩ := List.mem_iff_getElem?.1 hv
    have hkl : k < p - (f n + 1) := by have := (List.getElem?_eq_some_iff.1 hk).1; rw [List.length_take] at this; omega
    rw [List.getElem?_take, if_pos hkl, List.getElem?_drop] at hk
    exact hlast (f n + 1 + k) v (by omega) (by omega) hk
  obtain ⟨_, gl, bl, hbl, _⟩ := HCHW.out (f n) tl htl
  have qn : W.cell? ⟨tl.b, 5 + n, none⟩ = some v6 := ext_cell hx (cell_of hbl ((tcells_next _ _ _ _ hn).trans (by unfold nextOf; rw [if_pos hth, hnp, hv6])))
  have x0 := ext_cell hx x0
  have x1 := ext_cell hx x1
  have x2 := ext_cell hx x2
  have hlc := cell_of (v := .int .i64 (T.length : Int)) (h.ext hx).list (k := 1) rfl
  have HNN := Lib.hid (none_no (h.ext hx).list)
  have n1 : (0 : Int) ≤ (n : Int) := by omega
  have n2 : (n : Int) < 8 := by omega
  have n3 : n < 8 := hn
  have dl1 : decide ((n : Int) < 0) = false := by simp
  have dl2 : decide ((8 : Int) ≤ (n : Int)) = false := by simp; omega
  clear h hA hq hn hC hJ hJx h0 hY hHH hp hL0 hLL hch hf hfp htl hth hlast hv6 hnp hbl
  go_enter Tryd.func52, Tryd.ntmps52
  go_wp2_with fail
  refine Calls.mono HNN.out ?_
  rintro e w' ⟨rfl, hw'⟩
  have hw' := hw'.symm
  subst hw'
  go_upto_region 2 with (fail)
  rename_i K hK
  have HKK := Lib.hid hK
  clear hK
  refine flow (by kernel_rfl) [Is (.pointer (some ⟨lb, 0, none⟩)), Is (.func (.func gf) #[] caps), Is (.agg #[.pointer (some ⟨bAt HH (f 0), 0, none⟩), .pointer (some ⟨bAt HH (f 1), 0, none⟩), .pointer (some ⟨bAt HH (f 2), 0, none⟩), .pointer (some ⟨bAt HH (f 3), 0, none⟩), .pointer (some ⟨bAt HH (f 4), 0, none⟩), .pointer (some ⟨bAt HH (f 5), 0, none⟩), .pointer (some ⟨bAt HH (f 6), 0, none⟩), .pointer (some ⟨bAt HH (f 7), 0, none⟩)]), Is (.int .i64 (n : Int)), Is (.pointer (some ⟨tl.b, 0, none⟩)), Is (.int .i64 (n : Int)), Is (.pointer (some ⟨tl.b, 0, none⟩)), Is (.pointer (some ⟨tl.b, 5, none⟩)), Is (.pointer (some ⟨tl.b, 5 + n, none⟩)), Is (v6), Is (v6)] (by kernel_rfl) (by kernel_rfl) ?mono2 (fun f1 => ?obl2) ?fin2
  case mono2 =>
    simp only [List.forall_mem_cons, List.not_mem_nil, false_imp_iff, implies_true, and_true]
    exact ⟨.is _, .is _, .is _, .is _, .is _, .is _, .is _, .is _, .is _, .is _, .is _⟩
  case fin2 =>
    intro g2 u hu hg
    simp only [puts, Act.put, List.setIfInBounds_toArray, List.set_cons_zero, List.set_cons_succ]
    have e10 : g2 10 = v6 := hg 10 (by decide)
    rw [e10]
    have HU := Lib.hid (Ext.trans (Ext.drew W) hu)
    have HJ0 := Lib.hid (H0.out u HU.out)
    clear hu hg e10 x0 x1 x2 qn hlc
    refine HKK.out _ _ ?_
    refine (wpIn_wide (n := 6)).1 ?_
    gi_wp2
    gi_loopg [6] (LL + 1) (fun k x wr => ∃ (j : Nat) (S : List Tw), x = optp (nxt n S) ∧ Hid (k = (S.filter fun t => decide (n < t.h)).length + 1) ∧ Hid (j + (S.filter fun t => decide (n < t.h)).length = LL) ∧ Hid (L0.drop j = S.filter fun t => decide (n < t.h)) ∧ Hid (∃ i, p ≤ i ∧ S = HH.drop i) ∧ Hid (J u.heap.size j wr) ∧ Hid (Step W.heap.size u.heap.size u wr))
    case atStart => exact ⟨0, HH.drop p, HV6.out, by unfold Hid; rw [HLL.out, HL0.out], by unfold Hid; rw [HLL.out, HL0.out]; omega, by unfold Hid; rw [HL0.out, List.drop_zero], ⟨p, Nat.le_refl _, rfl⟩, HJ0, Step.refl _ _ _⟩
    case round =>
      obtain ⟨j, S, rfl, HGK, HJL, HDR, HSX, HJJ, HST⟩ := hrel
      have HCW := Lib.hid (HC.out _ _ _ HJJ.out)
      cases hnx : nxt n S with
      | none =>
        have hem : (S.filter fun t => decide (n < t.h)) = [] := by
          rw [List.filter_eq_nil_iff]
          intro t ht
          have := nxt_none hnx t ht
          simp; omega
        have HJE : Hid (j = LL) := by have := HJL.out; rw [hem] at this; unfold Hid; simpa using this
        clear hnx hem
        dsimp only [optp]
        gi_wp2
        go_end0
        exact ⟨⟨_, rfl⟩, .inl ⟨_, HU.out.size, by have := HJJ.out; rw [HJE.out, HLN.out] at this; exact this⟩⟩
      | some tb =>
        obtain ⟨i0, hi0, hS⟩ := HSX.out
        obtain ⟨jj, t, hjj, htb, htn, hbt⟩ := nxt_some hnx
        subst htb
        have hsplit : S = S.take jj ++ t :: S.drop (jj + 1) := by
          have h1 := (List.getElem?_eq_some_iff.1 hjj)
          obtain ⟨hl, he⟩ := h1
          rw [← he]
          exact (List.take_append_drop jj S).symm.trans (by rw [List.drop_eq_getElem_cons hl])
        have hpre : (S.take jj).filter (fun t => decide (n < t.h)) = [] := by
          rw [List.filter_eq_nil_iff]
          intro v hv
          obtain ⟨k, hk⟩ := List.mem_iff_getElem?.1 hv
          have hkl : k < jj := by have := (List.getElem?_eq_some_iff.1 hk).1; rw [List.length_take] at this; omega
          rw [List.getElem?_take, if_pos hkl] at hk
          have := hbt k v hkl hk
          simp; omega
        have hfil : (S.filter fun t => decide (n < t.h)) = t :: (S.drop (jj + 1)).filter (fun t => decide (n < t.h)) := by
          conv => lhs; rw [hsplit]
          rw [List.filter_append, hpre, List.nil_append, List.filter_cons, if_pos (by simpa using htn)]
        have hti : HH[i0 + jj]? = some t := by rw [hS, List.getElem?_drop] at hjj; exact hjj
        have hSd : S.drop (jj + 1) = HH.drop (i0 + jj + 1) := by rw [hS, List.drop_drop]; rfl
        have hTm := HCHW.out (i0 + jj) t hti
        have hins : InE t.e := by
          rw [HHH.out] at hti
          have h1 := HPL.out
          obtain ⟨q, hq⟩ : ∃ q, i0 + jj = q + 1 := ⟨i0 + jj - 1, by omega⟩
          rw [hq, List.getElem?_cons_succ] at hti
          exact HSW.out.ins t (List.mem_of_getElem? hti)
        obtain ⟨hDt, g, born, hb, hb0, hbl, hok, hov, hkk, hkv⟩ := hTm
        have hbl : born < (T.length : Int) := hbl.resolve_left (fun e => by have := hins.s.1; rw [e] at this; simp at this)
        have hlt : t.b < w.heap.size := (Array.getElem?_eq_some_iff.1 hb).1
        have hbr := (HCW.out t.b (.inl hDt) hlt).trans hb
        have hoR : Own 0 t.e.key (.slice g.kA t.e.key.length g.kc) wr := row_kept hok fun q hq => HCW.out q (.inl (hkk q hq)) (row_lt hok q hq).2
        have hvR : Own 0 t.e.val (.slice g.vA t.e.val.length g.vc) wr := row_kept hov fun q hq => HCW.out q (.inl (hkv q hq)) (row_lt hov q hq).2
        have hem : Em wr 0 N t.e g := by
          obtain ⟨a1, a2, a3, a4, a5⟩ := hins.s
          exact ⟨hoR.bs_lt fun q hq => HNB.out q (hkk q hq) (row_lt hok q hq).2, hvR.bs_lt fun q hq => HNB.out q (hkv q hq) (row_lt hov q hq).2, hins.bk, hins.bv, by omega, by omega, by rcases a5 with ⟨a, _⟩ | ⟨a, _⟩ <;> omega, by rcases a5 with ⟨a, _⟩ | ⟨a, _⟩ <;> omega⟩
        have hjlt : j < LL := by have := HJL.out; rw [hfil] at this; simp at this; omega
        have hLj : L0[j]? = some t := by
          have := HDR.out
          rw [hfil] at this
          have h1 : (L0.drop j)[0]? = some t := by rw [this]; rfl
          rw [List.getElem?_drop] at h1; exact h1
        have hY := HY.out u.heap.size j (t.e, g) wr HU.out.size HST.out.size HJJ.out (by rw [← HLN.out]; exact hjlt) ⟨t, hLj, rfl, hem⟩
        obtain ⟨fn, tmps, assign, body, hy, hR⟩ := hY
        dsimp only [rowV, Ent.at_] at hy
        have HR := Lib.hid (roundIn_any (m' := 5) hR)
        have HNXT : Hid (nextOf t (HH.drop (i0 + jj + 1)) n = optp (nxt n (S.drop (jj + 1)))) := by unfold Hid nextOf; rw [if_pos htn, hSd]
        have HFIL := Lib.hid hfil
        have HBW := Lib.hid hb
        have HDT := Lib.hid (And.intro hDt hlt)
        have HJLT := Lib.hid hjlt
        have HSX2 : Hid (∃ i, p ≤ i ∧ S.drop (jj + 1) = HH.drop i) := ⟨i0 + jj + 1, by omega, hSd⟩
        have d0 := cell_of (v := .slice g.kA t.e.key.length g.kc) hbr (k := 0) rfl
        have d1 := cell_of (v := .int .i64 t.e.seq) hbr (k := 1) rfl
        have d2 := cell_of (v := .int .i64 t.e.kind) hbr (k := 2) rfl
        have d3 := cell_of (v := .slice g.vA t.e.val.length g.vc) hbr (k := 3) rfl
        have d4 := cell_of (v := .int .i64 born) hbr (k := 4) rfl
        have db : decide (born < (T.length : Int)) = true := decide_eq_true hbl
        clear hnx hi0 hS hjj htn hbt hsplit hpre hfil hti hSd hins hDt hb hb0 hbl hok hov hkk hkv hlt hbr hoR hvR hem hjlt hLj hR
        dsimp only [optp]
        gi_wp2_with fail
        refine RoundIn.mono HR.out ?_
        rintro x W3 ⟨hst, (⟨rfl, hj⟩ | ⟨rfl, hjx⟩)⟩
        · have HST3 := Lib.hid (HST.out.trans hst)
          have HJ3 := Lib.hid hj
          have HCW3 := Lib.hid (HC.out _ _ _ hj)
          have hbr3 := (HCW3.out t.b (.inl HDT.out.1) HDT.out.2).trans HBW.out
          have qn : W3.cell? ⟨t.b, 5 + n, none⟩ = some (optp (nxt n (S.drop (jj + 1)))) := cell_of hbr3 ((tcells_next _ _ _ _ HN8.out).trans (by rw [HNXT.out]))
          have x1 : W3.cell? ⟨b1, 0, none⟩ = some (.int .i64 (n : Int)) := (World.cell?_of_block (w := w) (a := ⟨b1, 0, none⟩) (HCW3.out b1 (.inr (.inl rfl)) (World.block_lt_of_cell? _ _ HX1.out))).trans HX1.out
          have n1 : (0 : Int) ≤ (n : Int) := by omega
          have n2 : (n : Int) < 8 := by have := HN8.out; omega
          have n3 : n < 8 := HN8.out
          obtain ⟨vn, hvn⟩ : ∃ vn, vn = optp (nxt n (S.drop (jj + 1))) := ⟨_, rfl⟩
          have HVN := Lib.hid hvn
          rw [← hvn] at qn
          clear hst hj hy d0 d1 d2 d3 d4 db hbr3 hvn
          gi_wp2_with fail
          rename_i Kr hKr
          have HKR := Lib.hid hKr
          clear hKr
          refine wpIn_wide.2 ?_
          refine flow (by kernel_rfl) [Is (.pointer (some ⟨t.b, 0, none⟩)), Is (.int .i64 (n : Int)), Is (.pointer (some ⟨t.b, 0, none⟩)), Is (.pointer (some ⟨t.b, 5, none⟩)), Is (.pointer (some ⟨t.b, 5 + n, none⟩)), Is (vn), Is (vn)] (by kernel_rfl) (by kernel_rfl) ?mono4 (fun f1 => ?obl4) ?fin4
          case mono4 =>
            simp only [List.forall_mem_cons, List.not_mem_nil, false_imp_iff, implies_true, and_true]
            exact ⟨.is _, .is _, .is _, .is _, .is _, .is _, .is _⟩
          case fin4 =>
            intro g4 u4 hu hg
            simp only [puts, Act.put, List.setIfInBounds_toArray, List.set_cons_zero, List.set_cons_succ]
            have e6 : g4 6 = vn := hg 6 (by decide)
            rw [e6]
            have HU4 := Lib.hid (Ext.trans (Ext.drew W3) hu)
            have HJ4 := Lib.hid (HJ.out _ _ _ _ HU.out.size HJ3.out (Chg.of_ext HU4.out))
            have HST4 := Lib.hid (HST3.out.trans (Step.of_chg (S := fun _ => False) (Chg.of_ext HU4.out) HST3.out.size (fun _ _ _ h => h)))
            clear hu hg e6 x1 qn
            refine HKR.out _ _ ?_
            gi_roundg (((S.drop (jj + 1)).filter (fun t => decide (n < t.h))).length + 1)
            case measure => have := HGK.out; rw [HFIL.out] at this; simp at this; omega
            case rel =>
              refine ⟨j + 1, S.drop (jj + 1), HVN.out, rfl, ?_, ?_, HSX2.out, HJ4.out, HST4.out⟩
              · have := HJL.out; rw [HFIL.out] at this; simp at this; unfold Hid; omega
              · unfold Hid; rw [← List.drop_drop, HDR.out, HFIL.out]; rfl
          case obl4 =>
            refine ⟨fun u hu hd => ?_, ?_⟩
            · go_simp
              exact ⟨Ext.refl _, rfl⟩
            refine ⟨fun u hu hd => ?_, ?_⟩
            · simp only [Act.put, List.setIfInBounds_toArray, List.set_cons_zero, List.set_cons_succ]
              have hu2 := Ext.trans (Ext.drew W3) hu
              have q0 := ext_cell hu2 x1
              go_simp
              exact ⟨Ext.refl _, rfl⟩
            refine ⟨fun u hu hd => ?_, ?_⟩
            · simp only [Act.put, List.setIfInBounds_toArray, List.set_cons_zero, List.set_cons_succ]
              have e0 : f1 0 = .pointer (some ⟨t.b, 0, none⟩) := hd 0 (by kernel_rfl)
              go_simp
              exact ⟨Ext.refl _, rfl⟩
            refine ⟨fun u hu hd => ?_, ?_⟩
            · simp only [Act.put, List.setIfInBounds_toArray, List.set_cons_zero, List.set_cons_succ]
              have e2 : f1 2 = .pointer (some ⟨t.b, 0, none⟩) := hd 2 (by kernel_rfl)
              go_simp
              exact ⟨Ext.refl _, rfl⟩
            refine ⟨fun u hu hd => ?_, ?_⟩
            · simp only [Act.put, List.setIfInBounds_toArray, List.set_cons_zero, List.set_cons_succ]
              have e3 : f1 3 = .pointer (some ⟨t.b, 5, none⟩) := hd 3 (by kernel_rfl)
              have e1 : f1 1 = .int .i64 (n : Int) := hd 1 (by kernel_rfl)
              go_simp
              exact ⟨Ext.refl _, rfl⟩
            refine ⟨fun u hu hd => ?_, ?_⟩
            · simp only [Act.put, List.setIfInBounds_toArray, List.set_cons_zero, List.set_cons_succ]
              have e4 : f1 4 = .pointer (some ⟨t.b, 5 + n, none⟩) := hd 4 (by kernel_rfl)
              have hu2 := Ext.trans (Ext.drew W3) hu
              have q0 := ext_cell hu2 qn
              go_simp
              exact ⟨Ext.refl _, rfl⟩
            refine ⟨fun u hu hd => ?_, ?_⟩
            · simp only [Act.put, List.setIfInBounds_toArray, List.set_cons_zero, List.set_cons_succ]
              have e5 : f1 5 = vn := hd 5 (by kernel_rfl)
              go_simp
              exact ⟨Ext.refl _, rfl⟩
            trivial
        · have HX3 := Lib.hid hjx
          clear hst hjx hy d0 d1 d2 d3 d4 db
          gi_wp2
          refine bodyPost_ret (results_none rfl _ _ _) rfl ?_
          exact ⟨⟨_, rfl⟩, .inr HX3.out⟩
  case obl2 =>
    refine ⟨fun u hu hd => ?_, ?_⟩
    · have hu2 := Ext.trans (Ext.drew W) hu
      have q0 := ext_cell hu2 x0
      go_simp
      exact ⟨Ext.refl _, rfl⟩
    refine ⟨fun u hu hd => ?_, ?_⟩
    · simp only [Act.put, List.setIfInBounds_toArray, List.set_cons_zero, List.set_cons_succ]
      have hu2 := Ext.trans (Ext.drew W) hu
      have q0 := ext_cell hu2 x2
      go_simp
      exact ⟨Ext.refl _, rfl⟩
    refine ⟨fun u hu hd => ?_, ?_⟩
    · simp only [Act.put, List.setIfInBounds_toArray, List.set_cons_zero, List.set_cons_succ]
      have e0 : f1 0 = .pointer (some ⟨lb, 0, none⟩) := hd 0 (by kernel_rfl)
      have e1 : f1 1 = .func (.func gf) #[] caps := hd 1 (by kernel_rfl)
      have hux := Ext.trans (Ext.drew W) hu
      go_simp
      refine (before_at (HS.out.ext hux) (HAF.out.ext hux) HPQ.out (f := f) (by rw [← HHH.out, ← HP.out]; exact HF.out)).mono ?_
      rw [← HHH.out]
      rintro x9 w9 ⟨rfl, hx9⟩
      exact ⟨_, rfl, hx9, rfl⟩
    refine ⟨fun u hu hd => ?_, ?_⟩
    · simp only [Act.put, List.setIfInBounds_toArray, List.set_cons_zero, List.set_cons_succ]
      have hu2 := Ext.trans (Ext.drew W) hu
      have q0 := ext_cell hu2 x1
      go_simp
      exact ⟨Ext.refl _, rfl⟩
    refine ⟨fun u hu hd => ?_, ?_⟩
    · simp only [Act.put, List.setIfInBounds_toArray, List.set_cons_zero, List.set_cons_succ]
      have e2 : f1 2 = .agg #[.pointer (some ⟨bAt HH (f 0), 0, none⟩), .pointer (some ⟨bAt HH (f 1), 0, none⟩), .pointer (some ⟨bAt HH (f 2), 0, none⟩), .pointer (some ⟨bAt HH (f 3), 0, none⟩), .pointer (some ⟨bAt HH (f 4), 0, none⟩), .pointer (some ⟨bAt HH (f 5), 0, none⟩), .pointer (some ⟨bAt HH (f 6), 0, none⟩), .pointer (some ⟨bAt HH (f 7), 0, none⟩)] := hd 2 (by kernel_rfl)
      have e3 : f1 3 = .int .i64 (n : Int) := hd 3 (by kernel_rfl)
      have hix := HIX.out
      go_simp
      exact ⟨Ext.refl _, rfl⟩
    refine ⟨fun u hu hd => ?_, ?_⟩
    · simp only [Act.put, List.setIfInBounds_toArray, List.set_cons_zero, List.set_cons_succ]
      have hu2 := Ext.trans (Ext.drew W) hu
      have q0 := ext_cell hu2 x1
      go_simp
      exact ⟨Ext.refl _, rfl⟩
    refine ⟨fun u hu hd => ?_, ?_⟩
    · simp only [Act.put, List.setIfInBounds_toArray, List.set_cons_zero, List.set_cons_succ]
      have e4 : f1 4 = .pointer (some ⟨tl.b, 0, none⟩) := hd 4 (by kernel_rfl)
      go_simp
      exact ⟨Ext.refl _, rfl⟩
    refine ⟨fun u hu hd => ?_, ?_⟩
    · simp only [Act.put, List.setIfInBounds_toArray, List.set_cons_zero, List.set_cons_succ]
      have e6 : f1 6 = .pointer (some ⟨tl.b, 0, none⟩) := hd 6 (by kernel_rfl)
      go_simp
      exact ⟨Ext.refl _, rfl⟩
    refine ⟨fun u hu hd => ?_, ?_⟩
    · simp only [Act.put, List.setIfInBounds_toArray, List.set_cons_zero, List.set_cons_succ]
      have e7 : f1 7 = .pointer (some ⟨tl.b, 5, none⟩) := hd 7 (by kernel_rfl)
      have e5 : f1 5 = .int .i64 (n : Int) := hd 5 (by kernel_rfl)
      go_simp
      exact ⟨Ext.refl _, rfl⟩
    refine ⟨fun u hu hd => ?_, ?_⟩
    · simp only [Act.put, List.setIfInBounds_toArray, List.set_cons_zero, List.set_cons_succ]
      have e8 : f1 8 = .pointer (some ⟨tl.b, 5 + n, none⟩) := hd 8 (by kernel_rfl)
      have hu2 := Ext.trans (Ext.drew W) hu
      have q0 := ext_cell hu2 qn
      go_simp
      exact ⟨Ext.refl _, rfl⟩
    refine ⟨fun u hu hd => ?_, ?_⟩
    · simp only [Act.put, List.setIfInBounds_toArray, List.set_cons_zero, List.set_cons_succ]
      have e9 : f1 9 = v6 := hd 9 (by kernel_rfl)
      go_simp
      exact ⟨Ext.refl _, rfl⟩
    trivial
theorem row_iter {w : World} {D : Nat → Prop} {lb hb gf b0 b1 b2 n : Nat} {caps : Array Value} {T : List Tw} {q : Ent → Bool} (h : Sk w D lb hb T) (hA : AheadFn w gf caps q) (hq : (T.map Tw.e).Pairwise fun a b => q b = true → q a = true) (hn : n < 8)
    (x0 : w.cell? ⟨b0, 0, none⟩ = some (.pointer (some ⟨lb, 0, none⟩))) (x1 : w.cell? ⟨b1, 0, none⟩ = some (.int .i64 (n : Int))) (x2 : w.cell? ⟨b2, 0, none⟩ = some (.func (.func gf) #[] caps)) :
    Iter Tryd.prog 52 #[.pointer (some ⟨b0, 0, none⟩), .pointer (some ⟨b1, 0, none⟩), .pointer (some ⟨b2, 0, none⟩)] (rowOf T q n).length rowV (RowOk (rowOf T q n) w.heap.size) (RowC w D b0 b1 b2) w := row_iterN h hA hq hn (fun _ _ h => h) x0 x1 x2
end Go.Proofs.YtepaaffebhinlaaDoor
