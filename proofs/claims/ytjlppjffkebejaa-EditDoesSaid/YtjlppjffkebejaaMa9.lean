/- Lemay Flowst Ebox Eknown Eargs, joined. -/
import Derived.Test.YtjlppjffkebejaaMa8
import Derived.Test.YtjlppjffkebejaaMa4
import Derived.Test.YtjlppjffkebejaaMa7
import Derived.Lib.SlBytesConst
import Derived.Lib.SmallJoins
import Derived.Test.YtjlppjffkebejaaMa5

/- The law EditMay, where its known sentence is given. -/
namespace Go.Proofs.Ytjlppjffkebejaa
open Go.ChangeShapes Go.WideShapes Go.ChangeAt Go.RowKit

set_option maxRecDepth 100000 in
set_option maxHeartbeats 4000000 in
theorem lemay_any {w : World} {A : Option Addr} {c : Nat} {L : List (Tab × TabH)} (V : Ver) (h : tabs w 0 w.heap.size A L) (hln : ∀ p ∈ L, p.1.fst.length ≤ 140737488351232 ∧ p.1.lst.length ≤ 140737488351232)
    (hk : ∀ u, Ext w u → Calls Try.prog 19 #[] u fun e w' => e = .returned (.bool true) ∧ Ext u w') :
    Calls Try.prog 4 #[.agg #[.int .i64 V.next, .int .i64 V.log, .int .i64 V.index, .int .i64 V.seq, .slice A L.length c]] w fun e w' => e = .returned (.bool true) ∧ Ext w w' := by
  obtain ⟨w1, hw1⟩ : ∃ w1, w1 = w.alloc (.cells #[.int .i64 V.next, .int .i64 V.log, .int .i64 V.index, .int .i64 V.seq, .slice A L.length c] 36) := ⟨_, rfl⟩
  have HX : Hid (Ext w w1) := by rw [hw1]; exact ext_alloc _ _
  have HV : Hid (w1.heap[w.heap.size]? = some (.cells #[.int .i64 V.next, .int .i64 V.log, .int .i64 V.index, .int .i64 V.seq, .slice A L.length c] 36 (0, 0))) := by rw [hw1]; exact heap_at _ _ rfl
  have HK : Hid (∀ u, Ext w1 u → Calls Try.prog 19 #[] u fun e w' => e = .returned (.bool true) ∧ Ext u w') := fun u hu => hk u (Ext.trans HX.out hu)
  have c0 := cell_of HV.out (k := 0) rfl
  have c1 := cell_of HV.out (k := 1) rfl
  have c2 := cell_of HV.out (k := 2) rfl
  have c3 := cell_of HV.out (k := 3) rfl
  have c4 := cell_of HV.out (k := 4) rfl
  by_cases hlt : 100 < L.length
  · have d : decide ((100 : Int) < (L.length : Int)) = true := by simp; omega
    have d2 : decide (100 < L.length) = true := by simp; omega
    have HK1 := Lib.hid (HK.out w1 (Ext.refl _))
    clear hk hlt h hln c0 c1 c2 c3
    go_enter Try.func4, Try.ntmps4
    rw [hw1] at c4 HK1
    go_wp2_with fail
    refine Calls.mono HK1.out ?_
    rintro e w2 ⟨rfl, hx2⟩
    rw [← hw1] at hx2
    have HX2 : Hid (Ext w w2) := Ext.trans HX.out hx2
    clear hx2
    go_wp2_with fail
    go_ret
    exact ⟨rfl, HX2.out⟩
  · have d : decide ((100 : Int) < (L.length : Int)) = false := by simp; omega
    have d2 : decide (100 < L.length) = false := by simp; omega
    obtain ⟨z, hz⟩ : ∃ z : Bool, z = true ↔ VMay V (L.map Prod.fst) := by
      by_cases hv : VMay V (L.map Prod.fst)
      · exact ⟨true, fun _ => hv, fun _ => rfl⟩
      · exact ⟨false, fun h => (by cases h), fun h => absurd h hv⟩
    have HM : Hid (∀ u, Ext w1 u → Calls Try.prog 20 #[.agg #[.int .i64 V.next, .int .i64 V.log, .int .i64 V.index, .int .i64 V.seq, .slice A L.length c]] u fun e w' => e = .returned (.bool z) ∧ Ext u w') := fun u hu =>
      (vmay_any (c := c) V (h.up (Ext.trans HX.out hu)) (Nat.le_refl _) (by omega)).mono fun e w' ⟨y, hy, he, hx⟩ => ⟨by rw [he, show y = z by rw [Bool.eq_iff_iff, hy, hz]], hx⟩
    have HR : Hid (∀ u, Ext w1 u → Calls Try.prog 21 #[.agg #[.int .i64 V.next, .int .i64 V.log, .int .i64 V.index, .int .i64 V.seq, .slice A L.length c]] u fun e w' => e = .returned (.bool z) ∧ Ext u w') := fun u hu =>
      (rmay10_any (c := c) V (h.up (Ext.trans HX.out hu)) (by omega) hln).mono fun e w' ⟨y, hy, he, hx⟩ => ⟨by rw [he, show y = z by rw [Bool.eq_iff_iff, hy, hz, may_same]], hx⟩
    have e1 : (z == z) = true := by simp
    clear hk hlt h hln hz
    go_enter Try.func4, Try.ntmps4
    have k4 := c4
    rw [hw1] at k4
    go_upto_region 3 with (fail)
    rw [← hw1]
    clear hw1 k4
    refine flow (by kernel_rfl) [Is (.agg #[.int .i64 V.next, .int .i64 V.log, .int .i64 V.index, .int .i64 V.seq, .slice A L.length c]), Is (.bool z), Is (.agg #[.int .i64 V.next, .int .i64 V.log, .int .i64 V.index, .int .i64 V.seq, .slice A L.length c]), Is (.bool z), Is (.bool true), Is (.bool true), Is (.bool true), Is (.bool true), Is (.bool true)] (by kernel_rfl) (by kernel_rfl) ?mono (fun f1 => ?obl) ?fin
    case mono =>
      simp only [List.forall_mem_cons, List.not_mem_nil, false_imp_iff, implies_true, and_true]
      exact ⟨.is _, .is _, .is _, .is _, .is _, .is _, .is _, .is _, .is _⟩
    case fin =>
      intro g1 u hu hg
      simp only [puts, Act.put, List.setIfInBounds_toArray, List.set_cons_zero, List.set_cons_succ]
      have hl : g1 8 = .bool true := hg 8 (by decide)
      have h7 : g1 7 = .bool true := hg 7 (by decide)
      rw [hl]
      have HXU : Hid (Ext w u) := Ext.trans HX.out (Ext.trans (Ext.drew w1) hu)
      clear hl h7 hg hu c0 c1 c2 c3 c4
      go_wp2_with fail
      go_ret
      exact ⟨rfl, HXU.out⟩
    case obl =>
      refine ⟨fun u hu hd => ?_, ?_⟩
      · have hu2 := Ext.trans (Ext.drew w1) hu
        have q0 := ext_cell hu2 c0
        have q1 := ext_cell hu2 c1
        have q2 := ext_cell hu2 c2
        have q3 := ext_cell hu2 c3
        have q4 := ext_cell hu2 c4
        go_simp
        exact ⟨Ext.refl _, rfl⟩
      refine ⟨fun u hu hd => ?_, ?_⟩
      · simp only [Act.put, List.setIfInBounds_toArray, List.set_cons_zero, List.set_cons_succ]
        have e0 : f1 0 = .agg #[.int .i64 V.next, .int .i64 V.log, .int .i64 V.index, .int .i64 V.seq, .slice A L.length c] := hd 0 (by kernel_rfl)
        go_simp
        refine (HM.out u (Ext.trans (Ext.drew w1) hu)).mono ?_
        rintro x w9 ⟨rfl, hb9⟩
        exact ⟨_, rfl, hb9, rfl⟩
      refine ⟨fun u hu hd => ?_, ?_⟩
      · simp only [Act.put, List.setIfInBounds_toArray, List.set_cons_zero, List.set_cons_succ]
        have hu2 := Ext.trans (Ext.drew w1) hu
        have q0 := ext_cell hu2 c0
        have q1 := ext_cell hu2 c1
        have q2 := ext_cell hu2 c2
        have q3 := ext_cell hu2 c3
        have q4 := ext_cell hu2 c4
        go_simp
        exact ⟨Ext.refl _, rfl⟩
      refine ⟨fun u hu hd => ?_, ?_⟩
      · simp only [Act.put, List.setIfInBounds_toArray, List.set_cons_zero, List.set_cons_succ]
        have e2 : f1 2 = .agg #[.int .i64 V.next, .int .i64 V.log, .int .i64 V.index, .int .i64 V.seq, .slice A L.length c] := hd 2 (by kernel_rfl)
        go_simp
        refine (HR.out u (Ext.trans (Ext.drew w1) hu)).mono ?_
        rintro x w9 ⟨rfl, hb9⟩
        exact ⟨_, rfl, hb9, rfl⟩
      refine ⟨fun u hu hd => ?_, ?_⟩
      · simp only [Act.put, List.setIfInBounds_toArray, List.set_cons_zero, List.set_cons_succ]
        have e1 : f1 1 = .bool z := hd 1 (by kernel_rfl)
        have e3 : f1 3 = .bool z := hd 3 (by kernel_rfl)
        go_simp
        exact ⟨Ext.refl _, rfl⟩
      refine ⟨fun u hu hd => ?_, ?_⟩
      · simp only [Act.put, List.setIfInBounds_toArray, List.set_cons_zero, List.set_cons_succ]
        have e4 : f1 4 = .bool true := hd 4 (by kernel_rfl)
        go_simp
        exact ⟨Ext.refl _, rfl⟩
      refine ⟨fun u hu hd => ?_, ?_⟩
      · simp only [Act.put, List.setIfInBounds_toArray, List.set_cons_zero, List.set_cons_succ]
        have e5 : f1 5 = .bool true := hd 5 (by kernel_rfl)
        go_simp
        refine (HK.out u (Ext.trans (Ext.drew w1) hu)).mono ?_
        rintro x w9 ⟨rfl, hb9⟩
        exact ⟨_, rfl, hb9, rfl⟩
      refine ⟨fun u hu hd => ?_, ?_⟩
      · simp only [Act.put, List.setIfInBounds_toArray, List.set_cons_zero, List.set_cons_succ]
        have e5 : f1 5 = .bool true := hd 5 (by kernel_rfl)
        have e6 : f1 6 = .bool true := hd 6 (by kernel_rfl)
        go_simp
        exact ⟨Ext.refl _, rfl⟩
      refine ⟨fun u hu hd => ?_, ?_⟩
      · simp only [Act.put, List.setIfInBounds_toArray, List.set_cons_zero, List.set_cons_succ]
        have e7 : f1 7 = .bool true := hd 7 (by kernel_rfl)
        go_simp
        exact ⟨Ext.refl _, rfl⟩
      trivial
end Go.Proofs.Ytjlppjffkebejaa

/- A region that draws its order and holds one store, behind which (or ahead of which) some operations may come that neither read nor change memory: facts for all others, then what the store makes (no function of the program). -/
namespace Go.Proofs.Ytjlppjffkebejaa.St
open Go.RowKit

/-- Each operation gives its fact; the s-th is the store, those of T look at no memory. -/
def Obls (P : Program) (ops : Array Oper) (φ : List (Value → World → Prop)) (w0 : World) (s : Nat) (T : List Nat) (S : (Nat → Value) → World → World → Prop) (f : Nat → Value) : Nat → List Oper → Act → Prop
  | _, [], _ => True
  | k, o :: rest, a => (if k = s then (∀ u, Ext w0 u → (∀ j, j ≠ s → j ∉ T → j < ops.size → fact φ j (f j) u) → if Region.wanted o (yielded ops a.tmps) = true then GivesR P ((execOp a.eval o).run P u) (fun _ u' => S f u u') else S f u u)
    else if k ∈ T then (∀ u u', Ext w0 u → (∀ j, aft o j = true → fact φ j (f j) u) → if Region.wanted o (yielded ops a.tmps) = true then GivesR P ((execOp a.eval o).run P u') (fun v u2 => u2 = u' ∧ fact φ k (kept o v) u) else fact φ k undef u)
    else (∀ u, Ext w0 u → (∀ j, aft o j = true → fact φ j (f j) u) →
      if Region.wanted o (yielded ops a.tmps) = true then GivesR P ((execOp a.eval o).run P u) (fun v u' => Ext u u' ∧ fact φ k (kept o v) u') else fact φ k undef u)) ∧ Obls P ops φ w0 s T S f (k + 1) rest (a.put o.dst (f k))

/-- All but the store and those of T stand ahead of the store. -/
def storeOk (ops : Array Oper) (s : Nat) (T : List Nat) : Bool := (List.range ops.size).all fun j => decide (j = s) || decide (j ∈ T) || reachB ops ops.size s j
structure SInv (ops : Array Oper) (φ : List (Value → World → Prop)) (w0 : World) (s : Nat) (S : (Nat → Value) → World → World → Prop) (seen : Nat → Bool) (f : Nat → Value) (u : World) : Prop where
  closed : ∀ j oj, ops[j]? = some oj → seen j = true → ∀ k, aft oj k = true → seen k = true
  holds : (seen s = false ∧ Ext w0 u ∧ ∀ j, seen j = true → fact φ j (f j) u) ∨ (seen s = true ∧ ∃ u1, Ext w0 u1 ∧ (∀ j, j ≠ s → seen j = true → fact φ j (f j) u1) ∧ S f u1 u)

theorem reach_seen {ops : Array Oper} {seen : Nat → Bool} (hc : ∀ j oj, ops[j]? = some oj → seen j = true → ∀ k, aft oj k = true → seen k = true) : ∀ (n k j : Nat), seen k = true → reachB ops n k j = true → seen j = true := by
  intro n
  induction n with
  | zero => intro k j _ h; cases h
  | succ n ih =>
    intro k j hk h
    simp only [reachB] at h
    split at h
    · rename_i o ho
      rcases Bool.or_eq_true_iff.1 h with h | h
      · exact hc k o ho hk j h
      · obtain ⟨k', _, h2⟩ := List.any_eq_true.1 h
        simp only [Bool.and_eq_true] at h2
        exact ih k' j (hc k o ho hk k' h2.1) h2.2
    · cases h

section
variable {P : Program} {ops : Array Oper} {Q : Exit → Act → World → Prop} {φ : List (Value → World → Prop)} {a0 : Act} {w0 : World} {s : Nat} {T : List Nat} {S : (Nat → Value) → World → World → Prop}

theorem GivesR.mono {r : Result Next} {R R' : Value → World → Prop} (h : GivesR P r R) (hr : ∀ v u, R v u → R' v u) : GivesR P r R' := by
  unfold GivesR at *
  split at h
  · exact hr _ _ h
  · exact hr _ _ h
  · exact h.mono fun e w ⟨v, h1, h2⟩ => ⟨v, h1, hr _ _ h2⟩
  · exact h.elim

theorem closed_upd {seen : Nat → Bool} (hc : ∀ j oj, ops[j]? = some oj → seen j = true → ∀ k, aft oj k = true → seen k = true) {i : Nat} {o : Oper} (hi : ops[i]? = some o) (hd : ∀ j, aft o j = true → seen j = true) :
    ∀ j oj, ops[j]? = some oj → Fi.upd seen i true j = true → ∀ k, aft oj k = true → Fi.upd seen i true k = true := by
  intro j oj hj hs k hk
  have h1 : seen k = true := by
    by_cases e : j = i
    · subst e
      rw [hi] at hj
      injection hj with hj
      subst hj
      exact hd k hk
    · rw [Fi.upd_ne _ _ e] at hs
      exact hc j oj hj hs k hk
  unfold Fi.upd
  split
  · rfl
  · exact h1

theorem to_fi (hss : s < ops.size) (hst : storeOk ops s T = true) (htr : ∀ v u, fact φ s v u) (hmono : ∀ p ∈ φ, Mono p) (hS : ∀ f v i u u', i = s ∨ i ∈ T → S f u u' → S (Fi.upd f i v) u u') (f : Nat → Value) :
    ∀ (l : List Oper) (k : Nat) (a : Act), (∀ i o, l[i]? = some o → ops[k + i]? = some o) → Obls P ops φ w0 s T S f k l a → Fi.Obls P ops (SInv ops φ w0 s S) f k l a := by
  intro l
  induction l with
  | nil => intro k a _ _; trivial
  | cons o l ih =>
    intro k a hops h
    refine ⟨fun seen u hI hn hd => ?_, ih (k + 1) _ (fun i o h => by rw [show k + 1 + i = k + (i + 1) by omega]; exact hops (i + 1) o (by simpa using h)) h.2⟩
    have hk : ops[k]? = some o := by have := hops 0 o rfl; simpa using this
    have hlt : k < ops.size := (Array.getElem?_eq_some_iff.1 hk).1
    have hcl := closed_upd hI.closed hk hd
    have h0 := h.1
    by_cases hks : k = s
    · rw [if_pos hks] at h0
      rcases hI.holds with ⟨h1, h2, h3⟩ | ⟨h1, _⟩
      · have hall : ∀ j, j ≠ s → j ∉ T → j < ops.size → seen j = true := fun j hj hjT hjl => by
          have h4 := (List.all_eq_true.1 hst) j (List.mem_range.2 hjl)
          simp only [Bool.or_eq_true, decide_eq_true_eq] at h4
          rcases h4 with (h4 | h4) | h4
          · exact absurd h4 hj
          · exact absurd h4 hjT
          · rw [← hks] at h4
            revert h4
            cases hn2 : ops.size with
            | zero => omega
            | succ n =>
              intro h4
              simp only [reachB, hk] at h4
              rcases Bool.or_eq_true_iff.1 h4 with h4 | h4
              · exact hd j h4
              · obtain ⟨k', _, h5⟩ := List.any_eq_true.1 h4
                simp only [Bool.and_eq_true] at h5
                exact reach_seen hI.closed n k' j (hd k' h5.1) h5.2
        have h5 := h0 u h2 fun j hj hjT hjl => h3 j (hall j hj hjT hjl)
        have keep : ∀ v j, j ≠ s → Fi.upd seen k true j = true → fact φ j (Fi.upd f k v j) u := fun v j hj hs => by
          rw [← hks] at hj
          rw [Fi.upd_ne _ _ hj] at hs ⊢
          exact h3 j hs
        split
        · rename_i hw
          rw [if_pos hw] at h5
          refine GivesR.mono h5 fun v u' hv => ⟨hcl, .inr ⟨by rw [hks, Fi.upd_at], u, h2, keep _, hS _ _ _ _ _ (.inl hks) hv⟩⟩
        · rename_i hw
          rw [if_neg hw] at h5
          exact ⟨hcl, .inr ⟨by rw [hks, Fi.upd_at], u, h2, keep _, hS _ _ _ _ _ (.inl hks) h5⟩⟩
      · rw [hks, h1] at hn; cases hn
    · rw [if_neg hks] at h0
      have hsk : s ≠ k := fun e => hks e.symm
      have more : ∀ {v : Value} {u u' : World}, Ext u u' → fact φ k v u' → (∀ j, j ≠ s → seen j = true → fact φ j (f j) u) → ∀ j, j ≠ s → Fi.upd seen k true j = true → fact φ j (Fi.upd f k v j) u' := fun hx hv h3 j hj hs => by
        by_cases e : j = k
        · subst e; rw [Fi.upd_at]; exact hv
        · rw [Fi.upd_ne _ _ e] at hs ⊢; exact fact_mono hmono j (h3 j hj hs) hx
      have notS : seen s = false → ∀ j, Fi.upd seen k true j = true → j ≠ s := fun h1 j hj e => by
        rw [e, Fi.upd_ne _ _ hsk, h1] at hj; cases hj
      by_cases hkT : k ∈ T
      · rw [if_pos hkT] at h0
        rcases hI.holds with ⟨h1, h2, h3⟩ | ⟨h1, u1, h2, h3, h4⟩
        · have h5 := h0 u u h2 fun j hj => h3 j (hd j hj)
          have keep : ∀ v, fact φ k v u → SInv ops φ w0 s S (Fi.upd seen k true) (Fi.upd f k v) u := fun v hv => ⟨hcl, .inl ⟨by rw [Fi.upd_ne _ _ hsk]; exact h1, h2, fun j hs => more (Ext.refl _) hv (fun j _ => h3 j) j (notS h1 j hs) hs⟩⟩
          split
          · rename_i hw
            rw [if_pos hw] at h5
            refine GivesR.mono h5 fun v u' hv => ?_
            rw [hv.1]
            exact keep _ hv.2
          · rename_i hw
            rw [if_neg hw] at h5
            exact keep _ h5
        · have h5 := h0 u1 u h2 fun j hj => by
            by_cases e : j = s
            · rw [e]; exact htr _ _
            · exact h3 j e (hd j hj)
          have keep : ∀ v, fact φ k v u1 → SInv ops φ w0 s S (Fi.upd seen k true) (Fi.upd f k v) u := fun v hv => ⟨hcl, .inr ⟨by rw [Fi.upd_ne _ _ hsk]; exact h1, u1, h2, more (Ext.refl _) hv h3, hS _ _ _ _ _ (.inr hkT) h4⟩⟩
          split
          · rename_i hw
            rw [if_pos hw] at h5
            refine GivesR.mono h5 fun v u' hv => ?_
            rw [hv.1]
            exact keep _ hv.2
          · rename_i hw
            rw [if_neg hw] at h5
            exact keep _ h5
      · rw [if_neg hkT] at h0
        rcases hI.holds with ⟨h1, h2, h3⟩ | ⟨h1, _⟩
        · have h5 := h0 u h2 fun j hj => h3 j (hd j hj)
          have keep : ∀ v u', Ext u u' → fact φ k v u' → SInv ops φ w0 s S (Fi.upd seen k true) (Fi.upd f k v) u' := fun v u' hx hv => ⟨hcl, .inl ⟨by rw [Fi.upd_ne _ _ hsk]; exact h1, Ext.trans h2 hx, fun j hs => more hx hv (fun j _ => h3 j) j (notS h1 j hs) hs⟩⟩
          split
          · rename_i hw
            rw [if_pos hw] at h5
            exact GivesR.mono h5 fun v u' hv => keep _ _ hv.1 hv.2
          · rename_i hw
            rw [if_neg hw] at h5
            exact keep _ _ (Ext.refl _) h5
        · exfalso
          have hsz : s < ops.size := hss
          have h4 := (List.all_eq_true.1 hst) k (List.mem_range.2 hlt)
          simp only [Bool.or_eq_true, decide_eq_true_eq] at h4
          rcases h4 with (h4 | h4) | h4
          · exact hks h4
          · exact hkT h4
          · have := reach_seen hI.closed _ _ _ h1 h4
            rw [hn] at this; cases this

/-- A region that draws its order, with one store in it. -/
theorem flow {id : Nat} {w : World} (hm : P.follows .mixedOrders = true) (φ : List (Value → World → Prop)) (s : Nat) (T : List Nat) (S : (Nat → Value) → World → World → Prop) (hok : flowOk ops a0.tmps.size = true) (hsel : Region.noSelect ops = true) (hss : decide (s < ops.size) = true)
    (hst : storeOk ops s T = true) (htr : ∀ v u, fact φ s v u) (hmono : ∀ p ∈ φ, Mono p) (hS : ∀ f v i u u', i = s ∨ i ∈ T → S f u u' → S (Fi.upd f i v) u u')
    (hobl : ∀ f, Obls P ops φ w.drew s T S f 0 ops.toList a0)
    (hfin : ∀ (g : Nat → Value) u u', Ext w.drew u → (∀ j, j < ops.size → j ≠ s → fact φ j (g j) u) → S g u u' → Q .normal (puts g 0 ops.toList a0) u') : (Code.region id ops true).wp P Q a0 w := by
  refine Fi.flow hm (SInv ops φ w.drew s S) hok hsel (fun f => ⟨fun j oj _ h => (by cases h), .inl ⟨rfl, Ext.refl _, fun j h => (by cases h)⟩⟩) (fun f => to_fi (of_decide_eq_true hss) hst htr hmono hS f _ _ _ (fun i o h => by rw [Nat.zero_add, ← Array.getElem?_toList]; exact h) (hobl f)) fun g seen u hall hI => ?_
  rcases hI.holds with ⟨h1, _⟩ | ⟨_, u1, h2, h3, h4⟩
  · rw [hall s (of_decide_eq_true hss)] at h1; cases h1
  · exact hfin g u1 u h2 (fun j hj hjs => h3 j hjs (hall j hj)) h4
end
end Go.Proofs.Ytjlppjffkebejaa.St

/- What stands in the slots of the law's known versions: facts that later worlds keep; a box that is made and filled. -/
namespace Go.Proofs.Ytjlppjffkebejaa
open Go.ChangeShapes Go.WideShapes Go.ChangeAt Go.RowKit

/-- A row of numbers. -/
def NumF (l : List Int) (v : Value) (u : World) : Prop := ∃ A c, v = .slice A l.length c ∧ Sl u 0 u.heap.size A (ints l)
/-- A place. -/
def TabF (B : Nat) (t : Tab) (v : Value) (u : World) : Prop := ∃ q : TabH, v = .agg #[.int .i64 t.num, .int .i64 t.lev, .slice q.fstA t.fst.length q.fstc, .slice q.lstA t.lst.length q.lstc, .int .i64 t.siz] ∧ TMine B (t, q) u
/-- A row of places. -/
def TabsF (T : List Tab) (v : Value) (u : World) : Prop := ∃ A c R, R.map Prod.fst = T ∧ v = .slice A R.length c ∧ (A = none → c = 0) ∧ tabs u 0 u.heap.size A R
/-- An edit. -/
def EditF (l : List Int) (T : List Tab) (W : Ver) (v : Value) (u : World) : Prop := ∃ D d A c R, R.map Prod.fst = T ∧ v = .agg #[.slice D l.length d, .slice A R.length c, .int .i64 W.next, .int .i64 W.log, .int .i64 W.index, .int .i64 W.seq] ∧ (A = none → c = 0) ∧ Sl u 0 u.heap.size D (ints l) ∧ tabs u 0 u.heap.size A R
/-- A version of one's own. -/
def VerF (B : Nat) (W : Ver) (T : List Tab) (v : Value) (u : World) : Prop := ∃ A c R, R.map Prod.fst = T ∧ v = .agg #[.int .i64 W.next, .int .i64 W.log, .int .i64 W.index, .int .i64 W.seq, .slice A R.length c] ∧ OwnT B R (.slice A R.length c) u ∧ ∀ q ∈ R, TMine B q u
/-- What Do answers. -/
def DoF (B : Nat) (W : Ver) (T : List Tab) (v : Value) (u : World) : Prop := ∃ x, v = .tuple #[x, .int .i64 0] ∧ VerF B W T x u
/-- A new box for a version. -/
def BoxF (B : Nat) (v : Value) (u : World) : Prop := ∃ g, v = .pointer (some ⟨g, 0, none⟩) ∧ B ≤ g ∧ u.heap[g]? = some (.cells #[.int .i64 0, .int .i64 0, .int .i64 0, .int .i64 0, .slice none 0 0] 36 (0, 0))
theorem Mono.num (l : List Int) : Mono (NumF l) := fun _ _ _ ⟨A, c, h1, h2⟩ hx => ⟨A, c, h1, (h2.below hx (Nat.le_refl _)).wide (Nat.le_refl _) hx.size⟩
theorem Mono.tab (B : Nat) (t : Tab) : Mono (TabF B t) := fun _ _ _ ⟨q, h1, h2⟩ hx => ⟨q, h1, h2.below hx⟩
theorem Mono.tabs (T : List Tab) : Mono (TabsF T) := fun _ _ _ ⟨A, c, R, h0, h1, h2, h3⟩ hx => ⟨A, c, R, h0, h1, h2, h3.up hx⟩
theorem Mono.edit (l : List Int) (T : List Tab) (W : Ver) : Mono (EditF l T W) := fun _ _ _ ⟨D, d, A, c, R, h0, h1, h2, h3, h4⟩ hx => ⟨D, d, A, c, R, h0, h1, h2, (h3.below hx (Nat.le_refl _)).wide (Nat.le_refl _) hx.size, h4.up hx⟩
theorem VerF.below {B : Nat} {W : Ver} {T : List Tab} {v : Value} {u u' : World} (h : VerF B W T v u) (hx : Ext u u') : VerF B W T v u' := by
  obtain ⟨A, c, R, h0, h1, h2, h3⟩ := h
  exact ⟨A, c, R, h0, h1, h2.below hx, fun q hq => (h3 q hq).below hx⟩
theorem Mono.ver (B : Nat) (W : Ver) (T : List Tab) : Mono (VerF B W T) := fun _ _ _ h hx => h.below hx
theorem Mono.done (B : Nat) (W : Ver) (T : List Tab) : Mono (DoF B W T) := fun _ _ _ ⟨x, h1, h2⟩ hx => ⟨x, h1, h2.below hx⟩
theorem Mono.box (B : Nat) : Mono (BoxF B) := fun _ _ _ ⟨g, h1, h2, h3⟩ hx => ⟨g, h1, h2, ext_heap hx h3⟩

theorem Own.cells {B g : Nat} {l : List Nat} {v : Value} {u u' : World} {c : Array Value} {e : TypeId} (h : Own B l v u) (hg : u.heap[g]? = some (.cells c e (0, 0))) (he : e ≠ 5) (hk : ∀ k, k ≠ g → u'.heap[k]? = u.heap[k]?) : Own B l v u' :=
  row_kept h fun k hkb => hk k fun e1 => by
    obtain ⟨_, _, cur, h2⟩ := ownT_lt h k hkb
    rw [e1, hg] at h2
    injection h2 with h2
    injection h2 with h2 h3
    exact he h3
theorem VerF.cells {B g : Nat} {W : Ver} {T : List Tab} {v : Value} {u u' : World} {c : Array Value} (h : VerF B W T v u) (hg : u.heap[g]? = some (.cells c 36 (0, 0))) (hk : ∀ k, k ≠ g → u'.heap[k]? = u.heap[k]?) : VerF B W T v u' := by
  obtain ⟨A, k, R, h0, h1, h2, h3⟩ := h
  refine ⟨A, k, R, h0, h1, h2.keep fun b hb => hk b fun e1 => ?_, fun q hq => ⟨(h3 q hq).f.cells hg (by decide) hk, (h3 q hq).l.cells hg (by decide) hk, (h3 q hq).good, (h3 q hq).fb, (h3 q hq).lb⟩⟩
  obtain ⟨_, _, cur, h4⟩ := ownT_lt h2 b hb
  rw [e1, hg] at h4
  injection h4 with h4
  injection h4 with _ h5
  exact absurd h5 (by decide)
/-- The box b is filled with the version v. -/
def FillV (B : Nat) (W : Ver) (T : List Tab) (b v : Value) (u u' : World) : Prop :=
  Below B u u' ∧ ∃ g A c R, b = .pointer (some ⟨g, 0, none⟩) ∧ B ≤ g ∧ R.map Prod.fst = T ∧ v = .agg #[.int .i64 W.next, .int .i64 W.log, .int .i64 W.index, .int .i64 W.seq, .slice A R.length c] ∧ OwnT B R (.slice A R.length c) u' ∧ (∀ q ∈ R, TMine B q u') ∧
    u'.heap[g]? = some (.cells #[.int .i64 W.next, .int .i64 W.log, .int .i64 W.index, .int .i64 W.seq, .slice A R.length c] 36 (0, 0))
theorem fill_of {B g : Nat} {W : Ver} {T : List Tab} {u u' : World} {A : Option Addr} {c n : Nat} (hb : BoxF B (.pointer (some ⟨g, 0, none⟩)) u) (hv : VerF B W T (.agg #[.int .i64 W.next, .int .i64 W.log, .int .i64 W.index, .int .i64 W.seq, .slice A n c]) u)
    (he : u' = (((((u.setCell ⟨g, 0, none⟩ (.int .i64 W.next)).setCell ⟨g, 1, none⟩ (.int .i64 W.log)).setCell ⟨g, 2, none⟩ (.int .i64 W.index)).setCell ⟨g, 3, none⟩ (.int .i64 W.seq)).setCell ⟨g, 4, none⟩ (.slice A n c))) :
    FillV B W T (.pointer (some ⟨g, 0, none⟩)) (.agg #[.int .i64 W.next, .int .i64 W.log, .int .i64 W.index, .int .i64 W.seq, .slice A n c]) u u' := by
  obtain ⟨g', e1, hg, hh⟩ := hb
  injection e1 with e1
  injection e1 with e1
  injection e1 with e1
  subst e1
  have hk : ∀ k, k ≠ g → u'.heap[k]? = u.heap[k]? := fun k hkg => by rw [he]; exact five_far hkg
  obtain ⟨A2, c2, R, h0, h1, h2, h3⟩ := hv.cells hh hk
  injection h1 with h1
  simp only [Array.mk.injEq, List.cons.injEq, true_and, and_true, Value.slice.injEq] at h1
  obtain ⟨rfl, rfl, rfl⟩ := h1
  refine ⟨?_, g, A, c, R, rfl, hg, h0, rfl, h2, h3, ?_⟩
  · rw [he]
    exact chg_five.below (fun k hk => by rw [hk]; exact hg) (Nat.le_trans hg (Nat.le_of_lt (Array.getElem?_eq_some_iff.1 hh).1))
  · rw [he]
    exact set_five hh
theorem DoF.of {w w' : World} {V W : Ver} {l : List Int} {L E : List (Tab × TabH)} {e : Ending} {B : Nat} (hB : B ≤ w.heap.size) (T0 : List Tab) (h : DoAns w V W l L E e w') (ha : argD V l L) (ho : okD V W l L = true) (hu : ∀ T : List Tab, T.Perm ((restT l L ++ E).map Prod.fst) → T.Pairwise (fun a b => ¬ cmpT b a < 0) → T = T0) (hm : VMay W T0) :
    Ext w w' ∧ ∃ v, e = .returned v ∧ DoF B W T0 v w' := by
  obtain ⟨hx, A, c, R, h0, h1, h2, h3⟩ := do_is T0 h ha ho hu hm
  exact ⟨hx, _, h1, _, rfl, A, c, R, h0, rfl, h2.base hB, fun q hq => (h3 q hq).base hB⟩
end Go.Proofs.Ytjlppjffkebejaa

/- The law's known versions. -/
namespace Go.Proofs.Ytjlppjffkebejaa
open Go.ChangeShapes Go.WideShapes Go.ChangeAt Go.RowKit

theorem cell_fz {u : World} {C : Array Value} {t : TypeId} {fz fz2 : Nat × Nat} {p : Addr} {v : Value} (h : (u.alloc (.cells C t fz)).cell? p = some v) : (u.alloc (.cells C t fz2)).cell? p = some v := by
  by_cases hp : p.block = u.heap.size
  · unfold World.cell? at h ⊢
    rw [hp, heap_alloc_new u _] at h
    rw [hp, heap_alloc_new u _]
    exact h
  · have hl := World.block_lt_of_cell? _ _ h
    rw [World.size_alloc] at hl
    have hl2 : p.block < u.heap.size := by omega
    rw [World.cell?_alloc_lt u _ p hl2] at h ⊢
    exact h
theorem bs_lit (u : World) (x : Nat) (fz : Nat × Nat) : Bs (u.alloc (.cells #[.int .u8 (x : Int)] 5 fz)) 0 (u.heap.size + 1) (.slice (some ⟨u.heap.size, 0, none⟩) 1 1) [x] := by
  obtain ⟨A, c, e, h1, h2, h3, h4⟩ := (own8_lit (u := u) (B := 0) x (Nat.zero_le _)).bs
  refine ⟨A, c, e, h1, h2, h3, ?_⟩
  rcases h4 with h4 | ⟨b, o, e, h5, h6, h7⟩
  · exact .inl h4
  · exact .inr ⟨b, o, e, h5, by rw [World.size_alloc] at h6; exact h6, fun i y hy => cell_fz (h7 i y hy)⟩
theorem num_lit (u : World) : Sl (u.alloc (.cells #[.int .i64 1] 2)) 0 (u.alloc (.cells #[.int .i64 1] 2)).heap.size (some ⟨u.heap.size, 0, none⟩) (ints [1]) :=
  .inr ⟨u.heap.size, 0, rfl, Nat.zero_le _, (Array.getElem?_eq_some_iff.1 (heap_alloc_new u _)).1, fun i x hx => by rw [Nat.zero_add]; exact cell_of (heap_alloc_new u _) (by simpa [ints] using hx)⟩

set_option maxRecDepth 100000 in
set_option maxHeartbeats 16000000 in
theorem known10_any (w : World) : Calls Try.prog 19 #[] w fun e w' => e = .returned (.bool true) ∧ Ext w w' := by
  go_enter Try.func19, Try.ntmps19
  go_wp2_with fail
  refine (mktab_any (n := 1) (lev := 0) (x := 97) (y := 99) (by decide) (by decide) (by decide) (by decide)).mono ?_
  rintro e w1 ⟨q, rfl, hm, hx1⟩
  have HX1 := Lib.hid hx1
  have HM := Lib.hid hm
  clear hx1 hm
  go_wp2_with fail
  obtain ⟨w2, hw2⟩ : ∃ w2, w2 = w1.alloc (.cells #[.int .i64 1, .int .i64 0, .slice q.fstA 1 q.fstc, .slice q.lstA 1 q.lstc, .int .i64 1] 85) := ⟨_, rfl⟩
  have HT : Hid (tabs w2 0 w2.heap.size (some ⟨w1.heap.size, 0, none⟩) [(kt1, q)]) := by
    rw [hw2]
    exact lit_tabs (Ps := [(kt1, q)]) fun p hp => by rw [List.mem_singleton] at hp; rw [hp]; exact HM.out.wide
  have HX2 : Hid (Ext w w2) := Ext.trans HX1.out (by rw [hw2]; exact ext_alloc _ _)
  rw [← hw2]
  clear hw2
  refine (do_any (w := w2) (A := none) (A2 := some ⟨w1.heap.size, 0, none⟩) (D := none) (c := 0) (c2 := 1) (d0 := 0) (L := []) (E := [(kt1, q)]) (l := []) ⟨1, 0, 0, 0⟩ ⟨2, 0, 0, 3⟩ (tabs_none _) HT.out (.inl rfl) (by rintro ⟨⟩) (by decide) (by show 1 ≤ 10000000000; decide) (by decide)).mono ?_
  rintro e w3 hdo
  obtain ⟨hx3, v, rfl, x, rfl, A1, c1, R1, h0, rfl, hown1, hr1⟩ := DoF.of (Nat.le_refl _) [kt1] hdo arg1 (by decide) (fun T hT _ => only1 hT) known1
  obtain ⟨r1, rfl⟩ := one_row h0
  have HR1 : Hid (VerF w2.heap.size ⟨2, 0, 0, 3⟩ [kt1] (.agg #[.int .i64 2, .int .i64 0, .int .i64 0, .int .i64 3, .slice A1 1 c1]) w3) := ⟨A1, c1, [(kt1, r1)], rfl, rfl, hown1, hr1⟩
  have HX3 : Hid (Ext w w3) := Ext.trans HX2.out hx3
  obtain ⟨A1', c1', e1, hs1, _, _⟩ := hown1.sl
  have HT1 := Lib.hid (own_tabs hown1 hr1)
  clear hdo h0 hown1 hr1 hx3
  go_upto_region 4 with (fail)
  obtain ⟨wa, hwa⟩ : ∃ x, x = w3.alloc (.cells #[.int .i64 2, .int .i64 0, .int .i64 0, .int .i64 3, .slice A1 1 c1] 36) := ⟨_, rfl⟩
  have HWA : Hid (Ext w3 wa) := by rw [hwa]; exact ext_alloc _ _
  have HBA : Hid (wa.heap[w3.heap.size]? = some (.cells #[.int .i64 2, .int .i64 0, .int .i64 0, .int .i64 3, .slice A1 1 c1] 36 (0, 0))) := by rw [hwa]; exact heap_at _ _ rfl
  have HXA : Hid (Ext w wa) := Ext.trans HX3.out HWA.out
  rw [← hwa]
  clear hwa hs1
  have HBU : Hid (∀ u, Ext wa.drew u → w.heap.size ≤ u.heap.size) := fun u hu => (Ext.trans HXA.out (Ext.trans (Ext.drew wa) hu)).size
  have HTU : Hid (∀ u, Ext wa.drew u → tabs u 0 u.heap.size A1 [(kt1, r1)]) := fun u hu => HT1.out.up (Ext.trans HWA.out (Ext.trans (Ext.drew wa) hu))
  refine St.flow (by kernel_rfl) [Is (.agg #[.int .i64 2, .int .i64 0, .int .i64 0, .int .i64 3, .slice A1 1 c1]), NumF [1], TabF w.heap.size kt3, TabF w.heap.size kt2, TabsF [kt3, kt2], EditF [1] [kt3, kt2] ⟨4, 0, 0, 3⟩, DoF w.heap.size ⟨4, 0, 0, 3⟩ [kt2, kt3], DoF w.heap.size ⟨4, 0, 0, 3⟩ [kt2, kt3], VerF w.heap.size ⟨4, 0, 0, 3⟩ [kt2, kt3], Is (.int .i64 0), BoxF w.heap.size, (fun _ _ => True), Is (.int .i64 0)] 11 [9, 12] (fun f u u' => FillV w.heap.size ⟨4, 0, 0, 3⟩ [kt2, kt3] (f 10) (f 8) u u') (by kernel_rfl) (by kernel_rfl) (by kernel_rfl) (by kernel_rfl) (fun _ _ => trivial) ?mono4 ?hS4 (fun f1 => ?obl4) ?fin4
  case mono4 =>
    simp only [List.forall_mem_cons, List.not_mem_nil, false_imp_iff, implies_true, and_true]
    exact ⟨.is _, .num _, .tab _ _, .tab _ _, .tabs _, .edit _ _ _, .done _ _ _, .done _ _ _, .ver _ _ _, .is _, .box _, (fun _ _ _ h _ => h), .is _⟩
  case hS4 =>
    intro f v i u u' hi hs
    simp only [List.mem_cons, List.not_mem_nil, or_false] at hi
    rcases hi with rfl | rfl | rfl <;> exact hs
  case obl4 =>
    refine ⟨fun u hu hd => ?_, ?_⟩
    · have hu2 := Ext.trans (Ext.drew wa) hu
      have q0 := ext_cell hu2 (cell_of HBA.out (k := 0) rfl)
      have q1 := ext_cell hu2 (cell_of HBA.out (k := 1) rfl)
      have q2 := ext_cell hu2 (cell_of HBA.out (k := 2) rfl)
      have q3 := ext_cell hu2 (cell_of HBA.out (k := 3) rfl)
      have q4 := ext_cell hu2 (cell_of HBA.out (k := 4) rfl)
      clear hd hu hu2
      go_simp
      exact ⟨Ext.refl _, rfl⟩
    refine ⟨fun u hu hd => ?_, ?_⟩
    · simp only [Act.put, List.setIfInBounds_toArray, List.set_cons_zero, List.set_cons_succ]
      clear hd hu
      go_simp
      exact ⟨ext_alloc _ _, _, _, rfl, num_lit _⟩
    refine ⟨fun u hu hd => ?_, ?_⟩
    · simp only [Act.put, List.setIfInBounds_toArray, List.set_cons_zero, List.set_cons_succ]
      have HB := Lib.hid (HBU.out u hu)
      clear hd
      go_simp
      refine (mktab_any (n := 3) (lev := 1) (x := 99) (y := 99) (by decide) (by decide) (by decide) (by decide)).mono ?_
      rintro e w9 ⟨q9, rfl, hm, hx⟩
      exact ⟨_, rfl, hx, q9, rfl, hm.base HB.out⟩
    refine ⟨fun u hu hd => ?_, ?_⟩
    · simp only [Act.put, List.setIfInBounds_toArray, List.set_cons_zero, List.set_cons_succ]
      have HB := Lib.hid (HBU.out u hu)
      clear hd
      go_simp
      refine (mktab_any (n := 2) (lev := 1) (x := 97) (y := 98) (by decide) (by decide) (by decide) (by decide)).mono ?_
      rintro e w9 ⟨q9, rfl, hm, hx⟩
      exact ⟨_, rfl, hx, q9, rfl, hm.base HB.out⟩
    refine ⟨fun u hu hd => ?_, ?_⟩
    · simp only [Act.put, List.setIfInBounds_toArray, List.set_cons_zero, List.set_cons_succ]
      obtain ⟨q2, e2, m2⟩ := (show TabF w.heap.size kt3 (f1 2) u from hd 2 (by kernel_rfl))
      obtain ⟨q3, e3, m3⟩ := (show TabF w.heap.size kt2 (f1 3) u from hd 3 (by kernel_rfl))
      have M2 := Lib.hid m2
      have M3 := Lib.hid m3
      clear hd hu m2 m3
      go_simp
      exact ⟨ext_alloc _ _, _, _, [(kt3, q2), (kt2, q3)], rfl, rfl, (by rintro ⟨⟩), lit_tabs (Ps := [(kt3, q2), (kt2, q3)]) fun p hp => (by simp only [List.mem_cons, List.not_mem_nil, or_false] at hp; rcases hp with rfl | rfl <;> first | exact M2.out.wide | exact M3.out.wide)⟩
    refine ⟨fun u hu hd => ?_, ?_⟩
    · simp only [Act.put, List.setIfInBounds_toArray, List.set_cons_zero, List.set_cons_succ]
      obtain ⟨D, d, e1, hs1⟩ := (show NumF [1] (f1 1) u from hd 1 (by kernel_rfl))
      obtain ⟨A, c, R, h0, e4, hn, ht⟩ := (show TabsF [kt3, kt2] (f1 4) u from hd 4 (by kernel_rfl))
      have HN := Lib.hid (And.intro h0 (And.intro hn (And.intro hs1 ht)))
      clear hd hu h0 hn hs1 ht
      go_simp
      exact ⟨Ext.refl _, D, d, A, c, R, HN.out.1, rfl, HN.out.2.1, HN.out.2.2.1, HN.out.2.2.2⟩
    refine ⟨fun u hu hd => ?_, ?_⟩
    · simp only [Act.put, List.setIfInBounds_toArray, List.set_cons_zero, List.set_cons_succ]
      obtain ⟨D, d, A, c, R, h0, e5, hn, hs1, ht⟩ := (show EditF [1] [kt3, kt2] ⟨4, 0, 0, 3⟩ (f1 5) u from hd 5 (by kernel_rfl))
      have e0 : f1 0 = .agg #[.int .i64 2, .int .i64 0, .int .i64 0, .int .i64 3, .slice A1 1 c1] := hd 0 (by kernel_rfl)
      have HN := Lib.hid (And.intro h0 (And.intro hn (And.intro hs1 ht)))
      have HT := Lib.hid (HTU.out u hu)
      have HB := Lib.hid (HBU.out u hu)
      clear hd hu h0 hn hs1 ht
      go_simp
      refine (do_any (w := u) (A := A1) (A2 := A) (D := D) (c := c1) (c2 := c) (d0 := d) (L := [(kt1, r1)]) (E := R) (l := [1]) ⟨2, 0, 0, 3⟩ ⟨4, 0, 0, 3⟩ HT.out HN.out.2.2.2 HN.out.2.2.1 HN.out.2.1 (by show 1 ≤ 10000000000; decide) (by have := congrArg List.length HN.out.1; simp at this; omega) (by decide)).mono ?_
      rintro e w9 hdo
      obtain ⟨hx, v, rfl, hv⟩ := DoF.of HB.out [kt2, kt3] hdo (arg2 rfl) (by unfold okD; rw [rest2]; rfl) (fun T hT hs => only2 (by rw [rest2, List.nil_append, HN.out.1] at hT; exact hT) hs) known2
      exact ⟨v, rfl, hx, hv⟩
    refine ⟨fun u hu hd => ?_, ?_⟩
    · simp only [Act.put, List.setIfInBounds_toArray, List.set_cons_zero, List.set_cons_succ]
      have H6 : Hid (DoF w.heap.size ⟨4, 0, 0, 3⟩ [kt2, kt3] (f1 6) u) := hd 6 (by kernel_rfl)
      clear hd hu
      go_simp
      exact ⟨Ext.refl _, H6.out⟩
    refine ⟨fun u hu hd => ?_, ?_⟩
    · simp only [Act.put, List.setIfInBounds_toArray, List.set_cons_zero, List.set_cons_succ]
      obtain ⟨x, e7, hv⟩ := (show DoF w.heap.size ⟨4, 0, 0, 3⟩ [kt2, kt3] (f1 7) u from hd 7 (by kernel_rfl))
      have HV := Lib.hid hv
      clear hd hu hv
      go_simp
      exact ⟨Ext.refl _, HV.out⟩
    refine ⟨fun u u' hu hd => ?_, ?_⟩
    · simp only [Act.put, List.setIfInBounds_toArray, List.set_cons_zero, List.set_cons_succ]
      obtain ⟨x, e7, hv⟩ := (show DoF w.heap.size ⟨4, 0, 0, 3⟩ [kt2, kt3] (f1 7) u from hd 7 (by kernel_rfl))
      clear hd hu hv
      go_simp
      exact ⟨rfl, rfl⟩
    refine ⟨fun u hu hd => ?_, ?_⟩
    · simp only [Act.put, List.setIfInBounds_toArray, List.set_cons_zero, List.set_cons_succ]
      have HB := Lib.hid (HBU.out u hu)
      clear hd hu
      go_simp
      exact ⟨ext_alloc _ _, _, rfl, HB.out, heap_at _ _ rfl⟩
    refine ⟨fun u hu hall => ?_, ?_⟩
    · simp only [Act.put, List.setIfInBounds_toArray, List.set_cons_zero, List.set_cons_succ]
      obtain ⟨g, e10, hg, hh⟩ := (show BoxF w.heap.size (f1 10) u from hall 10 (by decide) (by decide) (by show 10 < 13; decide))
      obtain ⟨A, c, R, h0, e8, ho, hm⟩ := (show VerF w.heap.size ⟨4, 0, 0, 3⟩ [kt2, kt3] (f1 8) u from hall 8 (by decide) (by decide) (by show 8 < 13; decide))
      have HF := Lib.hid (fill_of (W := ⟨4, 0, 0, 3⟩) (A := A) (c := c) (n := R.length) ⟨g, rfl, hg, hh⟩ ⟨A, c, R, h0, rfl, ho, hm⟩ rfl)
      have q0 := cell_of hh (k := 0) rfl
      have q1 := cell_of hh (k := 1) rfl
      have q2 := cell_of hh (k := 2) rfl
      have q3 := cell_of hh (k := 3) rfl
      have q4 := cell_of hh (k := 4) rfl
      have z0 := frozen_four hh (j := 0)
      have z1 := frozen_four hh (j := 1)
      have z2 := frozen_four hh (j := 2)
      have z3 := frozen_four hh (j := 3)
      have z4 := frozen_four hh (j := 4)
      clear hall hu h0 ho hm hg hh
      go_simp
      exact HF.out
    refine ⟨fun u u' hu hd => ?_, ?_⟩
    · simp only [Act.put, List.setIfInBounds_toArray, List.set_cons_zero, List.set_cons_succ]
      have e9 : f1 9 = .int .i64 0 := hd 9 (by kernel_rfl)
      clear hd hu
      go_simp
      exact ⟨rfl, rfl⟩
    trivial
  case fin4 =>
    intro g1 u1 us hu hg hS
    simp only [puts, Act.put, List.setIfInBounds_toArray, List.set_cons_zero, List.set_cons_succ]
    have h12 : g1 12 = .int .i64 0 := hg 12 (by show 12 < 13; decide) (by decide)
    obtain ⟨hbel, g, A2, c2, R2, e10, hgB, h0, e8, ho, hm, hh⟩ := hS
    have e10b : g1 10 = .pointer (some ⟨g, 0, none⟩) := e10
    rw [h12, e10b]
    have HXU : Hid (Ext w us) := (show Below w.heap.size w u1 from Ext.trans HXA.out (Ext.trans (Ext.drew wa) hu)).trans hbel
    obtain ⟨ra, rb, rfl⟩ := two_row h0
    have HT2 := Lib.hid (own_tabs ho hm)
    obtain ⟨b2, o2, rfl, _, _⟩ := HT2.out.base (by simp)
    have HBB := Lib.hid hh
    have d0 := cell_of hh (k := 0) rfl
    have d1 := cell_of hh (k := 1) rfl
    have d2 := cell_of hh (k := 2) rfl
    have d3 := cell_of hh (k := 3) rfl
    have d4 := cell_of hh (k := 4) rfl
    have n0 : us.cell? ⟨b2, o2, none⟩ = some (.int .i64 2) := by simpa [kt2] using (HT2.out.get (k := 0) rfl).1
    clear hbel h0 ho hm hh h12 e10 e10b e8 hg hu hgB
    go_upto_region 7 with (fail)
    clear d0 d1 d2 d3 d4 n0
    have HBU7 : Hid (∀ u, Ext us.drew u → us.heap.size ≤ u.heap.size) := fun u hu => (Ext.trans (Ext.drew us) hu).size
    have HTU7 : Hid (∀ u, Ext us.drew u → tabs u 0 u.heap.size (some ⟨b2, o2, none⟩) [(kt2, ra), (kt3, rb)]) := fun u hu => HT2.out.up (Ext.trans (Ext.drew us) hu)
    refine St.flow (by kernel_rfl) [Is (.agg #[.int .i64 4, .int .i64 0, .int .i64 0, .int .i64 3, .slice (some ⟨b2, o2, none⟩) 2 c2]), TabF us.heap.size kt4, TabsF [kt4], EditF [] [kt4] ⟨5, 0, 0, 3⟩, Is (.tuple #[noV, .int .i64 9]), Is (.tuple #[noV, .int .i64 9]), Is noV, Is (.int .i64 9), BoxF us.heap.size, (fun _ _ => True), Is (.int .i64 9)] 9 [7, 10] (fun _ u u' => Below us.heap.size u u') (by kernel_rfl) (by kernel_rfl) (by kernel_rfl) (by kernel_rfl) (fun _ _ => trivial) ?mono7 ?hS7 (fun f1 => ?obl7) ?fin7
    case mono7 =>
      simp only [List.forall_mem_cons, List.not_mem_nil, false_imp_iff, implies_true, and_true]
      exact ⟨.is _, .tab _ _, .tabs _, .edit _ _ _, .is _, .is _, .is _, .is _, .box _, (fun _ _ _ h _ => h), .is _⟩
    case hS7 =>
      intro f v i u u' hi hs
      simp only [List.mem_cons, List.not_mem_nil, or_false] at hi
      rcases hi with rfl | rfl | rfl <;> exact hs
    case obl7 =>
      refine ⟨fun u hu hd => ?_, ?_⟩
      · have hu2 := Ext.trans (Ext.drew us) hu
        have q0 := ext_cell hu2 (cell_of HBB.out (k := 0) rfl)
        have q1 := ext_cell hu2 (cell_of HBB.out (k := 1) rfl)
        have q2 := ext_cell hu2 (cell_of HBB.out (k := 2) rfl)
        have q3 := ext_cell hu2 (cell_of HBB.out (k := 3) rfl)
        have q4 := ext_cell hu2 (cell_of HBB.out (k := 4) rfl)
        clear hd hu hu2
        go_simp
        exact ⟨Ext.refl _, rfl⟩
      refine ⟨fun u hu hd => ?_, ?_⟩
      · simp only [Act.put, List.setIfInBounds_toArray, List.set_cons_zero, List.set_cons_succ]
        have HB := Lib.hid (HBU7.out u hu)
        clear hd
        go_simp
        refine (mktab_any (n := 4) (lev := 1) (x := 98) (y := 100) (by decide) (by decide) (by decide) (by decide)).mono ?_
        rintro e w9 ⟨q9, rfl, hm, hx⟩
        exact ⟨_, rfl, hx, q9, rfl, hm.base HB.out⟩
      refine ⟨fun u hu hd => ?_, ?_⟩
      · simp only [Act.put, List.setIfInBounds_toArray, List.set_cons_zero, List.set_cons_succ]
        obtain ⟨q2, e1, m2⟩ := (show TabF us.heap.size kt4 (f1 1) u from hd 1 (by kernel_rfl))
        have M2 := Lib.hid m2
        clear hd hu m2
        go_simp
        exact ⟨ext_alloc _ _, _, _, [(kt4, q2)], rfl, rfl, (by rintro ⟨⟩), lit_tabs (Ps := [(kt4, q2)]) fun p hp => (by rw [List.mem_singleton] at hp; rw [hp]; exact M2.out.wide)⟩
      refine ⟨fun u hu hd => ?_, ?_⟩
      · simp only [Act.put, List.setIfInBounds_toArray, List.set_cons_zero, List.set_cons_succ]
        obtain ⟨A, c, R, h0, e2, hn, ht⟩ := (show TabsF [kt4] (f1 2) u from hd 2 (by kernel_rfl))
        have HN := Lib.hid (And.intro h0 (And.intro hn ht))
        clear hd hu h0 hn ht
        go_simp
        exact ⟨Ext.refl _, none, 0, A, c, R, HN.out.1, rfl, HN.out.2.1, .inl rfl, HN.out.2.2⟩
      refine ⟨fun u hu hd => ?_, ?_⟩
      · simp only [Act.put, List.setIfInBounds_toArray, List.set_cons_zero, List.set_cons_succ]
        obtain ⟨D, d, A, c, R, h0, e3, hn, hs1, ht⟩ := (show EditF [] [kt4] ⟨5, 0, 0, 3⟩ (f1 3) u from hd 3 (by kernel_rfl))
        have e0 : f1 0 = .agg #[.int .i64 4, .int .i64 0, .int .i64 0, .int .i64 3, .slice (some ⟨b2, o2, none⟩) 2 c2] := hd 0 (by kernel_rfl)
        have HN := Lib.hid (And.intro h0 (And.intro hn (And.intro hs1 ht)))
        have HT := Lib.hid (HTU7.out u hu)
        clear hd hu h0 hn hs1 ht
        go_simp
        refine (do_any (w := u) (A := some ⟨b2, o2, none⟩) (A2 := A) (D := D) (c := c2) (c2 := c) (d0 := d) (L := [(kt2, ra), (kt3, rb)]) (E := R) (l := []) ⟨4, 0, 0, 3⟩ ⟨5, 0, 0, 3⟩ HT.out HN.out.2.2.2 HN.out.2.2.1 HN.out.2.1 (by show 2 ≤ 10000000000; decide) (by have := congrArg List.length HN.out.1; simp at this; omega) (by decide)).mono ?_
        rintro e w9 hdo
        obtain ⟨hx, rfl⟩ := do_no [kt2, kt4, kt3] hdo (arg3 rfl) (fun T hT hs => only3 (by rw [restT_nil, List.map_append, HN.out.1] at hT; exact hT) hs) known3
        exact ⟨_, rfl, hx, rfl⟩
      refine ⟨fun u hu hd => ?_, ?_⟩
      · simp only [Act.put, List.setIfInBounds_toArray, List.set_cons_zero, List.set_cons_succ]
        have e4 : f1 4 = .tuple #[noV, .int .i64 9] := hd 4 (by kernel_rfl)
        clear hd hu
        go_simp
        exact ⟨Ext.refl _, rfl⟩
      refine ⟨fun u hu hd => ?_, ?_⟩
      · simp only [Act.put, List.setIfInBounds_toArray, List.set_cons_zero, List.set_cons_succ]
        have e5 : f1 5 = .tuple #[noV, .int .i64 9] := hd 5 (by kernel_rfl)
        clear hd hu
        go_simp
        exact ⟨Ext.refl _, rfl⟩
      refine ⟨fun u u' hu hd => ?_, ?_⟩
      · simp only [Act.put, List.setIfInBounds_toArray, List.set_cons_zero, List.set_cons_succ]
        have e5 : f1 5 = .tuple #[noV, .int .i64 9] := hd 5 (by kernel_rfl)
        clear hd hu
        go_simp
        exact ⟨rfl, rfl⟩
      refine ⟨fun u hu hd => ?_, ?_⟩
      · simp only [Act.put, List.setIfInBounds_toArray, List.set_cons_zero, List.set_cons_succ]
        have HB := Lib.hid (HBU7.out u hu)
        clear hd hu
        go_simp
        exact ⟨ext_alloc _ _, _, rfl, HB.out, heap_at _ _ rfl⟩
      refine ⟨fun u hu hall => ?_, ?_⟩
      · simp only [Act.put, List.setIfInBounds_toArray, List.set_cons_zero, List.set_cons_succ]
        obtain ⟨g, e8, hg, hh⟩ := (show BoxF us.heap.size (f1 8) u from hall 8 (by decide) (by decide) (by show 8 < 11; decide))
        have e6 : f1 6 = noV := hall 6 (by decide) (by decide) (by show 6 < 11; decide)
        unfold noV at e6
        have HG := Lib.hid (And.intro hg hh)
        have q0 := cell_of hh (k := 0) rfl
        have q1 := cell_of hh (k := 1) rfl
        have q2 := cell_of hh (k := 2) rfl
        have q3 := cell_of hh (k := 3) rfl
        have q4 := cell_of hh (k := 4) rfl
        have z0 := frozen_four hh (j := 0)
        have z1 := frozen_four hh (j := 1)
        have z2 := frozen_four hh (j := 2)
        have z3 := frozen_four hh (j := 3)
        have z4 := frozen_four hh (j := 4)
        clear hall hu hg hh
        go_simp
        exact chg_five.below (fun k hk => by rw [hk]; exact HG.out.1) (Nat.le_trans HG.out.1 (Nat.le_of_lt (Array.getElem?_eq_some_iff.1 HG.out.2).1))
      refine ⟨fun u u' hu hd => ?_, ?_⟩
      · simp only [Act.put, List.setIfInBounds_toArray, List.set_cons_zero, List.set_cons_succ]
        have e7 : f1 7 = .int .i64 9 := hd 7 (by kernel_rfl)
        clear hd hu
        go_simp
        exact ⟨rfl, rfl⟩
      trivial
    case fin7 =>
      intro g2 u2 ut hu hg hS
      simp only [puts, Act.put, List.setIfInBounds_toArray, List.set_cons_zero, List.set_cons_succ]
      have h10 : g2 10 = .int .i64 9 := hg 10 (by show 10 < 11; decide) (by decide)
      rw [h10]
      have HXT : Hid (Ext us ut) := (show Below us.heap.size us u2 from Ext.trans (Ext.drew us) hu).trans hS
      clear hu hg hS h10
      have HBT := Lib.hid (ext_heap HXT.out HBB.out)
      have d0 := cell_of HBT.out (k := 0) rfl
      have d1 := cell_of HBT.out (k := 1) rfl
      have d2 := cell_of HBT.out (k := 2) rfl
      have d3 := cell_of HBT.out (k := 3) rfl
      have d4 := cell_of HBT.out (k := 4) rfl
      have kc := fun (w : World) (C : Array Value) (n c : Nat) => Lib.run_convert_bytes_const (P := Try.prog) w 30 5 C n c Try.underlying30 Try.underlying5
      have kc2 := fun (C : Array Value) (n c : Nat) => Go.Joins.run_convert_bytes_const_at (P := Try.prog) (ut.alloc (.cells #[.int .u8 98] 5 (1, 2))) 30 5 C n c (ut.heap.size + 1) (by simp) Try.underlying30 Try.underlying5
      go_wp2_with fail
      obtain ⟨v1, hv1⟩ : ∃ x, x = ut.alloc (.cells #[.int .u8 98] 5 (1, 2)) := ⟨_, rfl⟩
      obtain ⟨v2, hv2⟩ : ∃ x, x = v1.alloc (.cells #[.int .u8 99] 5 (1, 2)) := ⟨_, rfl⟩
      have hx1 : Ext ut v1 := by rw [hv1]; exact ext_alloc _ _
      have hx2 : Ext v1 v2 := by rw [hv2]; exact ext_alloc _ _
      have hz : v1.heap.size = ut.heap.size + 1 := by rw [hv1]; simp
      have HO1 : Hid (Bs v2 0 v2.heap.size (.slice (some ⟨ut.heap.size, 0, none⟩) 1 1) [98]) := ((by rw [hv1]; exact bs_lit ut 98 (1, 2) : Bs v1 0 (ut.heap.size + 1) (.slice (some ⟨ut.heap.size, 0, none⟩) 1 1) [98]).below hx2 (by omega)).wide (Nat.le_refl _) (by have := hx2.size; omega)
      have HO2 : Hid (Bs v2 0 v2.heap.size (.slice (some ⟨v1.heap.size, 0, none⟩) 1 1) [99]) := (by rw [hv2]; exact bs_lit v1 99 (1, 2) : Bs v2 0 (v1.heap.size + 1) (.slice (some ⟨v1.heap.size, 0, none⟩) 1 1) [99]).wide (Nat.le_refl _) (by rw [hv2]; simp)
      have HXV : Hid (Ext us v2) := Ext.trans HXT.out (Ext.trans hx1 hx2)
      have HTV := Lib.hid (HT2.out.up HXV.out)
      rw [hz] at HO2
      have hcl : ((((ut.alloc (.cells #[.int .u8 98] 5 (1, 2))).alloc (.cells #[.int .u8 99] 5 (1, 2)))) : World) = v2 := by rw [hv2, hv1]
      simp only [hcl]
      clear hx1 hx2 hz hcl hv1 hv2 kc kc2 d0 d1 d2 d3 d4
      refine (overlap_any (c := c2) (level := 1) (a := [98]) (b := [99]) ⟨4, 0, 0, 3⟩ HTV.out (by show 2 ≤ 1000000000; decide) (fun p hp => by simp only [List.mem_cons, List.not_mem_nil, or_false] at hp; rcases hp with rfl | rfl <;> exact ⟨by show 1 ≤ 1099511627776; decide, by show 1 ≤ 1099511627776; decide⟩) HO1.out HO2.out (by decide) (by decide)).mono ?_
      rintro e v3 ⟨A5, c5, R5, rfl, h5, ho5, hm5, hx5⟩
      obtain ⟨rc, rd, rfl⟩ := two_row (t := kt2) (s := kt3) (by rw [h5]; rfl)
      have HT5 := Lib.hid (own_tabs ho5 hm5)
      obtain ⟨b5, o5, rfl, _, _⟩ := HT5.out.base (by simp)
      have n0 : v3.cell? ⟨b5, o5, none⟩ = some (.int .i64 2) := by simpa [kt2] using (HT5.out.get (k := 0) rfl).1
      have n1 : v3.cell? ⟨b5, o5 + 5, none⟩ = some (.int .i64 3) := by simpa [kt3] using (HT5.out.get (k := 1) rfl).1
      have HXZ : Hid (Ext w v3) := Ext.trans HXU.out (Ext.trans HXV.out hx5)
      clear h5 ho5 hm5 hx5
      go_wp2_with fail
      go_ret
      exact ⟨rfl, HXZ.out⟩
end Go.Proofs.Ytjlppjffkebejaa

/- Versions and edits that came in. -/
namespace Go.Proofs.Ytjlppjffkebejaa
open Go.ChangeShapes Go.WideShapes Go.ChangeAt Go.RowKit Go.Joins

section
variable {H : Type} {enc : TypeId × Value → H} {W : World}

set_option maxRecDepth 100000 in
/-- A field that is a row of places. -/
theorem cells_tabs {fuel : Nat} {cs : List Value} {y : DataW H × List MemPlace} (h : DataW.trod enc Try.prog W 0 (fun _ => true) true fuel 34 cs = some y)
    (hsz : ∀ n ∈ y.1.weights Try.prog 34, n ≤ reachBytes) :
    ∃ (A : Option Addr) (c : Nat) (L : List (Tab × TabH)), cs = [.slice A L.length c] ∧ L.length ≤ c ∧ c ≤ maxLen ∧ tabs W 0 W.heap.size A L ∧ (∀ p ∈ L, p.1.fst.length ≤ 140737488351232 ∧ p.1.lst.length ≤ 140737488351232) ∧ L.length ≤ 140737488351232 ∧ (A = none → c = 0) := by
  have hC : Try.prog.cellsOf 85 = 5 := by kernel_rfl
  rcases Go.Deep.open_slice Try.underlying34 h with ⟨hcs, _⟩ | ⟨a, len0, cap0, m, n, D, Pl, hcs, _, hl, hm, hmm, hdd, hx⟩
  · exact ⟨none, 0, [], hcs, by simp, by simp [maxLen], ⟨Sl.nil _ _ _ _, by simp⟩, by simp, by simp⟩
  · have hmc : m = cap0 := by rw [hmm]; simp
    have hdd1 : y.1 = .slice ((List.range len0).map D) ((List.range (m - len0)).map fun j => D (len0 + j)) := congrArg Prod.fst hdd
    have hwt : ∀ i, i < len0 → ∀ n ∈ (D i).weights Try.prog 85, n ≤ reachBytes := fun i hi n hn => by
      refine hsz n ?_
      rw [hdd1]
      simp only [DataW.weights, Try.underlying34, List.mem_cons, List.mem_append]
      exact Or.inr (Or.inl (weightsAll_at (List.mem_map.2 ⟨i, List.mem_range.2 hi, rfl⟩) n hn))
    have hlen : len0 ≤ 140737488351232 := by
      have hb1 : 1 ≤ Try.prog.bytesOf 85 := by
        have : Try.prog.bytesOf 85 = 72 := by kernel_rfl
        omega
      have h3 := hsz ((len0 + (m - len0)) * Try.prog.bytesOf 85) (by
        rw [hdd1]
        simp [DataW.weights, Try.underlying34])
      rw [reach_is] at h3
      have h4 : len0 * 1 ≤ (len0 + (m - len0)) * Try.prog.bytesOf 85 := Nat.mul_le_mul (by omega) hb1
      omega
    have each : ∀ i : Nat, ∃ t : Tab × TabH, i < len0 → (∀ j v, j < 5 → (tabcells t)[j]? = some v → W.cell? ((a.add (i * 5)).add j) = some v) ∧ tabAt W 0 W.heap.size t ∧ t.1.fst.length ≤ 140737488351232 ∧ t.1.lst.length ≤ 140737488351232 := by
      intro i
      by_cases hi : i < len0
      · obtain ⟨cs', hc', ht'⟩ := hx i (by omega)
        rw [hC] at hc'
        obtain ⟨_, hcl, hat⟩ := World.cells?_some hc'
        obtain ⟨e, hcc, hem, hw⟩ := cells_tab ht'
        have hw2 := hw (hwt i hi)
        rw [reach_is] at hw2
        exact ⟨e, fun _ => ⟨fun j v hj hv => by rw [hat j hj, hcc]; exact hv, hem, hw2⟩⟩
      · exact ⟨(⟨0, 0, [], [], 0⟩, ⟨none, 0, none, 0⟩), fun h => absurd h hi⟩
    obtain ⟨F, hF⟩ := Classical.axiomOfChoice each
    have hat : ∀ i u, (tabrow ((List.range len0).map F))[i]? = some u → W.cell? (a.add i) = some u := by
      intro i u hu
      have hi : i < len0 * 5 := by
        have := (List.getElem?_eq_some_iff.1 hu).1
        rw [tabrow_length] at this
        simpa using this
      have hi4 : i / 5 < len0 := by omega
      have e1 : i = i / 5 * 5 + i % 5 := by omega
      rw [e1, tabrow_at _ (by simpa using hi4) (by omega)] at hu
      have h1 := (hF (i / 5) hi4).1 (i % 5) u (by omega) (by simpa using hu)
      have e2 : (a.add (i / 5 * 5)).add (i % 5) = a.add i := by
        obtain ⟨b, o, s⟩ := a
        have hc0 := (hF 0 (by omega)).1 0 _ (by omega) rfl
        have hs : s = none := by
          have := World.cell?_spot hc0
          simpa [Addr.add] using this
        subst hs
        rw [addr_add, addr_add, addr_add]
        congr 1; omega
      rw [← e2]; exact h1
    refine ⟨some a, cap0, (List.range len0).map F, by rw [hcs]; simp, by simpa using hl, hm, ⟨?_, ?_⟩, ?_, by simpa using hlen⟩
    · by_cases h0 : len0 = 0
      · exact .inl (by simp [h0, tabrow])
      · obtain ⟨b, o, spot⟩ := a
        have hc0 := (hF 0 (by omega)).1 0 _ (by omega) rfl
        have hspot : spot = none := by
          have := World.cell?_spot hc0
          simpa [Addr.add] using this
        subst hspot
        have hblt : b < W.heap.size := by
          have := World.block_lt_of_cell? W _ hc0
          rw [addr_add, addr_add] at this
          exact this
        exact .inr ⟨b, o, rfl, Nat.zero_le _, hblt, fun i u hu => by have := hat i u hu; rwa [addr_add] at this⟩
    · intro q hq
      simp only [List.mem_map, List.mem_range] at hq
      obtain ⟨i, hi, rfl⟩ := hq
      exact (hF i hi).2.1
    · intro q hq
      simp only [List.mem_map, List.mem_range] at hq
      obtain ⟨i, hi, rfl⟩ := hq
      exact (hF i hi).2.2
set_option maxRecDepth 100000 in
/-- A field that is a row of numbers. -/
theorem cells_nums {fuel : Nat} {cs : List Value} {y : DataW H × List MemPlace} (h : DataW.trod enc Try.prog W 0 (fun _ => true) true fuel 38 cs = some y)
    (hsz : ∀ n ∈ y.1.weights Try.prog 38, n ≤ reachBytes) :
    ∃ (A : Option Addr) (c : Nat) (l : List Int), cs = [.slice A l.length c] ∧ Sl W 0 W.heap.size A (ints l) ∧ (∀ z ∈ l, -9223372036854775808 ≤ z ∧ z ≤ 9223372036854775807) ∧ (A = none → c = 0) ∧ l.length ≤ 140737488351232 := by
  rcases open_ints Try.underlying38 Try.underlying2 (by kernel_rfl) h with ⟨hcs, _⟩ | ⟨x, len, c, zs, hcs, _, hl, hm, hz, hdx, hcell, hwz⟩
  · exact ⟨none, 0, [], hcs, .inl rfl, by simp, fun _ => rfl, by simp⟩
  · have hlen : (zs.take len).length = len := by rw [List.length_take]; simp at hz; omega
    have hb1 : Try.prog.bytesOf 2 = 8 := by kernel_rfl
    have h4 := hsz (((zs.take len).length + (zs.drop len).length) * Try.prog.bytesOf 2) (by rw [hdx]; simp [DataW.weights, Try.underlying38, lits])
    rw [hb1, reach_is, List.length_drop, hlen] at h4
    refine ⟨some x, c, zs.take len, by rw [hlen]; exact hcs, ?_, fun z hz' => ?_, (fun e => by cases e), by rw [hlen]; omega⟩
    · by_cases h0 : len = 0
      · subst h0
        exact .inl (by simp [ints])
      · obtain ⟨b, o, spot⟩ := x
        simp at hz
        have hc0 := hcell 0 (by omega)
        have hspot : spot = none := by simpa [Addr.add] using World.cell?_spot hc0
        subst hspot
        refine .inr ⟨b, o, rfl, Nat.zero_le _, (fun h => by rw [addr_add] at h; exact h) (World.block_lt_of_cell? W ((⟨b, o, none⟩ : Addr).add 0) hc0), fun i u hu => ?_⟩
        have hi : i < len := by
          rcases Nat.lt_or_ge i len with h | h
          · exact h
          · rw [List.getElem?_eq_none (by rw [ints_length, hlen]; exact h)] at hu; cases hu
        have hz1 : i < zs.length := by omega
        have h2 := hcell i hz1
        rw [addr_add] at h2
        rw [h2, ← hu]
        simp [ints, List.getD, hi, List.getElem?_eq_getElem hz1]
    · have := hwz z (List.mem_of_mem_take hz')
      simpa [Lit.wf, IntKind.min, IntKind.max, IntKind.signed, IntKind.bits] using this

/-- A number's bounds. -/
def I64 (n : Int) : Prop := -9223372036854775808 ≤ n ∧ n ≤ 9223372036854775807

set_option maxRecDepth 100000 in
/-- A ver that came in, by value. -/
theorem open_ver {v : Value} {d : DataW H} {p : List MemPlace} {b0 : Nat} (hv : Value.okWide Try.prog W .any b0 36 v) (h : DataW.Trod enc Try.prog W 0 (fun _ => true) true 36 v d p)
    {ts : List TypeId} {ds : List (DataW H)} (hsz : (DataW.weightsEach Try.prog ts ds).all (· ≤ reachBytes) = true) {jj : Nat} (hts : ts[jj]? = some 36) (hds : ds[jj]? = some d) :
    ∃ (V : Ver) (A : Option Addr) (c : Nat) (L : List (Tab × TabH)), v = .agg #[.int .i64 V.next, .int .i64 V.log, .int .i64 V.index, .int .i64 V.seq, .slice A L.length c] ∧ (I64 V.next ∧ I64 V.log ∧ I64 V.index ∧ I64 V.seq) ∧ tabs W 0 W.heap.size A L ∧ (∀ p ∈ L, p.1.fst.length ≤ 140737488351232 ∧ p.1.lst.length ≤ 140737488351232) ∧ (A = none → c = 0) := by
  obtain ⟨cs0, rfl, hs⟩ := okWide_struct Try.underlying36 hv
  obtain ⟨fuel, hf⟩ := h
  have hw0 : ∀ n ∈ d.weights Try.prog 36, n ≤ reachBytes := fun n hn => of_decide_eq_true (List.all_eq_true.1 hsz _ (DataW.weights_mem_each hts hds n hn))
  obtain ⟨xs, n, _, hx, hl, hlen, hfl⟩ := DataW.trod_struct Try.underlying36 hf
  obtain ⟨y0, y1, y2, y3, y4, rfl⟩ : ∃ y0 y1 y2 y3 y4, xs = [y0, y1, y2, y3, y4] := by
    match xs, hlen with
    | [y0, y1, y2, y3, y4], _ => exact ⟨y0, y1, y2, y3, y4, rfl⟩
  have h0 : DataW.trod enc Try.prog W 0 (fun _ => true) true n 2 (((Value.agg cs0).cells.toList.drop 0).take (Try.prog.cellsOf 2)) = some y0 := hfl 0 _ rfl
  have h1 : DataW.trod enc Try.prog W 0 (fun _ => true) true n 2 (((Value.agg cs0).cells.toList.drop 1).take (Try.prog.cellsOf 2)) = some y1 := hfl 1 _ rfl
  have h2 : DataW.trod enc Try.prog W 0 (fun _ => true) true n 2 (((Value.agg cs0).cells.toList.drop 2).take (Try.prog.cellsOf 2)) = some y2 := hfl 2 _ rfl
  have h3 : DataW.trod enc Try.prog W 0 (fun _ => true) true n 2 (((Value.agg cs0).cells.toList.drop 3).take (Try.prog.cellsOf 2)) = some y3 := hfl 3 _ rfl
  have h4 : DataW.trod enc Try.prog W 0 (fun _ => true) true n 34 (((Value.agg cs0).cells.toList.drop 4).take (Try.prog.cellsOf 34)) = some y4 := hfl 4 _ rfl
  have hC : Try.prog.cellsOf 36 = 5 := by kernel_rfl
  have hC0 : Try.prog.cellsOf 2 = 1 := by kernel_rfl
  have hC1 : Try.prog.cellsOf 34 = 1 := by kernel_rfl
  rw [hC] at hl
  obtain ⟨cs, hcs0⟩ : ∃ cs, cs = (Value.agg cs0).cells.toList := ⟨_, rfl⟩
  rw [← hcs0] at hl h0 h1 h2 h3 h4
  obtain ⟨c0_, c1_, c2_, c3_, c4_, rfl⟩ : ∃ c0_ c1_ c2_ c3_ c4_, cs = [c0_, c1_, c2_, c3_, c4_] := by
    match cs, hl with
    | [c0_, c1_, c2_, c3_, c4_], _ => exact ⟨c0_, c1_, c2_, c3_, c4_, rfl⟩
  simp only [hC0, hC1, List.drop_zero, List.take_succ_cons, List.take_zero, List.drop_succ_cons] at h0 h1 h2 h3 h4
  have hwe : ∀ n ∈ DataW.weightsEach Try.prog [2, 2, 2, 2, 34] [y0.1, y1.1, y2.1, y3.1, y4.1], n ≤ reachBytes := fun n hn => hw0 n (by
    rw [show d = _ from congrArg Prod.fst hx]
    simp only [DataW.weights, Try.underlying36]
    exact hn)
  obtain ⟨s0, e0, _, ws0⟩ := DataW.trod_int Try.underlying2 h0
  injection e0 with e0
  obtain ⟨s1, e1, _, ws1⟩ := DataW.trod_int Try.underlying2 h1
  injection e1 with e1
  obtain ⟨s2, e2, _, ws2⟩ := DataW.trod_int Try.underlying2 h2
  injection e2 with e2
  obtain ⟨s3, e3, _, ws3⟩ := DataW.trod_int Try.underlying2 h3
  injection e3 with e3
  obtain ⟨A4, k4, l4, e4, x4, xx4, m4, z4, n4, nn4⟩ := cells_tabs h4 fun n hn => hwe n (DataW.weights_mem_each (j := 4) rfl rfl n hn)
  injection e4 with e4
  subst e0 e1 e2 e3 e4
  have hc : cs0 = #[.int .i64 s0, .int .i64 s1, .int .i64 s2, .int .i64 s3, .slice A4 l4.length k4] := by
    have h9 : cs0.toList = [.int .i64 s0, .int .i64 s1, .int .i64 s2, .int .i64 s3, .slice A4 l4.length k4] := by simpa [Value.cells] using hcs0.symm
    rw [← Array.toArray_toList (xs := cs0), h9]
  rw [hc]
  exact ⟨⟨s0, s1, s2, s3⟩, A4, k4, l4, rfl, ⟨i64_wf ws0, i64_wf ws1, i64_wf ws2, i64_wf ws3⟩, m4, z4, nn4⟩

set_option maxRecDepth 100000 in
/-- A edit that came in, by value. -/
theorem open_edit {v : Value} {d : DataW H} {p : List MemPlace} {b0 : Nat} (hv : Value.okWide Try.prog W .any b0 40 v) (h : DataW.Trod enc Try.prog W 0 (fun _ => true) true 40 v d p)
    {ts : List TypeId} {ds : List (DataW H)} (hsz : (DataW.weightsEach Try.prog ts ds).all (· ≤ reachBytes) = true) {jj : Nat} (hts : ts[jj]? = some 40) (hds : ds[jj]? = some d) :
    ∃ (D : Option Addr) (k : Nat) (l : List Int) (A : Option Addr) (c : Nat) (E : List (Tab × TabH)) (V : Ver), v = .agg #[.slice D l.length k, .slice A E.length c, .int .i64 V.next, .int .i64 V.log, .int .i64 V.index, .int .i64 V.seq] ∧ Sl W 0 W.heap.size D (ints l) ∧ tabs W 0 W.heap.size A E ∧ (∀ p ∈ E, p.1.fst.length ≤ 140737488351232 ∧ p.1.lst.length ≤ 140737488351232) ∧ (A = none → c = 0) ∧ (I64 V.next ∧ I64 V.log ∧ I64 V.index ∧ I64 V.seq) := by
  obtain ⟨cs0, rfl, hs⟩ := okWide_struct Try.underlying40 hv
  obtain ⟨fuel, hf⟩ := h
  have hw0 : ∀ n ∈ d.weights Try.prog 40, n ≤ reachBytes := fun n hn => of_decide_eq_true (List.all_eq_true.1 hsz _ (DataW.weights_mem_each hts hds n hn))
  obtain ⟨xs, n, _, hx, hl, hlen, hfl⟩ := DataW.trod_struct Try.underlying40 hf
  obtain ⟨y0, y1, y2, y3, y4, y5, rfl⟩ : ∃ y0 y1 y2 y3 y4 y5, xs = [y0, y1, y2, y3, y4, y5] := by
    match xs, hlen with
    | [y0, y1, y2, y3, y4, y5], _ => exact ⟨y0, y1, y2, y3, y4, y5, rfl⟩
  have h0 : DataW.trod enc Try.prog W 0 (fun _ => true) true n 38 (((Value.agg cs0).cells.toList.drop 0).take (Try.prog.cellsOf 38)) = some y0 := hfl 0 _ rfl
  have h1 : DataW.trod enc Try.prog W 0 (fun _ => true) true n 34 (((Value.agg cs0).cells.toList.drop 1).take (Try.prog.cellsOf 34)) = some y1 := hfl 1 _ rfl
  have h2 : DataW.trod enc Try.prog W 0 (fun _ => true) true n 2 (((Value.agg cs0).cells.toList.drop 2).take (Try.prog.cellsOf 2)) = some y2 := hfl 2 _ rfl
  have h3 : DataW.trod enc Try.prog W 0 (fun _ => true) true n 2 (((Value.agg cs0).cells.toList.drop 3).take (Try.prog.cellsOf 2)) = some y3 := hfl 3 _ rfl
  have h4 : DataW.trod enc Try.prog W 0 (fun _ => true) true n 2 (((Value.agg cs0).cells.toList.drop 4).take (Try.prog.cellsOf 2)) = some y4 := hfl 4 _ rfl
  have h5 : DataW.trod enc Try.prog W 0 (fun _ => true) true n 2 (((Value.agg cs0).cells.toList.drop 5).take (Try.prog.cellsOf 2)) = some y5 := hfl 5 _ rfl
  have hC : Try.prog.cellsOf 40 = 6 := by kernel_rfl
  have hC0 : Try.prog.cellsOf 38 = 1 := by kernel_rfl
  have hC1 : Try.prog.cellsOf 34 = 1 := by kernel_rfl
  have hC2 : Try.prog.cellsOf 2 = 1 := by kernel_rfl
  rw [hC] at hl
  obtain ⟨cs, hcs0⟩ : ∃ cs, cs = (Value.agg cs0).cells.toList := ⟨_, rfl⟩
  rw [← hcs0] at hl h0 h1 h2 h3 h4 h5
  obtain ⟨c0_, c1_, c2_, c3_, c4_, c5_, rfl⟩ : ∃ c0_ c1_ c2_ c3_ c4_ c5_, cs = [c0_, c1_, c2_, c3_, c4_, c5_] := by
    match cs, hl with
    | [c0_, c1_, c2_, c3_, c4_, c5_], _ => exact ⟨c0_, c1_, c2_, c3_, c4_, c5_, rfl⟩
  simp only [hC0, hC1, hC2, List.drop_zero, List.take_succ_cons, List.take_zero, List.drop_succ_cons] at h0 h1 h2 h3 h4 h5
  have hwe : ∀ n ∈ DataW.weightsEach Try.prog [38, 34, 2, 2, 2, 2] [y0.1, y1.1, y2.1, y3.1, y4.1, y5.1], n ≤ reachBytes := fun n hn => hw0 n (by
    rw [show d = _ from congrArg Prod.fst hx]
    simp only [DataW.weights, Try.underlying40]
    exact hn)
  obtain ⟨A0, k0, l0, e0, m0, x0, nn0, n0⟩ := cells_nums h0 fun n hn => hwe n (DataW.weights_mem_each (j := 0) rfl rfl n hn)
  injection e0 with e0
  obtain ⟨A1, k1, l1, e1, x1, xx1, m1, z1, n1, nn1⟩ := cells_tabs h1 fun n hn => hwe n (DataW.weights_mem_each (j := 1) rfl rfl n hn)
  injection e1 with e1
  obtain ⟨s2, e2, _, ws2⟩ := DataW.trod_int Try.underlying2 h2
  injection e2 with e2
  obtain ⟨s3, e3, _, ws3⟩ := DataW.trod_int Try.underlying2 h3
  injection e3 with e3
  obtain ⟨s4, e4, _, ws4⟩ := DataW.trod_int Try.underlying2 h4
  injection e4 with e4
  obtain ⟨s5, e5, _, ws5⟩ := DataW.trod_int Try.underlying2 h5
  injection e5 with e5
  subst e0 e1 e2 e3 e4 e5
  have hc : cs0 = #[.slice A0 l0.length k0, .slice A1 l1.length k1, .int .i64 s2, .int .i64 s3, .int .i64 s4, .int .i64 s5] := by
    have h9 : cs0.toList = [.slice A0 l0.length k0, .slice A1 l1.length k1, .int .i64 s2, .int .i64 s3, .int .i64 s4, .int .i64 s5] := by simpa [Value.cells] using hcs0.symm
    rw [← Array.toArray_toList (xs := cs0), h9]
  rw [hc]
  exact ⟨A0, k0, l0, A1, k1, l1, ⟨s2, s3, s4, s5⟩, rfl, m0, m1, z1, nn1, i64_wf ws2, i64_wf ws3, i64_wf ws4, i64_wf ws5⟩
end
end Go.Proofs.Ytjlppjffkebejaa
