/- Ordb Ersorted Ertwice Edomath, joined. -/
import Derived.Test.YtjlppjffkebejaaMa2
import Derived.Test.YtjlppjffkebejaaMa1
import Derived.Test.YtjlppjffkebejaaMa8
import Derived.Test.YtjlppjffkebejaaMa6
import Derived.Laws.OwnMore
import Derived.BigQuiet

/- A region that draws its order and appends, walked by a base below which nothing changes. -/
namespace Go.Proofs.Ytjlppjffkebejaa
open Go.ChangeShapes Go.WideShapes Go.ChangeAt Go.RowKit

section
variable {B : Nat} {P : Program} {ops : Array Oper} {Q : Exit → Act → World → Prop}

/-- Whatever comes up next, the world behind it is a later one, and so on. -/
def LaterB (B : Nat) (P : Program) (ops : Array Oper) (Q : Exit → Act → World → Prop) : Nat → Array Bool → Act → World → Prop
  | 0, seen, a, w => Region.ready .any ops seen = [] ∧ Q .normal a w
  | n + 1, seen, a, w => (Region.ready .any ops seen = [] → Q .normal a w) ∧
      ∀ i ∈ Region.ready .any ops seen, wpOp P ops Q i (fun b u => Below B w u ∧ LaterB B P ops Q n (seen.setIfInBounds i true) b u) a w

theorem LaterB.any : ∀ (n : Nat) (seen : Array Bool) (a : Act) (w : World), LaterB B P ops Q n seen a w → wpAny P .any ops Q n seen a w := by
  intro n
  induction n with
  | zero => intro seen a w h; exact h
  | succ n ih => intro seen a w h; exact ⟨h.1, fun i hi => wpOp_mono (fun b u hb => ih _ b u hb.2) (h.2 i hi)⟩

theorem yields_laterB {o : Oper} {v : Value} {a : Act} {w u : World} (h : YieldsIf P ops (Below B w) o v a) (hu : Below B w u) : YieldsIf P ops (Below B u) o v a := by
  rcases h with ⟨h1, h2⟩ | h
  · exact .inl ⟨h1, fun x hx => h2 x (hu.trans hx)⟩
  · exact .inr h

/-- A reading may be done first. -/
theorem LaterB.first {i : Nat} {oi : Oper} {v : Value} (hi : ops[i]? = some oi) (hsel : Region.noSelect ops = true) (hQ : ∀ c a w, Q (.panic c) (a.put oi.dst v) w → Q (.panic c) a w) :
    ∀ (n : Nat) (seen : Array Bool) (a : Act) (w : World), Region.free .any ops seen i = true → i ∈ Region.ready .any ops seen → YieldsIf P ops (Below B w) oi v a →
      (∀ j oj, ops[j]? = some oj → j ≠ i → seen.getD j true = false → (∀ e ∈ oj.after, Region.binds .any e = true → e.on ≠ i) → oi.apart ops oj = true) →
      LaterB B P ops Q n (seen.setIfInBounds i true) (a.put oi.dst v) w → LaterB B P ops Q (n + 1) seen a w := by
  intro n
  induction n with
  | zero =>
    intro seen a w _ hr hy _ H
    refine ⟨fun h => absurd hr (by rw [h]; simp), fun j hj => ?_⟩
    rcases Decidable.em (j = i) with e | e
    · subst e
      exact YieldsIf.wpOp hi hy (Below.refl B w) ⟨Below.refl B w, H⟩
    · have h1 := ready_mono hj e
      rw [H.1] at h1
      cases h1
  | succ n ih =>
    intro seen a w hf hr hy hap H
    refine ⟨fun h => absurd hr (by rw [h]; simp), fun j hj => ?_⟩
    rcases Decidable.em (j = i) with e | e
    · subst e
      exact YieldsIf.wpOp hi hy (Below.refl B w) ⟨Below.refl B w, H⟩
    · obtain ⟨hun, oj, hoj, hall⟩ := mem_ready.1 hj
      have hun' : seen.getD i false = false := by
        have h0 := (mem_ready.1 hr).1
        rcases Nat.lt_or_ge i seen.size with hlt | hge
        · simp [hlt] at h0 ⊢; exact h0
        · simp [Array.getElem?_eq_none hge]
      have hno : ∀ e ∈ oj.after, Region.binds .any e = true → e.on ≠ i := fun x hx hb heq => by
        have := hall x hx hb
        rw [heq, hun'] at this
        cases this
      have h2 := wpOp_putIf hoj (hap j oj hoj e hun hno) (fun cs b => Region.noSelect_spec hsel i oi cs b hi) (fun cs b => Region.noSelect_spec hsel j oj cs b hoj) hQ hy (H.2 j (ready_mono hj e))
      have hap' : ∀ k ok, ops[k]? = some ok → k ≠ i → (seen.setIfInBounds j true).getD k true = false → (∀ e ∈ ok.after, Region.binds .any e = true → e.on ≠ i) → oi.apart ops ok = true := by
        intro k ok hk hki hku hkn
        rcases Decidable.em (j = k) with ejk | ejk
        · subst ejk; exact hap j ok hk hki hun hkn
        · rw [getD_set_ne true ejk] at hku; exact hap k ok hk hki hku hkn
      have hr' := ready_mono hr (Ne.symm e)
      have hf' : Region.free .any ops (seen.setIfInBounds j true) i = true := by
        simp only [Region.free, hi, List.all_eq_true, List.mem_range] at hf ⊢
        intro k hk
        rcases Decidable.em (j = k) with ejk | ejk
        · subst ejk
          have : (seen.setIfInBounds j true).getD j true = true := by
            rcases Nat.lt_or_ge j seen.size with hlt | hge
            · simp [hlt]
            · simp [hge]
          simp [this]
        · rw [getD_set_ne true ejk]; exact hf k hk
      refine wpOp_mono (fun b u h3 => ⟨h3.2.1, ih _ b u hf' hr' (yields_laterB h3.1 h3.2.1) hap' ?_⟩) h2
      rw [Array.setIfInBounds_comm _ _ e]
      exact h3.2.2

theorem atB_start {id : Nat} {a : Act} {w : World} (hm : P.follows .mixedOrders = true) {n : Nat} (hn : ops.size = n) (h : LaterB B P ops Q n (Array.replicate n false) a w.drew) : (Code.region id ops true).wp P Q a w := by
  subst hn
  exact wp_region_any hm (LaterB.any _ _ _ _ h)

theorem atB_read (i : Nat) {n : Nat} {seen : Array Bool} {o : Oper} {v : Value} {a : Act} {w : World} (hl : ops.toList[i]? = some o) (hsel : Region.noSelect ops = true) (hf : Region.free .any ops seen i = true) (hr : (Region.ready .any ops seen).contains i = true)
    (hQ : ∀ c a w, Q (.panic c) (a.put o.dst v) w → Q (.panic c) a w) (hy : YieldsIf P ops (Below B w) o v a) (h : LaterB B P ops Q n (seen.setIfInBounds i true) (a.put o.dst v) w) : LaterB B P ops Q (n + 1) seen a w :=
  have ho : ops[i]? = some o := by rw [← Array.getElem?_toList]; exact hl
  LaterB.first ho hsel hQ n seen a w hf (by simpa using hr) hy (Region.free_spec ho hf) h

theorem atB_make (i : Nat) {n : Nat} {seen : Array Bool} {o : Oper} {a : Act} {w : World} (hl : ops.toList[i]? = some o) (hr : Region.ready .any ops seen = [i])
    (h : ∀ K : Act → World → Prop, (∀ b u, Below B w u → LaterB B P ops Q n (seen.setIfInBounds i true) b u → K b u) → if Region.wanted o (yielded ops a.tmps) = true then Oper.wp P o a w K Q else K (a.put o.dst undef) w) : LaterB B P ops Q (n + 1) seen a w := by
  have ho : ops[i]? = some o := by rw [← Array.getElem?_toList]; exact hl
  refine ⟨fun h0 => (by rw [hr] at h0; cases h0), fun j hj => ?_⟩
  rw [hr] at hj
  simp at hj
  subst hj
  have h1 := h (fun b u => Below B w u ∧ LaterB B P ops Q n (seen.setIfInBounds j true) b u) (fun b u hu hb => ⟨hu, hb⟩)
  unfold wpOp
  simp only [ho]
  split
  · rename_i hw; rw [if_pos hw] at h1; exact .inl h1
  · rename_i hw; rw [if_neg hw] at h1; exact h1

theorem atB_done {seen : Array Bool} {a : Act} {w : World} (hr : Region.ready .any ops seen = []) (h : Q .normal a w) : LaterB B P ops Q 0 seen a w := ⟨hr, h⟩

/-- Whatever comes up next. -/
theorem atB_each {n : Nat} {seen : Array Bool} {a : Act} {w : World} (l : List Nat) (hr : Region.ready .any ops seen = l) (hne : l ≠ [])
    (h : ∀ i ∈ l, ∃ o, ops.toList[i]? = some o ∧ ∀ K : Act → World → Prop, (∀ b u, Below B w u → LaterB B P ops Q n (seen.setIfInBounds i true) b u → K b u) → if Region.wanted o (yielded ops a.tmps) = true then Oper.wp P o a w K Q else K (a.put o.dst undef) w) : LaterB B P ops Q (n + 1) seen a w := by
  refine ⟨fun h0 => absurd (hr.symm.trans h0) hne, fun j hj => ?_⟩
  rw [hr] at hj
  obtain ⟨o, hl, hK⟩ := h j hj
  have ho : ops[j]? = some o := by rw [← Array.getElem?_toList]; exact hl
  have h1 := hK (fun b u => Below B w u ∧ LaterB B P ops Q n (seen.setIfInBounds j true) b u) (fun b u hu hb => ⟨hu, hb⟩)
  unfold wpOp
  simp only [ho]
  split
  · rename_i hw; rw [if_pos hw] at h1; exact .inl h1
  · rename_i hw; rw [if_neg hw] at h1; exact h1
end
end Go.Proofs.Ytjlppjffkebejaa

/- The reference's Sorted. -/
namespace Go.Proofs.Ytjlppjffkebejaa
open Go.ChangeShapes Go.WideShapes Go.ChangeAt Go.RowKit

theorem tsize (w : World) : (sizeOf (Try.prog.elem 34)).run Try.prog w = .ok 5 w := by
  obtain ⟨i0, hi, _, hz1, _⟩ := info_parts tabinfo
  have e : Try.prog.elem 34 = 85 := by kernel_rfl
  rw [e]
  simp [Go.sizeOf, typeInfo, hi, hz1]
theorem tslice_to (A : Option Addr) (n c j : Nat) (hjn : j ≤ n) (hc : n ≤ c) (w : World) :
    (Instr.slice 34 (.slice A n c) none (some (.int .i64 (j : Int))) none).run Try.prog w = .ok (.slice A j c) w := by
  have he : Try.prog.underlying 34 = some (.slice (Try.prog.elem 34)) := by kernel_rfl
  rw [run_slice_h w 34 A n c he .i64 (j : Int) (by omega) (by omega), tsize w]
  by_cases h : c = 0
  · subst h; simp [Result.andThen, sliced]
  · have : ¬ c = 0 := h
    cases A <;> simp [Result.andThen, sliced, Addr.add]
theorem tslice_from (A : Option Addr) (n c k : Nat) (hkn : k ≤ n) (_hc : n ≤ c) (w : World) :
    (Instr.slice 34 (.slice A n c) (some (.int .i64 (k : Int))) none none).run Try.prog w = .ok (.slice (if c = k then A else A.map (·.add (k * 5))) (n - k) (c - k)) w := by
  have he : Try.prog.underlying 34 = some (.slice (Try.prog.elem 34)) := by kernel_rfl
  rw [run_slice_l w 34 A n c he .i64 (k : Int) (by omega) (by omega), tsize w]
  simp [Result.andThen, sliced]
theorem tabrow_take (L : List (Tab × TabH)) (k : Nat) (hk : k ≤ L.length) : tabrow (L.take k) = (tabrow L).take (k * 5) := by
  have h : tabrow L = tabrow (L.take k) ++ tabrow (L.drop k) := by rw [← tabrow_append, List.take_append_drop]
  rw [h, List.take_left' (by rw [tabrow_length, List.length_take, Nat.min_eq_left hk])]
theorem tabrow_drop (L : List (Tab × TabH)) (k : Nat) (hk : k ≤ L.length) : tabrow (L.drop k) = (tabrow L).drop (k * 5) := by
  have h : tabrow L = tabrow (L.take k) ++ tabrow (L.drop k) := by rw [← tabrow_append, List.take_append_drop]
  rw [h, List.drop_left' (by rw [tabrow_length, List.length_take, Nat.min_eq_left hk])]
theorem sl_tabs_drop {w : World} {lo hi c : Nat} {A : Option Addr} {L : List (Tab × TabH)} (h : Sl w lo hi A (tabrow L)) {k : Nat} (hk : k ≤ L.length) (hc : L.length ≤ c) : Sl w lo hi (if c = k then A else A.map (·.add (k * 5))) (tabrow (L.drop k)) := by
  rw [tabrow_drop L k hk]
  have h2 := Sl.drop (k := k * 5) (cap := c * 5) h (by rw [tabrow_length]; omega) (by rw [tabrow_length]; omega)
  by_cases e : c = k
  · rw [if_pos e]; rw [if_pos (by omega)] at h2; exact h2
  · rw [if_neg e]; rw [if_neg (by omega)] at h2; exact h2
theorem sl_tabs_take {w : World} {lo hi : Nat} {A : Option Addr} {L : List (Tab × TabH)} (h : Sl w lo hi A (tabrow L)) {k : Nat} (hk : k ≤ L.length) : Sl w lo hi A (tabrow (L.take k)) := by
  rw [tabrow_take L k hk]; exact Sl.take h _

theorem wrap_next {k : Nat} (h : k ≤ 1000000000) : wrap64 ((k : Int) + 1) = ((k + 1 : Nat) : Int) := by unfold wrap64; omega

set_option maxRecDepth 100000 in
/-- 'append(l, m...)': places to places. -/
theorem wp_addtabs {o : Oper} {a : Act} {K : Act → World → Prop} {Q : Exit → Act → World → Prop} {u : World} (s x : Operand)
    (ho : o.op = .call { callee := .builtin .append, args := #[s, x], argTypes := #[34, 34] }) (C : Nat) (v : Value) (R : List (Tab × TabH)) (hs : a.eval s = v) (hrow : OwnT C R v u)
    (lo hi : Nat) (A2 : Option Addr) (c2 : Nat) (L : List (Tab × TabH)) (hx : a.eval x = .slice A2 L.length c2) (hsl : Sl u lo hi A2 (tabrow L)) (hnil : A2 = none → c2 = 0 ∧ L = []) (hlen : R.length + L.length ≤ 1000000000000) (hB : C ≤ u.heap.size)
    (h : ∀ A' c' w', OwnT C (R ++ L) (.slice A' (R ++ L).length c') w' → (∀ w0, Below C w0 u → Below C w0 w') → K (a.put o.dst (.slice A' (R ++ L).length c')) w') : o.wp Try.prog a u K Q := by
  obtain ⟨i0, hi0', ix0, ix1, ix2⟩ := info_parts tabinfo
  rcases A2 with _ | ad
  · obtain ⟨rfl, rfl⟩ := hnil rfl
    have hrun := run_append_owned_none (P := Try.prog) (w := u) C 34 o.type 85 i0 5 Try.underlying34 hi0' v R.length (tabrow R) hrow
    unfold Oper.wp execOp
    simp only [ho, resolve, invoke, builtin, Sem.run_bind, Sem.run_pure, Result.andThen_ok, List.map_toArray, List.map_cons, List.map_nil, hs, hx, List.length_nil, hrun]
    obtain ⟨A', c', rfl, _⟩ := hrow.sl
    have h2 := h A' c' u (by simpa using hrow) (fun _ hb => hb)
    simp only [List.append_nil] at h2
    exact h2
  · refine wp_append_own u s x 34 ho C 85 i0 _ 5 72 Try.underlying34 hi0' ix0 ix1 ix2 rfl (by decide) v R.length (tabrow R) hs hrow ad L.length c2 (tabrow L) hx (tabrow_length L) (fun j q hj => ?n1) (tabrow_one L) ?n3 ?n4 hB (fun v' w5 hO hgr _ => ?rest)
    case n1 =>
      rcases hsl with h0 | ⟨b, of, he, _, _, hc⟩
      · rw [h0] at hj; simp at hj
      · injection he with he; subst he; rw [addr_add]; exact hc j q hj
    case n3 => unfold maxLen; omega
    case n4 => omega
    case rest =>
      have hrow' : OwnT C (R ++ L) v' w5 := by unfold OwnT; rw [List.length_append, tabrow_append]; exact hO
      obtain ⟨A', c', rfl, _⟩ := hrow'.sl
      exact h A' c' w5 hrow' (fun w0 hb => hb.grown hgr hB fun k hk => (ownT_lt hrow k hk).1)

/-- In order. -/
def SdT (R : List (Tab × TabH)) : Prop := R.Pairwise (fun a b => ¬ cmpT b.1 a.1 < 0)
/-- Put in ahead of the first one that it stands ahead of, it stands in order. -/
theorem put_sorted {R : List (Tab × TabH)} {p : Tab × TabH} {k : Nat} (hs : R.Pairwise (fun a b => ¬ cmpT b.1 a.1 < 0)) (hk : k ≤ R.length) (h1 : ∀ j q, j < k → R[j]? = some q → ¬ cmpT p.1 q.1 < 0) (h2 : ∀ q, R[k]? = some q → cmpT p.1 q.1 < 0) :
    (R.take k ++ [p] ++ R.drop k).Pairwise (fun a b => ¬ cmpT b.1 a.1 < 0) := by
  have hd : ∀ b ∈ R.drop k, cmpT p.1 b.1 < 0 ∨ ¬ cmpT b.1 p.1 < 0 := fun b hb => by
    obtain ⟨j, hj, rfl⟩ := List.mem_iff_getElem.1 hb
    rw [List.length_drop] at hj
    have h0 := h2 R[k] (List.getElem?_eq_getElem (by omega))
    rw [List.getElem_drop]
    cases j with
    | zero => exact .inl h0
    | succ j =>
      refine .inr fun hlt => ?_
      have h3 := List.pairwise_iff_getElem.1 hs k (k + (j + 1)) (by omega) (by omega) (by omega)
      exact h3 (cmpT_trans hlt h0)
  rw [List.append_assoc, List.pairwise_append]
  refine ⟨hs.sublist (List.take_sublist _ _), ?_, fun a ha b hb => ?_⟩
  · rw [List.singleton_append, List.pairwise_cons]
    refine ⟨fun b hb => ?_, hs.sublist (List.drop_sublist _ _)⟩
    rcases hd b hb with h | h
    · exact fun h' => absurd (cmpT_trans h h') (cmpT_irrefl _)
    · exact h
  · obtain ⟨j, hj, rfl⟩ := List.mem_iff_getElem.1 ha
    rw [List.length_take] at hj
    rw [List.getElem_take]
    rcases List.mem_append.1 hb with hb | hb
    · rw [List.mem_singleton] at hb
      rw [hb]
      exact h1 j R[j] (by omega) (List.getElem?_eq_getElem (by omega))
    · obtain ⟨i, hi, rfl⟩ := List.mem_iff_getElem.1 hb
      rw [List.length_drop] at hi
      rw [List.getElem_drop]
      exact List.pairwise_iff_getElem.1 hs j (k + i) (by omega) (by omega) (by omega)
theorem put_perm {R M : List (Tab × TabH)} {p : Tab × TabH} (k : Nat) (h : R.Perm M) : (R.take k ++ [p] ++ R.drop k).Perm (M ++ [p]) := by
  rw [List.append_assoc]
  refine (List.perm_append_comm_assoc (R.take k) [p] (R.drop k)).trans ?_
  rw [List.take_append_drop]
  exact (List.perm_append_comm).trans (h.append_right _)

set_option maxRecDepth 100000 in
set_option maxHeartbeats 8000000 in
theorem rsorted_any {w : World} {A : Option Addr} {c : Nat} {L : List (Tab × TabH)} (h : tabs w 0 w.heap.size A L) (hlen : L.length ≤ 1000000) (hln : ∀ p ∈ L, p.1.fst.length ≤ 140737488351232) :
    Calls Try.prog 71 #[.slice A L.length c] w fun e w' => ∃ A' c' R, R.Perm L ∧ SdT R ∧ e = .returned (.slice A' R.length c') ∧ OwnT w.heap.size R (.slice A' R.length c') w' ∧ Ext w w' := by
  have HE := Lib.hid h
  have HL := Lib.hid hlen
  have HLN := Lib.hid hln
  have hlI : (L.length : Int) ≤ 1000000 := by omega
  clear h hln hlen
  go_enter Try.func71, Try.ntmps71
  go_wp2_with fail
  go_loopw [3, 4] (fun v a wr => ∃ (i : Nat) (R : List (Tab × TabH)), a = .int .i64 (i : Int) ∧ i ≤ L.length ∧ Hid (R.Perm (L.take i) ∧ SdT R) ∧ Hid (OwnT w.heap.size R v wr) ∧ Hid (Ext w wr)) (fun _ a _ => L.length - (intOf a).toNat)
  case atStart => exact ⟨0, [], rfl, by omega, ⟨by simp, List.Pairwise.nil⟩, World.ownsRow_nil _ _ _ _, Ext.refl _⟩
  case round =>
    obtain ⟨i, R, rfl, hm, HRP, HR, HX⟩ := hrel
    have HRL : Hid (R.length = i) := by
      have := HRP.out.1.length_eq
      rw [List.length_take] at this
      unfold Hid; omega
    by_cases hlt : i < L.length
    rotate_left
    · have d : decide ((i : Int) < (L.length : Int)) = false := by simp; omega
      have d2 : decide (i < L.length) = false := by simp; omega
      have hi : i = L.length := by omega
      have HPM : Hid (R.Perm L) := by have := HRP.out.1; rw [hi, List.take_of_length_le (Nat.le_refl _)] at this; exact this
      obtain ⟨O, co, rfl, _⟩ := HR.out.sl
      clear hlt hm hi
      go_wp2_with fail
      go_ret
      exact ⟨O, co, R, HPM.out, HRP.out.2, rfl, HR.out, HX.out⟩
    have d : decide ((i : Int) < (L.length : Int)) = true := by simp; omega
    have d2 : decide (i < L.length) = true := by simp; omega
    obtain ⟨p, hp⟩ : ∃ p, L[i]? = some p := ⟨_, List.getElem?_eq_getElem hlt⟩
    obtain ⟨b, o, rfl, _, _⟩ := HE.out.base (by omega)
    have HGP : Hid (∀ u, Ext w u → u.cell? ⟨b, o + i * 5, none⟩ = some (.int .i64 p.1.num) ∧ u.cell? ⟨b, o + i * 5 + 1, none⟩ = some (.int .i64 p.1.lev) ∧ u.cell? ⟨b, o + i * 5 + 2, none⟩ = some (.slice p.2.fstA p.1.fst.length p.2.fstc) ∧ u.cell? ⟨b, o + i * 5 + 3, none⟩ = some (.slice p.2.lstA p.1.lst.length p.2.lstc) ∧ u.cell? ⟨b, o + i * 5 + 4, none⟩ = some (.int .i64 p.1.siz)) := fun u hu => (HE.out.below hu (Nat.le_refl _)).get hp
    have HTP := Lib.hid (HE.out.each p (List.mem_of_getElem? hp))
    have HP1 := Lib.hid hp
    have HPL := Lib.hid (HLN.out p (List.mem_of_getElem? hp))
    have hw2 : wrap64 ((i : Int) + 1) = ((i + 1 : Nat) : Int) := by have := HL.out; unfold wrap64; omega
    have n3 : (0 : Int) ≤ (i : Int) := by omega
    have n4 : (i : Int) < (L.length : Int) := by omega
    have HLT := Lib.hid hlt
    obtain ⟨O, co, rfl, hso, hno, hco⟩ := HR.out.sl
    have HSO : Hid (∀ u, OwnT w.heap.size R (.slice O R.length co) u → Ext w u → tabs u 0 u.heap.size O R) := fun u h1 hx => by
      obtain ⟨O', co', e, hs, _⟩ := h1.sl
      injection e with e1 _ _
      subst e1
      exact ⟨hs.wide (Nat.zero_le _) (Nat.le_refl _), fun q hq => ((HE.out.each q (List.mem_of_mem_take (HRP.out.1.mem_iff.1 hq))).below hx (Nat.le_refl _)).wide (Nat.le_refl _) hx.size⟩
    have HCO := Lib.hid (And.intro hno hco)
    have HQL : Hid (∀ q ∈ R, q.1.fst.length ≤ 140737488351232) := fun q hq => HLN.out q (List.mem_of_mem_take (HRP.out.1.mem_iff.1 hq))
    have rlI : (R.length : Int) ≤ 1000000 := by have := HRL.out; omega
    clear hp hlt hm hso hno hco
    go_wp2_with fail
    go_loopw [5] (fun a ws => ∃ k : Nat, a = .int .i64 (k : Int) ∧ k ≤ R.length ∧ Hid (∀ j q, j < k → R[j]? = some q → ¬ cmpT p.1 q.1 < 0) ∧ Hid (OwnT w.heap.size R (.slice O R.length co) ws) ∧ Hid (Ext w ws)) (fun a _ => R.length - (intOf a).toNat)
    case atStart => exact ⟨0, rfl, by omega, fun j q hj => by omega, HR.out, HX.out⟩
    case round =>
      obtain ⟨k, rfl, hk, HK, HR2, HX3⟩ := hrel
      obtain ⟨z, hz⟩ : ∃ z : Bool, z = (match R[k]? with | some q => !decide (cmpT p.1 q.1 < 0) | none => false) := ⟨_, rfl⟩
      have HZ := Lib.hid hz
      have HKR := Lib.hid hk
      have HSW := Lib.hid (HSO.out _ HR2.out HX3.out)
      clear hz
      go_upto_region 6 with (fail)
      go_cut [27] from 12 to 29 (fun v wx => v = .bool z ∧ Hid (Ext wr wx))
      case first =>
        by_cases hkr : k < R.length
        · obtain ⟨q, hq⟩ : ∃ q, R[k]? = some q := ⟨_, List.getElem?_eq_getElem hkr⟩
          obtain ⟨b2, o2, rfl, _, _⟩ := HSW.out.base (by omega)
          have HGQ : Hid (∀ u, Ext wr u → u.cell? ⟨b2, o2 + k * 5, none⟩ = some (.int .i64 q.1.num) ∧ u.cell? ⟨b2, o2 + k * 5 + 1, none⟩ = some (.int .i64 q.1.lev) ∧ u.cell? ⟨b2, o2 + k * 5 + 2, none⟩ = some (.slice q.2.fstA q.1.fst.length q.2.fstc) ∧ u.cell? ⟨b2, o2 + k * 5 + 3, none⟩ = some (.slice q.2.lstA q.1.lst.length q.2.lstc) ∧ u.cell? ⟨b2, o2 + k * 5 + 4, none⟩ = some (.int .i64 q.1.siz)) := fun u hu => (HSW.out.below hu (Nat.le_refl _)).get hq
          have HGPR : Hid (∀ u, Ext wr u → u.cell? ⟨b, o + i * 5, none⟩ = some (.int .i64 p.1.num) ∧ u.cell? ⟨b, o + i * 5 + 1, none⟩ = some (.int .i64 p.1.lev) ∧ u.cell? ⟨b, o + i * 5 + 2, none⟩ = some (.slice p.2.fstA p.1.fst.length p.2.fstc) ∧ u.cell? ⟨b, o + i * 5 + 3, none⟩ = some (.slice p.2.lstA p.1.lst.length p.2.lstc) ∧ u.cell? ⟨b, o + i * 5 + 4, none⟩ = some (.int .i64 p.1.siz)) := fun u hu => HGP.out u (Ext.trans HX3.out hu)
          obtain ⟨y, hy⟩ : ∃ y, y = decide (cmpT p.1 q.1 < 0) := ⟨_, rfl⟩
          have HZV : Hid (z = !y) := by rw [Hid, HZ.out, hq, hy]
          have HAH : Hid (∀ u, Ext wr u → Calls Try.prog 65 #[.agg #[.int .i64 p.1.num, .int .i64 p.1.lev, .slice p.2.fstA p.1.fst.length p.2.fstc, .slice p.2.lstA p.1.lst.length p.2.lstc, .int .i64 p.1.siz], .agg #[.int .i64 q.1.num, .int .i64 q.1.lev, .slice q.2.fstA q.1.fst.length q.2.fstc, .slice q.2.lstA q.1.lst.length q.2.lstc, .int .i64 q.1.siz]] u fun e w' => e = .returned (.bool y) ∧ Ext u w') := fun u hu => by
            rw [hy]
            exact rahead_any (HTP.out.below (Ext.trans HX3.out hu) (Nat.le_refl _)) ((HSW.out.each q (List.mem_of_getElem? hq)).below hu (Nat.le_refl _)) (Ext.trans HX3.out hu).size hu.size HPL.out (HQL.out q (List.mem_of_getElem? hq))
          have d3 : decide ((k : Int) < (R.length : Int)) = true := by simp; omega
          have d4 : decide (k < R.length) = true := by simp; omega
          have n5 : (0 : Int) ≤ (k : Int) := by omega
          have n6 : (k : Int) < (R.length : Int) := by omega
          clear hq hy hkr hk
          refine flow (by kernel_rfl) [Is (.int .i64 (k : Int)), Is (.slice (some ⟨b2, o2, none⟩) R.length co), Is (.int .i64 (R.length : Int)), Is (.bool true), Is (.bool true), Is (.slice (some ⟨b, o, none⟩) L.length c), Is (.int .i64 (i : Int)), Is (.pointer (some ⟨b, o + i * 5, none⟩)), Is (.agg #[.int .i64 p.1.num, .int .i64 p.1.lev, .slice p.2.fstA p.1.fst.length p.2.fstc, .slice p.2.lstA p.1.lst.length p.2.lstc, .int .i64 p.1.siz]), Is (.slice (some ⟨b2, o2, none⟩) R.length co), Is (.int .i64 (k : Int)), Is (.pointer (some ⟨b2, o2 + k * 5, none⟩)), Is (.agg #[.int .i64 q.1.num, .int .i64 q.1.lev, .slice q.2.fstA q.1.fst.length q.2.fstc, .slice q.2.lstA q.1.lst.length q.2.lstc, .int .i64 q.1.siz]), Is (.bool y), Is (.bool (!y)), Is (.bool (!y))] (by kernel_rfl) (by kernel_rfl) ?mono (fun f1 => ?obl) ?fin
          case mono =>
            simp only [List.forall_mem_cons, List.not_mem_nil, false_imp_iff, implies_true, and_true]
            exact ⟨.is _, .is _, .is _, .is _, .is _, .is _, .is _, .is _, .is _, .is _, .is _, .is _, .is _, .is _, .is _, .is _⟩
          case fin =>
            intro g1 u hu hg
            simp only [puts, Act.put, List.setIfInBounds_toArray, List.set_cons_zero, List.set_cons_succ]
            have h15 : g1 15 = .bool (!y) := hg 15 (by decide)
            rw [h15]
            have HXF : Hid (Ext wr u) := Ext.trans (Ext.drew wr) hu
            clear h15 hg hu
            go_wp2_with fail
            go_meet
            case rel => exact ⟨by rw [HZV.out], HXF.out⟩
          case obl =>
            refine ⟨fun u hu hd => ?_, ?_⟩
            · go_simp
              exact ⟨Ext.refl _, rfl⟩
            refine ⟨fun u hu hd => ?_, ?_⟩
            · simp only [Act.put, List.setIfInBounds_toArray, List.set_cons_zero, List.set_cons_succ]
              go_simp
              exact ⟨Ext.refl _, rfl⟩
            refine ⟨fun u hu hd => ?_, ?_⟩
            · simp only [Act.put, List.setIfInBounds_toArray, List.set_cons_zero, List.set_cons_succ]
              have e1 : f1 1 = .slice (some ⟨b2, o2, none⟩) R.length co := hd 1 (by kernel_rfl)
              go_simp
              exact ⟨Ext.refl _, rfl⟩
            refine ⟨fun u hu hd => ?_, ?_⟩
            · simp only [Act.put, List.setIfInBounds_toArray, List.set_cons_zero, List.set_cons_succ]
              have e0 : f1 0 = .int .i64 (k : Int) := hd 0 (by kernel_rfl)
              have e2 : f1 2 = .int .i64 (R.length : Int) := hd 2 (by kernel_rfl)
              go_simp
              exact ⟨Ext.refl _, rfl⟩
            refine ⟨fun u hu hd => ?_, ?_⟩
            · simp only [Act.put, List.setIfInBounds_toArray, List.set_cons_zero, List.set_cons_succ]
              have e3 : f1 3 = .bool true := hd 3 (by kernel_rfl)
              go_simp
              exact ⟨Ext.refl _, rfl⟩
            refine ⟨fun u hu hd => ?_, ?_⟩
            · simp only [Act.put, List.setIfInBounds_toArray, List.set_cons_zero, List.set_cons_succ]
              have e4 : f1 4 = .bool true := hd 4 (by kernel_rfl)
              go_simp
              exact ⟨Ext.refl _, rfl⟩
            refine ⟨fun u hu hd => ?_, ?_⟩
            · simp only [Act.put, List.setIfInBounds_toArray, List.set_cons_zero, List.set_cons_succ]
              have e4 : f1 4 = .bool true := hd 4 (by kernel_rfl)
              go_simp
              exact ⟨Ext.refl _, rfl⟩
            refine ⟨fun u hu hd => ?_, ?_⟩
            · simp only [Act.put, List.setIfInBounds_toArray, List.set_cons_zero, List.set_cons_succ]
              have e4 : f1 4 = .bool true := hd 4 (by kernel_rfl)
              have e5 : f1 5 = .slice (some ⟨b, o, none⟩) L.length c := hd 5 (by kernel_rfl)
              have e6 : f1 6 = .int .i64 (i : Int) := hd 6 (by kernel_rfl)
              go_simp
              exact ⟨Ext.refl _, rfl⟩
            refine ⟨fun u hu hd => ?_, ?_⟩
            · simp only [Act.put, List.setIfInBounds_toArray, List.set_cons_zero, List.set_cons_succ]
              have e4 : f1 4 = .bool true := hd 4 (by kernel_rfl)
              have e7 : f1 7 = .pointer (some ⟨b, o + i * 5, none⟩) := hd 7 (by kernel_rfl)
              have hu2 := Ext.trans (Ext.drew wr) hu
              obtain ⟨q0, q1, q2, q3, q4⟩ := HGPR.out u hu2
              go_simp
              exact ⟨Ext.refl _, rfl⟩
            refine ⟨fun u hu hd => ?_, ?_⟩
            · simp only [Act.put, List.setIfInBounds_toArray, List.set_cons_zero, List.set_cons_succ]
              have e4 : f1 4 = .bool true := hd 4 (by kernel_rfl)
              go_simp
              exact ⟨Ext.refl _, rfl⟩
            refine ⟨fun u hu hd => ?_, ?_⟩
            · simp only [Act.put, List.setIfInBounds_toArray, List.set_cons_zero, List.set_cons_succ]
              have e4 : f1 4 = .bool true := hd 4 (by kernel_rfl)
              go_simp
              exact ⟨Ext.refl _, rfl⟩
            refine ⟨fun u hu hd => ?_, ?_⟩
            · simp only [Act.put, List.setIfInBounds_toArray, List.set_cons_zero, List.set_cons_succ]
              have e4 : f1 4 = .bool true := hd 4 (by kernel_rfl)
              have e9 : f1 9 = .slice (some ⟨b2, o2, none⟩) R.length co := hd 9 (by kernel_rfl)
              have e10 : f1 10 = .int .i64 (k : Int) := hd 10 (by kernel_rfl)
              go_simp
              exact ⟨Ext.refl _, rfl⟩
            refine ⟨fun u hu hd => ?_, ?_⟩
            · simp only [Act.put, List.setIfInBounds_toArray, List.set_cons_zero, List.set_cons_succ]
              have e4 : f1 4 = .bool true := hd 4 (by kernel_rfl)
              have e11 : f1 11 = .pointer (some ⟨b2, o2 + k * 5, none⟩) := hd 11 (by kernel_rfl)
              have hu2 := Ext.trans (Ext.drew wr) hu
              obtain ⟨q0, q1, q2, q3, q4⟩ := HGQ.out u hu2
              go_simp
              exact ⟨Ext.refl _, rfl⟩
            refine ⟨fun u hu hd => ?_, ?_⟩
            · simp only [Act.put, List.setIfInBounds_toArray, List.set_cons_zero, List.set_cons_succ]
              have e4 : f1 4 = .bool true := hd 4 (by kernel_rfl)
              have e8 : f1 8 = .agg #[.int .i64 p.1.num, .int .i64 p.1.lev, .slice p.2.fstA p.1.fst.length p.2.fstc, .slice p.2.lstA p.1.lst.length p.2.lstc, .int .i64 p.1.siz] := hd 8 (by kernel_rfl)
              have e12 : f1 12 = .agg #[.int .i64 q.1.num, .int .i64 q.1.lev, .slice q.2.fstA q.1.fst.length q.2.fstc, .slice q.2.lstA q.1.lst.length q.2.lstc, .int .i64 q.1.siz] := hd 12 (by kernel_rfl)
              have HF := Lib.hid (HAH.out u (Ext.trans (Ext.drew wr) hu))
              clear hd hu
              go_simp
              refine HF.out.mono ?_
              rintro e w9 ⟨rfl, hx9⟩
              exact ⟨_, rfl, hx9, rfl⟩
            refine ⟨fun u hu hd => ?_, ?_⟩
            · simp only [Act.put, List.setIfInBounds_toArray, List.set_cons_zero, List.set_cons_succ]
              have e4 : f1 4 = .bool true := hd 4 (by kernel_rfl)
              have e13 : f1 13 = .bool y := hd 13 (by kernel_rfl)
              go_simp
              exact ⟨Ext.refl _, rfl⟩
            refine ⟨fun u hu hd => ?_, ?_⟩
            · simp only [Act.put, List.setIfInBounds_toArray, List.set_cons_zero, List.set_cons_succ]
              have e4 : f1 4 = .bool true := hd 4 (by kernel_rfl)
              have e14 : f1 14 = .bool (!y) := hd 14 (by kernel_rfl)
              go_simp
              exact ⟨Ext.refl _, rfl⟩
            trivial
        · have d3 : decide ((k : Int) < (R.length : Int)) = false := by simp; omega
          have d4 : decide (k < R.length) = false := by simp; omega
          have HZV : Hid (z = false) := by rw [Hid, HZ.out, List.getElem?_eq_none (by omega)]
          clear hkr hk
          refine flow (by kernel_rfl) [Is (.int .i64 (k : Int)), Is (.slice O R.length co), Is (.int .i64 (R.length : Int)), Is (.bool false), Is (.bool false), Is undef, Is undef, Is undef, Is undef, Is undef, Is undef, Is undef, Is undef, Is undef, Is undef, Is (.bool false)] (by kernel_rfl) (by kernel_rfl) ?mono (fun f1 => ?obl) ?fin
          case mono =>
            simp only [List.forall_mem_cons, List.not_mem_nil, false_imp_iff, implies_true, and_true]
            exact ⟨.is _, .is _, .is _, .is _, .is _, .is _, .is _, .is _, .is _, .is _, .is _, .is _, .is _, .is _, .is _, .is _⟩
          case fin =>
            intro g1 u hu hg
            simp only [puts, Act.put, List.setIfInBounds_toArray, List.set_cons_zero, List.set_cons_succ]
            have h15 : g1 15 = .bool false := hg 15 (by decide)
            rw [h15]
            have HXF : Hid (Ext wr u) := Ext.trans (Ext.drew wr) hu
            clear h15 hg hu
            go_wp2_with fail
            go_meet
            case rel => exact ⟨by rw [HZV.out], HXF.out⟩
          case obl =>
            refine ⟨fun u hu hd => ?_, ?_⟩
            · go_simp
              exact ⟨Ext.refl _, rfl⟩
            refine ⟨fun u hu hd => ?_, ?_⟩
            · simp only [Act.put, List.setIfInBounds_toArray, List.set_cons_zero, List.set_cons_succ]
              go_simp
              exact ⟨Ext.refl _, rfl⟩
            refine ⟨fun u hu hd => ?_, ?_⟩
            · simp only [Act.put, List.setIfInBounds_toArray, List.set_cons_zero, List.set_cons_succ]
              have e1 : f1 1 = .slice O R.length co := hd 1 (by kernel_rfl)
              go_simp
              exact ⟨Ext.refl _, rfl⟩
            refine ⟨fun u hu hd => ?_, ?_⟩
            · simp only [Act.put, List.setIfInBounds_toArray, List.set_cons_zero, List.set_cons_succ]
              have e0 : f1 0 = .int .i64 (k : Int) := hd 0 (by kernel_rfl)
              have e2 : f1 2 = .int .i64 (R.length : Int) := hd 2 (by kernel_rfl)
              go_simp
              exact ⟨Ext.refl _, rfl⟩
            refine ⟨fun u hu hd => ?_, ?_⟩
            · simp only [Act.put, List.setIfInBounds_toArray, List.set_cons_zero, List.set_cons_succ]
              have e3 : f1 3 = .bool false := hd 3 (by kernel_rfl)
              go_simp
              exact ⟨Ext.refl _, rfl⟩
            refine ⟨fun u hu hd => ?_, ?_⟩
            · simp only [Act.put, List.setIfInBounds_toArray, List.set_cons_zero, List.set_cons_succ]
              have e4 : f1 4 = .bool false := hd 4 (by kernel_rfl)
              go_simp
              rfl
            refine ⟨fun u hu hd => ?_, ?_⟩
            · simp only [Act.put, List.setIfInBounds_toArray, List.set_cons_zero, List.set_cons_succ]
              have e4 : f1 4 = .bool false := hd 4 (by kernel_rfl)
              go_simp
              rfl
            refine ⟨fun u hu hd => ?_, ?_⟩
            · simp only [Act.put, List.setIfInBounds_toArray, List.set_cons_zero, List.set_cons_succ]
              have e4 : f1 4 = .bool false := hd 4 (by kernel_rfl)
              go_simp
              rfl
            refine ⟨fun u hu hd => ?_, ?_⟩
            · simp only [Act.put, List.setIfInBounds_toArray, List.set_cons_zero, List.set_cons_succ]
              have e4 : f1 4 = .bool false := hd 4 (by kernel_rfl)
              go_simp
              rfl
            refine ⟨fun u hu hd => ?_, ?_⟩
            · simp only [Act.put, List.setIfInBounds_toArray, List.set_cons_zero, List.set_cons_succ]
              have e4 : f1 4 = .bool false := hd 4 (by kernel_rfl)
              go_simp
              rfl
            refine ⟨fun u hu hd => ?_, ?_⟩
            · simp only [Act.put, List.setIfInBounds_toArray, List.set_cons_zero, List.set_cons_succ]
              have e4 : f1 4 = .bool false := hd 4 (by kernel_rfl)
              go_simp
              rfl
            refine ⟨fun u hu hd => ?_, ?_⟩
            · simp only [Act.put, List.setIfInBounds_toArray, List.set_cons_zero, List.set_cons_succ]
              have e4 : f1 4 = .bool false := hd 4 (by kernel_rfl)
              go_simp
              rfl
            refine ⟨fun u hu hd => ?_, ?_⟩
            · simp only [Act.put, List.setIfInBounds_toArray, List.set_cons_zero, List.set_cons_succ]
              have e4 : f1 4 = .bool false := hd 4 (by kernel_rfl)
              go_simp
              rfl
            refine ⟨fun u hu hd => ?_, ?_⟩
            · simp only [Act.put, List.setIfInBounds_toArray, List.set_cons_zero, List.set_cons_succ]
              have e4 : f1 4 = .bool false := hd 4 (by kernel_rfl)
              go_simp
              rfl
            refine ⟨fun u hu hd => ?_, ?_⟩
            · simp only [Act.put, List.setIfInBounds_toArray, List.set_cons_zero, List.set_cons_succ]
              have e4 : f1 4 = .bool false := hd 4 (by kernel_rfl)
              go_simp
              rfl
            refine ⟨fun u hu hd => ?_, ?_⟩
            · simp only [Act.put, List.setIfInBounds_toArray, List.set_cons_zero, List.set_cons_succ]
              have e4 : f1 4 = .bool false := hd 4 (by kernel_rfl)
              go_simp
              exact ⟨Ext.refl _, rfl⟩
            trivial
      case rest =>
      obtain ⟨rfl, HXC⟩ := hcut
      have HXW : Hid (Ext w wc) := Ext.trans HX3.out HXC.out
      have HRX : Hid (OwnT w.heap.size R (.slice O R.length co) wc) := HR2.out.below HXC.out
      have hw3 := wrap_next (k := k) (by have := HKR.out; omega)
      cases z with
      | true =>
        have HKN : Hid (k < R.length ∧ ∀ j q, j < k + 1 → R[j]? = some q → ¬ cmpT p.1 q.1 < 0) := by
          have h1 := HZ.out
          by_cases hkr : k < R.length
          · refine ⟨hkr, fun j q hj hq => ?_⟩
            by_cases hjk : j = k
            · rw [hjk] at hq; rw [hq] at h1; simpa using h1.symm
            · exact HK.out j q (by omega) hq
          · rw [List.getElem?_eq_none (by omega)] at h1; cases h1
        clear hk
        go_wp2_with fail
        rw [hw3]
        refine ⟨⟨k + 1, rfl, HKN.out.1, HKN.out.2, HRX.out, HXW.out⟩, by have := HKN.out.1; simp [intOf]; omega⟩
      | false =>
        have HKE : Hid (∀ q, R[k]? = some q → cmpT p.1 q.1 < 0) := fun q hq => by have h1 := HZ.out; rw [hq] at h1; simpa using h1.symm
        have HS1 := Lib.hid (fun W => tslice_to O R.length co k HKR.out HCO.out.2 W)
        obtain ⟨X, hX⟩ : ∃ X, X = (if co = k then O else O.map (·.add (k * 5))) := ⟨_, rfl⟩
        have HS2 : Hid (∀ W, (Instr.slice 34 (.slice O R.length co) (some (.int .i64 (k : Int))) none none).run Try.prog W = .ok (.slice X (R.length - k) (co - k)) W) := fun W => by rw [hX]; exact tslice_from O R.length co k HKR.out HCO.out.2 W
        have HEX := Lib.hid hX
        clear hX hk
        go_upto_region 8 with (fail)
        have HXD : Hid (Ext w wc.drew) := Ext.trans HXW.out (Ext.drew wc)
        have HB6 : Hid (wc.heap.size ≤ wc.drew.heap.size) := (Ext.drew wc).size
        have HBW : Hid (w.heap.size ≤ wc.heap.size) := HXW.out.size
        have HSD : Hid (∀ u, Below wc.heap.size wc.drew u → Sl u 0 wc.heap.size O (tabrow R)) := fun u hu => ((HSO.out wc HRX.out HXW.out).outer.below (Ext.drew wc) (Nat.le_refl _)).below hu (Nat.le_refl _)
        have HPD : Hid (∀ u, Below wc.heap.size wc.drew u → u.cell? ⟨b, o + i * 5, none⟩ = some (.int .i64 p.1.num) ∧ u.cell? ⟨b, o + i * 5 + 1, none⟩ = some (.int .i64 p.1.lev) ∧ u.cell? ⟨b, o + i * 5 + 2, none⟩ = some (.slice p.2.fstA p.1.fst.length p.2.fstc) ∧ u.cell? ⟨b, o + i * 5 + 3, none⟩ = some (.slice p.2.lstA p.1.lst.length p.2.lstc) ∧ u.cell? ⟨b, o + i * 5 + 4, none⟩ = some (.int .i64 p.1.siz)) := fun u hu => HGP.out u (Ext.trans HXW.out ((Ext.drew wc).trans hu))
        refine atB_start (B := wc.heap.size) (by kernel_rfl) (n := 15) rfl ?_
        clear HRX HXW HXC
        generalize wc.drew = w6 at *
        generalize wc.heap.size = B at *
        (refine atB_read 0 (v := ?_) rfl (by kernel_rfl) (by kernel_rfl) (by kernel_rfl) (fun _ _ _ h => h) (.inl ⟨by rfl, fun u hu => ?_⟩) ?_; rotate_left; (focus (go_simp; try with_reducible rfl)); simp only [Act.put, List.setIfInBounds_toArray, List.set_cons_zero, List.set_cons_succ])
        (refine atB_read 1 (v := ?_) rfl (by kernel_rfl) (by kernel_rfl) (by kernel_rfl) (fun _ _ _ h => h) (.inl ⟨by rfl, fun u hu => ?_⟩) ?_; rotate_left; (focus (go_simp; try with_reducible rfl)); simp only [Act.put, List.setIfInBounds_toArray, List.set_cons_zero, List.set_cons_succ])
        (refine atB_read 2 (v := ?_) rfl (by kernel_rfl) (by kernel_rfl) (by kernel_rfl) (fun _ _ _ h => h) (.inl ⟨by rfl, fun u hu => ?_⟩) ?_; rotate_left; (focus (have q1 := HS1.out u; go_simp; try with_reducible rfl)); simp only [Act.put, List.setIfInBounds_toArray, List.set_cons_zero, List.set_cons_succ])
        (refine atB_read 4 (v := ?_) rfl (by kernel_rfl) (by kernel_rfl) (by kernel_rfl) (fun _ _ _ h => h) (.inl ⟨by rfl, fun u hu => ?_⟩) ?_; rotate_left; (focus (go_simp; try with_reducible rfl)); simp only [Act.put, List.setIfInBounds_toArray, List.set_cons_zero, List.set_cons_succ])
        (refine atB_read 5 (v := ?_) rfl (by kernel_rfl) (by kernel_rfl) (by kernel_rfl) (fun _ _ _ h => h) (.inl ⟨by rfl, fun u hu => ?_⟩) ?_; rotate_left; (focus (go_simp; try with_reducible rfl)); simp only [Act.put, List.setIfInBounds_toArray, List.set_cons_zero, List.set_cons_succ])
        (refine atB_read 6 (v := ?_) rfl (by kernel_rfl) (by kernel_rfl) (by kernel_rfl) (fun _ _ _ h => h) (.inl ⟨by rfl, fun u hu => ?_⟩) ?_; rotate_left; (focus (go_simp; try with_reducible rfl)); simp only [Act.put, List.setIfInBounds_toArray, List.set_cons_zero, List.set_cons_succ])
        (refine atB_read 7 (v := ?_) rfl (by kernel_rfl) (by kernel_rfl) (by kernel_rfl) (fun _ _ _ h => h) (.inl ⟨by rfl, fun u hu => ?_⟩) ?_; rotate_left; (focus (obtain ⟨q0, q1, q2, q3, q4⟩ := HPD.out u hu; go_simp; try with_reducible rfl)); simp only [Act.put, List.setIfInBounds_toArray, List.set_cons_zero, List.set_cons_succ])
        (refine atB_read 10 (v := ?_) rfl (by kernel_rfl) (by kernel_rfl) (by kernel_rfl) (fun _ _ _ h => h) (.inl ⟨by rfl, fun u hu => ?_⟩) ?_; rotate_left; (focus (go_simp; try with_reducible rfl)); simp only [Act.put, List.setIfInBounds_toArray, List.set_cons_zero, List.set_cons_succ])
        (refine atB_read 11 (v := ?_) rfl (by kernel_rfl) (by kernel_rfl) (by kernel_rfl) (fun _ _ _ h => h) (.inl ⟨by rfl, fun u hu => ?_⟩) ?_; rotate_left; (focus (go_simp; try with_reducible rfl)); simp only [Act.put, List.setIfInBounds_toArray, List.set_cons_zero, List.set_cons_succ])
        (refine atB_read 12 (v := ?_) rfl (by kernel_rfl) (by kernel_rfl) (by kernel_rfl) (fun _ _ _ h => h) (.inl ⟨by rfl, fun u hu => ?_⟩) ?_; rotate_left; (focus (have q1 := HS2.out u; go_simp; try with_reducible rfl)); simp only [Act.put, List.setIfInBounds_toArray, List.set_cons_zero, List.set_cons_succ])
        have hT : (R.take k).length = k := by rw [List.length_take, Nat.min_eq_left HKR.out]
        have hD : (R.drop k).length = R.length - k := List.length_drop ..
        have HXw6 : Hid (Below B w6 w6) := Below.refl _ _
        refine atB_each [3, 8] (by kernel_rfl) (by decide) ?_
        intro i0 hi0
        simp only [List.mem_cons, List.not_mem_nil, or_false] at hi0
        rcases hi0 with rfl | rfl
        · refine ⟨_, rfl, fun K hK => ?_⟩
          rw [if_pos (by rfl)]
          refine wp_addtabs (.const (.slice none 0 0)) (.tmp 32) rfl w6.heap.size (.slice none 0 0) [] rfl (World.ownsRow_nil _ _ _ _) 0 B O co (R.take k) (by rw [hT]; rfl) (sl_tabs_take (HSD.out w6 HXw6.out) HKR.out) ?_ ?_ (Nat.le_refl _) ?_
          · exact fun hA => ⟨HCO.out.1 hA, List.eq_nil_of_length_eq_zero (by have := HCO.out.1 hA; have := HCO.out.2; have := HKR.out; rw [hT]; omega)⟩
          · rw [hT]; have := HKR.out; have := HL.out; simp; omega
          intro A3 c3 u3 hrow3 hbel3
          have HZu3 : Hid (Ext w6 u3) := hbel3 w6 (Below.refl _ _)
          have HYu3 : Hid (Below B w6 u3) := HZu3.out.mono (Nat.le_trans HB6.out HXw6.out.size)
          have HXu3 : Hid (Below B w6 u3) := HXw6.out.trans HYu3.out
          have HR3 : Hid (OwnT B (R.take k) (.slice A3 k c3) u3) := by have h := hrow3.base (Nat.le_trans HB6.out HXw6.out.size); rw [List.nil_append, hT] at h; exact h
          rw [List.nil_append, hT]
          refine hK _ _ HYu3.out ?_
          clear hK K hrow3 hbel3
          try simp only [Act.put, List.setIfInBounds_toArray, List.set_cons_zero, List.set_cons_succ]
          refine atB_make 8 rfl (by kernel_rfl) (fun K hK => ?_)
          go_simp
          have HYu8 : Hid (Below B u3 (u3.alloc (.cells #[.int .i64 p.1.num, .int .i64 p.1.lev, .slice p.2.fstA p.1.fst.length p.2.fstc, .slice p.2.lstA p.1.lst.length p.2.lstc, .int .i64 p.1.siz] 85))) := (Below.refl _ _).alloc (Nat.le_trans HB6.out HXu3.out.size) _
          refine hK _ (u3.alloc (.cells #[.int .i64 p.1.num, .int .i64 p.1.lev, .slice p.2.fstA p.1.fst.length p.2.fstc, .slice p.2.lstA p.1.lst.length p.2.lstc, .int .i64 p.1.siz] 85)) HYu8.out ?_
          clear hK K
          try simp only [Act.put, List.setIfInBounds_toArray, List.set_cons_zero, List.set_cons_succ]
          obtain ⟨u8, hu8⟩ : ∃ x, x = u3.alloc (.cells #[.int .i64 p.1.num, .int .i64 p.1.lev, .slice p.2.fstA p.1.fst.length p.2.fstc, .slice p.2.lstA p.1.lst.length p.2.lstc, .int .i64 p.1.siz] 85) := ⟨_, rfl⟩
          rw [← hu8] at HYu8 ⊢
          have HXu8 : Hid (Below B w6 u8) := HXu3.out.trans HYu8.out
          have HB8 : Hid (u8.heap[u3.heap.size]? = some (.cells (tabcells p).toArray 85 (0, 0))) := by rw [hu8]; exact heap_at _ _ rfl
          have HE8 : Hid (Ext u3 u8) := by rw [hu8]; exact ext_alloc _ _
          have HG8 : Hid (B ≤ u3.heap.size) := Nat.le_trans HB6.out HXu3.out.size
          obtain ⟨g8, hg8⟩ : ∃ g, g = u3.heap.size := ⟨_, rfl⟩
          rw [← hg8] at HB8 HG8 ⊢
          clear hg8
          clear hu8
          have HR9 : Hid (OwnT B (R.take k) (.slice A3 k c3) u8) := HR3.out.below HE8.out
          have HB9 := HB8
          refine atB_make 9 rfl (by kernel_rfl) (fun K hK => ?_)
          rw [if_pos (by rfl)]
          refine wp_addtabs (.tmp 33) (.tmp 38) rfl B (.slice A3 k c3) (R.take k) rfl HR9.out 0 (g8 + 1) (some ⟨g8, 0, none⟩) 1 [p] rfl (.inr ⟨g8, 0, rfl, Nat.zero_le _, Nat.lt_succ_self _, fun i v hv => ?_⟩) (fun e => by cases e) ?_ (Nat.le_trans HB6.out HXu8.out.size) ?_
          · rw [Nat.zero_add]; exact cell_of HB9.out (by simpa [tabrow] using hv)
          · rw [hT]; have := HKR.out; have := HL.out; simp; omega
          intro A9 c9 u9 hrow9 hbel9
          have HXu9 : Hid (Below B w6 u9) := hbel9 w6 HXu8.out
          have HYu9 : Hid (Below B u8 u9) := hbel9 u8 (Below.refl _ _)
          have HRT := Lib.hid hrow9
          refine hK _ _ HYu9.out ?_
          clear hK K hrow9 hbel9
          try simp only [Act.put, List.setIfInBounds_toArray, List.set_cons_zero, List.set_cons_succ]
          refine atB_make 13 rfl (by kernel_rfl) (fun K hK => ?_)
          rw [if_pos (by rfl)]
          refine wp_addtabs (.tmp 39) (.tmp 42) rfl B (.slice A9 (R.take k ++ [p]).length c9) (R.take k ++ [p]) rfl HRT.out 0 B X (co - k) (R.drop k) (by rw [hD]; rfl) (by rw [HEX.out]; exact sl_tabs_drop (HSD.out u9 HXu9.out) HKR.out HCO.out.2) ?_ ?_ (Nat.le_trans HB6.out HXu9.out.size) ?_
          · rw [HEX.out]
            intro hA
            have h1 := HCO.out.1
            have h2 := HCO.out.2
            have h3 := HKR.out
            by_cases hck : co = k
            · exact ⟨by omega, List.eq_nil_of_length_eq_zero (by rw [hD]; omega)⟩
            · rw [if_neg hck] at hA
              cases O with
              | none => have := h1 rfl; omega
              | some a => simp at hA
          · rw [List.length_append, hT, hD]; have := HKR.out; have := HL.out; simp only [List.length_cons, List.length_nil]; omega
          intro AA cA uA hrowA hbelA
          have HXuA : Hid (Below B w6 uA) := hbelA w6 HXu9.out
          have HYuA : Hid (Below B u9 uA) := hbelA u9 (Below.refl _ _)
          have HRA := Lib.hid hrowA
          refine hK _ _ HYuA.out ?_
          clear hK K hrowA hbelA
          try simp only [Act.put, List.setIfInBounds_toArray, List.set_cons_zero, List.set_cons_succ]
          obtain ⟨nA, hnA⟩ : ∃ n, n = (R.take k ++ [p] ++ R.drop k).length := ⟨_, rfl⟩
          have HNA := Lib.hid hnA
          rw [← hnA]
          clear hnA
          (refine atB_read 14 (v := ?_) rfl (by kernel_rfl) (by kernel_rfl) (by kernel_rfl) (fun _ _ _ h => h) (.inl ⟨by rfl, fun u hu => ?_⟩) ?_; rotate_left; (focus (go_simp; try with_reducible rfl)); simp only [Act.put, List.setIfInBounds_toArray, List.set_cons_zero, List.set_cons_succ])
          refine atB_done (by kernel_rfl) ?_
          have HXZ : Hid (Ext w uA) := (show Below w.heap.size w w6 from HXD.out).trans (HXuA.out.mono HBW.out)
          clear hT hD
          go_wp2_with fail
          refine ⟨⟨i + 1, R.take k ++ [p] ++ R.drop k, rfl, HLT.out, ⟨?_, put_sorted HRP.out.2 HKR.out HK.out HKE.out⟩, ?_, HXZ.out⟩, by have := HLT.out; simp [intOf]; omega⟩
          · rw [List.take_add_one, HP1.out]; exact put_perm k HRP.out.1
          · rw [HNA.out]; exact HRA.out.base HBW.out
        · refine ⟨_, rfl, fun K hK => ?_⟩
          go_simp
          have HYu8 : Hid (Below B w6 (w6.alloc (.cells #[.int .i64 p.1.num, .int .i64 p.1.lev, .slice p.2.fstA p.1.fst.length p.2.fstc, .slice p.2.lstA p.1.lst.length p.2.lstc, .int .i64 p.1.siz] 85))) := (Below.refl _ _).alloc (Nat.le_trans HB6.out HXw6.out.size) _
          refine hK _ (w6.alloc (.cells #[.int .i64 p.1.num, .int .i64 p.1.lev, .slice p.2.fstA p.1.fst.length p.2.fstc, .slice p.2.lstA p.1.lst.length p.2.lstc, .int .i64 p.1.siz] 85)) HYu8.out ?_
          clear hK K
          try simp only [Act.put, List.setIfInBounds_toArray, List.set_cons_zero, List.set_cons_succ]
          obtain ⟨u8, hu8⟩ : ∃ x, x = w6.alloc (.cells #[.int .i64 p.1.num, .int .i64 p.1.lev, .slice p.2.fstA p.1.fst.length p.2.fstc, .slice p.2.lstA p.1.lst.length p.2.lstc, .int .i64 p.1.siz] 85) := ⟨_, rfl⟩
          rw [← hu8] at HYu8 ⊢
          have HXu8 : Hid (Below B w6 u8) := HXw6.out.trans HYu8.out
          have HB8 : Hid (u8.heap[w6.heap.size]? = some (.cells (tabcells p).toArray 85 (0, 0))) := by rw [hu8]; exact heap_at _ _ rfl
          have HE8 : Hid (Ext w6 u8) := by rw [hu8]; exact ext_alloc _ _
          have HG8 : Hid (B ≤ w6.heap.size) := Nat.le_trans HB6.out HXw6.out.size
          obtain ⟨g8, hg8⟩ : ∃ g, g = w6.heap.size := ⟨_, rfl⟩
          rw [← hg8] at HB8 HG8 ⊢
          clear hg8
          clear hu8
          refine atB_make 3 rfl (by kernel_rfl) (fun K hK => ?_)
          rw [if_pos (by rfl)]
          refine wp_addtabs (.const (.slice none 0 0)) (.tmp 32) rfl u8.heap.size (.slice none 0 0) [] rfl (World.ownsRow_nil _ _ _ _) 0 B O co (R.take k) (by rw [hT]; rfl) (sl_tabs_take (HSD.out u8 HXu8.out) HKR.out) ?_ ?_ (Nat.le_refl _) ?_
          · exact fun hA => ⟨HCO.out.1 hA, List.eq_nil_of_length_eq_zero (by have := HCO.out.1 hA; have := HCO.out.2; have := HKR.out; rw [hT]; omega)⟩
          · rw [hT]; have := HKR.out; have := HL.out; simp; omega
          intro A3 c3 u3 hrow3 hbel3
          have HZu3 : Hid (Ext u8 u3) := hbel3 u8 (Below.refl _ _)
          have HYu3 : Hid (Below B u8 u3) := HZu3.out.mono (Nat.le_trans HB6.out HXu8.out.size)
          have HXu3 : Hid (Below B w6 u3) := HXu8.out.trans HYu3.out
          have HR3 : Hid (OwnT B (R.take k) (.slice A3 k c3) u3) := by have h := hrow3.base (Nat.le_trans HB6.out HXu8.out.size); rw [List.nil_append, hT] at h; exact h
          rw [List.nil_append, hT]
          refine hK _ _ HYu3.out ?_
          clear hK K hrow3 hbel3
          try simp only [Act.put, List.setIfInBounds_toArray, List.set_cons_zero, List.set_cons_succ]
          have HR9 := HR3
          have HB9 : Hid (u3.heap[g8]? = some (.cells (tabcells p).toArray 85 (0, 0))) := ext_heap HZu3.out HB8.out
          refine atB_make 9 rfl (by kernel_rfl) (fun K hK => ?_)
          rw [if_pos (by rfl)]
          refine wp_addtabs (.tmp 33) (.tmp 38) rfl B (.slice A3 k c3) (R.take k) rfl HR9.out 0 (g8 + 1) (some ⟨g8, 0, none⟩) 1 [p] rfl (.inr ⟨g8, 0, rfl, Nat.zero_le _, Nat.lt_succ_self _, fun i v hv => ?_⟩) (fun e => by cases e) ?_ (Nat.le_trans HB6.out HXu3.out.size) ?_
          · rw [Nat.zero_add]; exact cell_of HB9.out (by simpa [tabrow] using hv)
          · rw [hT]; have := HKR.out; have := HL.out; simp; omega
          intro A9 c9 u9 hrow9 hbel9
          have HXu9 : Hid (Below B w6 u9) := hbel9 w6 HXu3.out
          have HYu9 : Hid (Below B u3 u9) := hbel9 u3 (Below.refl _ _)
          have HRT := Lib.hid hrow9
          refine hK _ _ HYu9.out ?_
          clear hK K hrow9 hbel9
          try simp only [Act.put, List.setIfInBounds_toArray, List.set_cons_zero, List.set_cons_succ]
          refine atB_make 13 rfl (by kernel_rfl) (fun K hK => ?_)
          rw [if_pos (by rfl)]
          refine wp_addtabs (.tmp 39) (.tmp 42) rfl B (.slice A9 (R.take k ++ [p]).length c9) (R.take k ++ [p]) rfl HRT.out 0 B X (co - k) (R.drop k) (by rw [hD]; rfl) (by rw [HEX.out]; exact sl_tabs_drop (HSD.out u9 HXu9.out) HKR.out HCO.out.2) ?_ ?_ (Nat.le_trans HB6.out HXu9.out.size) ?_
          · rw [HEX.out]
            intro hA
            have h1 := HCO.out.1
            have h2 := HCO.out.2
            have h3 := HKR.out
            by_cases hck : co = k
            · exact ⟨by omega, List.eq_nil_of_length_eq_zero (by rw [hD]; omega)⟩
            · rw [if_neg hck] at hA
              cases O with
              | none => have := h1 rfl; omega
              | some a => simp at hA
          · rw [List.length_append, hT, hD]; have := HKR.out; have := HL.out; simp only [List.length_cons, List.length_nil]; omega
          intro AA cA uA hrowA hbelA
          have HXuA : Hid (Below B w6 uA) := hbelA w6 HXu9.out
          have HYuA : Hid (Below B u9 uA) := hbelA u9 (Below.refl _ _)
          have HRA := Lib.hid hrowA
          refine hK _ _ HYuA.out ?_
          clear hK K hrowA hbelA
          try simp only [Act.put, List.setIfInBounds_toArray, List.set_cons_zero, List.set_cons_succ]
          obtain ⟨nA, hnA⟩ : ∃ n, n = (R.take k ++ [p] ++ R.drop k).length := ⟨_, rfl⟩
          have HNA := Lib.hid hnA
          rw [← hnA]
          clear hnA
          (refine atB_read 14 (v := ?_) rfl (by kernel_rfl) (by kernel_rfl) (by kernel_rfl) (fun _ _ _ h => h) (.inl ⟨by rfl, fun u hu => ?_⟩) ?_; rotate_left; (focus (go_simp; try with_reducible rfl)); simp only [Act.put, List.setIfInBounds_toArray, List.set_cons_zero, List.set_cons_succ])
          refine atB_done (by kernel_rfl) ?_
          have HXZ : Hid (Ext w uA) := (show Below w.heap.size w w6 from HXD.out).trans (HXuA.out.mono HBW.out)
          clear hT hD
          go_wp2_with fail
          refine ⟨⟨i + 1, R.take k ++ [p] ++ R.drop k, rfl, HLT.out, ⟨?_, put_sorted HRP.out.2 HKR.out HK.out HKE.out⟩, ?_, HXZ.out⟩, by have := HLT.out; simp [intOf]; omega⟩
          · rw [List.take_add_one, HP1.out]; exact put_perm k HRP.out.1
          · rw [HNA.out]; exact HRA.out.base HBW.out
end Go.Proofs.Ytjlppjffkebejaa

/- The reference's Twice: is a number there twice? -/
namespace Go.Proofs.Ytjlppjffkebejaa
open Go.ChangeShapes Go.WideShapes Go.ChangeAt Go.RowKit

set_option maxRecDepth 100000 in
set_option maxHeartbeats 4000000 in
theorem twice_any {w : World} {A : Option Addr} {c : Nat} {l : List Int} (h : Sl w 0 w.heap.size A (ints l)) (hlen : l.length ≤ 1000000000000) :
    Calls Try.prog 25 #[.slice A l.length c] w fun x w' => ∃ z : Bool, (z = true ↔ ¬ l.Nodup) ∧ x = .returned (.bool z) ∧ Ext w w' := by
  have HE := Lib.hid h
  have HL := Lib.hid hlen
  have hlI : (l.length : Int) ≤ 1000000000000 := by omega
  have HAT : Hid (0 < l.length → ∃ b o, A = some ⟨b, o, none⟩ ∧ ∀ u, Ext w u → ∀ (j : Nat) (n : Int), l[j]? = some n → u.cell? ⟨b, o + j, none⟩ = some (.int .i64 n)) := fun h0 => by
    rcases h with h1 | ⟨b, o, h1, h2, h3, h4⟩
    · have := congrArg List.length h1
      rw [ints_length, List.length_nil] at this; omega
    · exact ⟨b, o, h1, fun u hu j n hn => ext_cell hu (h4 j _ (by unfold ints; rw [List.getElem?_map, hn]; rfl))⟩
  clear h hlen
  go_enter Try.func25, Try.ntmps25
  go_wp2_with fail
  go_loopw [3] (fun a wr => ∃ i : Nat, a = .int .i64 (i : Int) ∧ i ≤ l.length ∧ Hid (∀ (j k : Nat) (x y : Int), j < i → k < j → l[j]? = some x → l[k]? = some y → x ≠ y) ∧ Hid (Ext w wr)) (fun a _ => l.length - (intOf a).toNat)
  case atStart => exact ⟨0, rfl, by omega, fun j k x y hj => by omega, Ext.refl _⟩
  case round =>
    obtain ⟨i, rfl, hm, HR, HX⟩ := hrel
    by_cases hlt : i < l.length
    rotate_left
    · have d : decide ((i : Int) < (l.length : Int)) = false := by simp; omega
      have d2 : decide (i < l.length) = false := by simp; omega
      have HALL : Hid (l.Nodup) := by
        refine List.pairwise_iff_getElem.2 fun a b ha hb hab => ?_
        exact fun e => HR.out b a _ _ (by omega) hab (List.getElem?_eq_getElem hb) (List.getElem?_eq_getElem ha) e.symm
      clear hlt hm
      go_wp2_with fail
      go_ret
      exact ⟨false, ⟨fun h => (by cases h), fun h => absurd HALL.out h⟩, rfl, HX.out⟩
    have d : decide ((i : Int) < (l.length : Int)) = true := by simp; omega
    have d2 : decide (i < l.length) = true := by simp; omega
    obtain ⟨b, o, rfl, hat⟩ := HAT.out (by omega)
    have HC := Lib.hid hat
    obtain ⟨x, hx⟩ : ∃ x, l[i]? = some x := ⟨_, List.getElem?_eq_getElem hlt⟩
    have HX1 := Lib.hid hx
    have HLT := Lib.hid hlt
    have hw2 : wrap64 ((i : Int) + 1) = ((i + 1 : Nat) : Int) := by have := HL.out; unfold wrap64; omega
    have n3 : (0 : Int) ≤ (i : Int) := by omega
    have n4 : (i : Int) < (l.length : Int) := by omega
    clear hx hlt hm hat
    go_wp2_with fail
    go_loopw [4] (fun a ws => ∃ k : Nat, a = .int .i64 (k : Int) ∧ k ≤ i ∧ Hid (∀ (j : Nat) (y : Int), j < k → l[j]? = some y → x ≠ y) ∧ Hid (Ext w ws)) (fun a _ => i - (intOf a).toNat)
    case atStart => exact ⟨0, rfl, by omega, fun j y hj => by omega, HX.out⟩
    case round =>
      obtain ⟨k, rfl, hk, HR2, HX3⟩ := hrel
      by_cases hki : k < i
      rotate_left
      · have f1 : decide ((k : Int) < (i : Int)) = false := by simp; omega
        have f2 : decide (k < i) = false := by simp; omega
        have hki2 : k = i := by omega
        have HDONE : Hid (∀ (j : Nat) (y : Int), j < i → l[j]? = some y → x ≠ y) := by rw [← hki2]; exact HR2.out
        clear hki hk hki2
        go_wp2_with fail
        refine ⟨⟨i + 1, rfl, HLT.out, fun j k' x' y hj hkj hx' hy => ?_, HX3.out⟩, by have := HLT.out; simp [intOf]; omega⟩
        by_cases hji : j = i
        · rw [hji, HX1.out] at hx'
          injection hx' with hx'
          rw [← hx']
          exact HDONE.out k' y (by omega) hy
        · exact HR.out j k' x' y (by omega) hkj hx' hy
      have f1 : decide ((k : Int) < (i : Int)) = true := by simp; omega
      have f2 : decide (k < i) = true := by simp; omega
      obtain ⟨y, hy⟩ : ∃ y, l[k]? = some y := ⟨_, List.getElem?_eq_getElem (by have := HLT.out; omega)⟩
      have c0 := HC.out wr HX3.out i x HX1.out
      have c1 := HC.out wr HX3.out k y hy
      have HY1 := Lib.hid hy
      have HKI := Lib.hid hki
      have hw3 : wrap64 ((k : Int) + 1) = ((k + 1 : Nat) : Int) := by have := HL.out; have := HLT.out; unfold wrap64; omega
      have n5 : (0 : Int) ≤ (k : Int) := by omega
      have n6 : (k : Int) < (l.length : Int) := by have := HLT.out; omega
      clear hy hki hk
      by_cases hxy : x = y
      · have e : (x == y) = true := by simp [hxy]
        have HNO : Hid (¬ l.Nodup) := fun hn => by
          obtain ⟨hi', ei⟩ := List.getElem?_eq_some_iff.1 HX1.out
          obtain ⟨hk', ek⟩ := List.getElem?_eq_some_iff.1 HY1.out
          have := List.pairwise_iff_getElem.1 hn k i hk' hi' HKI.out
          rw [ei, ek] at this
          exact this hxy.symm
        clear hxy
        go_wp2_with fail
        go_quiet (fail)
        go_wp2_with fail
        go_ret
        exact ⟨true, ⟨fun _ => HNO.out, fun _ => rfl⟩, rfl, below_drewN HX3.out _⟩
      · have e : (x == y) = false := by simp [hxy]
        have HNE := Lib.hid hxy
        clear hxy
        go_wp2_with fail
        go_quiet (fail)
        go_wp2_with fail
        refine ⟨⟨k + 1, rfl, HKI.out, fun j y' hj hy' => ?_, below_drewN HX3.out _⟩, by have := HKI.out; simp [intOf]; omega⟩
        by_cases hjk : j = k
        · rw [hjk, HY1.out] at hy'
          injection hy' with hy'
          rw [← hy']; exact HNE.out
        · exact HR2.out j y' (by omega) hy'
/-- What the program asks of the numbers that are dropped. -/
theorem up_nodup {l : List Int} : Up (up l) ↔ l.Nodup := by
  rw [up_pair]
  constructor
  · intro h
    exact (up_perm l).nodup_iff.1 (h.imp fun h => by omega)
  · intro h
    have hn : (up l).Nodup := (up_perm l).nodup_iff.2 h
    exact ((up_sorted l).and hn).imp fun h => by have := h.1; have := h.2; omega
end Go.Proofs.Ytjlppjffkebejaa

/- Mathematics of Do: two sorted rows of the same tables are one, where one of them may be. -/
namespace Go.Proofs.Ytjlppjffkebejaa
open Go.ChangeShapes Go.WideShapes Go.ChangeAt Go.RowKit

theorem may_strict {W : Ver} {T : List Tab} (h : VMay W T) : T.Pairwise (fun a b => cmpT a b < 0) := by
  have hp := (ino_pair h.2.1).1 h.2.2
  refine List.pairwise_iff_getElem.2 fun i j hi hj hij => ?_
  exact ahead_cmp (h.2.1 _ (List.getElem_mem hi)) (List.pairwise_iff_getElem.1 hp i j hi hj hij)
theorem strict_anti {T : List Tab} (h : T.Pairwise (fun a b => cmpT a b < 0)) {a b : Tab} (ha : a ∈ T) (hb : b ∈ T) (h1 : ¬ cmpT a b < 0) (h2 : ¬ cmpT b a < 0) : a = b := by
  obtain ⟨i, hi, rfl⟩ := List.mem_iff_getElem.1 ha
  obtain ⟨j, hj, rfl⟩ := List.mem_iff_getElem.1 hb
  rcases Nat.lt_trichotomy i j with e | e | e
  · exact absurd (List.pairwise_iff_getElem.1 h i j hi hj e) h1
  · subst e; rfl
  · exact absurd (List.pairwise_iff_getElem.1 h j i hj hi e) h2
theorem sorted_one_left {W : Ver} {T Q : List Tab} (hTQ : T.Perm Q) (sT : T.Pairwise (fun a b => ¬ cmpT b a < 0)) (sQ : Q.Pairwise (fun a b => ¬ cmpT b a < 0)) (h : VMay W T) : T = Q :=
  List.Perm.eq_of_pairwise (le := fun a b => ¬ cmpT b a < 0) (fun _ _ ha hb h1 h2 => strict_anti (may_strict h) ha (hTQ.mem_iff.2 hb) h2 h1) sT sQ hTQ
/-- Whichever way they were sorted: one may be just if the other one may, and then they are the same. -/
theorem sorted_one {W : Ver} {T Q : List Tab} (hTQ : T.Perm Q) (sT : T.Pairwise (fun a b => ¬ cmpT b a < 0)) (sQ : Q.Pairwise (fun a b => ¬ cmpT b a < 0)) : (VMay W T ↔ VMay W Q) ∧ (VMay W T → T = Q) :=
  ⟨⟨fun h => by rw [← sorted_one_left hTQ sT sQ h]; exact h, fun h => by rw [← sorted_one_left hTQ.symm sQ sT h]; exact h⟩, sorted_one_left hTQ sT sQ⟩
/-- How many are dropped, and how many stay. -/
theorem rest_found (l : List Int) (L : List (Tab × TabH)) : (L.countP fun p => decide (p.1.num ∈ l)) + (restT l L).length = L.length := by
  have e : restT l L = L.filter fun p => !decide (p.1.num ∈ l) := by unfold restT keptT; rw [List.take_of_length_le (Nat.le_refl _)]
  rw [e, List.countP_eq_length_filter]
  induction L with
  | nil => rfl
  | cons p L ih =>
    rw [List.filter_cons, List.filter_cons]
    have e2 : restT l L = L.filter fun p => !decide (p.1.num ∈ l) := by unfold restT keptT; rw [List.take_of_length_le (Nat.le_refl _)]
    have := ih e2
    cases h : decide (p.1.num ∈ l) <;> simp [h] at * <;> omega
theorem ok_found (l : List Int) (L : List (Tab × TabH)) : (restT l L).length + l.length = L.length ↔ (L.countP fun p => decide (p.1.num ∈ l)) = l.length := by
  have := rest_found l L
  omega
end Go.Proofs.Ytjlppjffkebejaa
