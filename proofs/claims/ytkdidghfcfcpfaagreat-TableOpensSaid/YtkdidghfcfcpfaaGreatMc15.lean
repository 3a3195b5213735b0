import Derived.Test.YtkdidghfcfcpfaaGreatMc14
import Derived.Test.YtkdidghfcfcpfaaGreatMc8
import Derived.Test.YtkdidghfcfcpfaaGreatMc11
import Derived.Test.YtkdidghfcfcpfaaGreatMc3
import Derived.Laws.OwnMore
import Derived.Test.YtkdidghfcfcpfaaGreatMc12
import Derived.Maps.AppendAt
import Derived.Test.YtkdidghfcfcpfaaGreatMc0
namespace Go.Proofs.YtkdidghfcfcpfaaGreat
open Go.ChangeShapes Go.WideShapes Go.ChangeAt Go.RowKit
theorem eclone_run {u : World} {lo hi : Nat} {A : Option Addr} {c : Nat} {L : List (Ent × Hd)} (h : Sl u lo hi A (erow L)) (hnil : A = none → c = 0 ∧ L = []) (hl : L.length ≤ 1000000000000) :
    ∃ v w, (Builtin.append_ #[28, 28] 28 #[.slice none 0 0, .slice A L.length c]).run Tryz.prog u = .ok v w ∧ Ext u w ∧ w.ownsRow u.heap.size 50 4 v L.length (erow L) := by
 obtain ⟨i0, hi0, ix0, ix1, ix2⟩ := info_parts einfo
 rcases A with _ | ad
 · obtain ⟨rfl, rfl⟩ := hnil rfl
   refine ⟨.slice none 0 0, u, ?_, Ext.refl _, World.ownsRow_nil _ _ _ _⟩
   simp [Builtin.append_, run_underlying Tryz.underlying28, sizeOf, typeInfo, hi0, Builtin.lenOf, Builtin.firstCells]
 · obtain ⟨v', w', hr, ho, hg, _⟩ := run_append_own (P := Tryz.prog) u u.heap.size 28 28 50 i0 _ 4 64 Tryz.underlying28 hi0 ix0 ix1 ix2 rfl (by decide) (.slice none 0 0) 0 [] (World.ownsRow_nil _ _ _ _) ad L.length c (erow L) (erow_length L) (fun j q hj => by
       rcases h with hby | ⟨b, o, he2, _, _, hc⟩
       · rw [hby] at hj; simp at hj
       · rw [Option.some.inj he2, addr_add]
         exact hc j q hj) (erow_one L) (by unfold maxLen; omega) (by omega) (zNr _)
   refine ⟨v', w', hr, (Below.refl _ _).grown hg (zNr _) (fun k hk => by cases hk), ?_⟩
   simpa using ho
theorem eclone_obl {o : Oper} {a : Act} {x : Operand} {X : Prop} {u : World} {lo hi d : Nat} {A : Option Addr} {c : Nat} {L : List (Ent × Hd)} {R : Value → World → Prop} (ho : o.op = .call { callee := .builtin .append, args := #[.const (.slice none 0 0), x], argTypes := #[28, 28] })
    (ht : o.type = 28) (hd : o.dst = some d) (hx : a.eval x = .slice A L.length c) (hb : Sl u lo hi A (erow L)) (hnil : A = none → c = 0 ∧ L = []) (hl : L.length ≤ 1000000000000) (hR : ∀ v w, Ext u w → w.ownsRow u.heap.size 50 4 v L.length (erow L) → R v w) {Z : Prop} [Decidable Z] (hZ : Z) :
    if Z then GivesR Tryz.prog ((execOp a.eval o).run Tryz.prog u) (fun v u' => Ext u u' ∧ R (kept o v) u') else X := by
 rw [if_pos hZ]
 obtain ⟨v, w, hr, h1, h2⟩ := eclone_run hb hnil hl
 have h0 : (execOp a.eval o).run Tryz.prog u = .ok (.value v) w := by
  have hc : a.eval (.const (.slice none 0 0)) = .slice none 0 0 := rfl
  unfold execOp
  simp only [ho, ht, resolve, invoke, builtin, Sem.run_bind, Sem.run_pure, Result.andThen_ok, List.map_toArray, List.map_cons, List.map_nil, hc, hx, hr]
 rw [h0]
 have hk : kept o v = v := by unfold kept; rw [hd]
 show Ext u w ∧ R (kept o v) w
 rw [hk]
 exact ⟨h1, hR _ _ h1 h2⟩
theorem wpList_pushe {ops : Array Oper} {rest : List Oper} {o : Oper} {a : Act} {Q : Exit → Act → World → Prop} {u : World} (hgd : o.guard = none) (s x : Operand)
    (ho : o.op = .call { callee := .builtin .append, args := #[s, x], argTypes := #[28, 28] }) (B : Nat) (v : Value) (R : List (Ent × Hd)) (hs : a.eval s = v) (hown : u.ownsRow B 50 4 v R.length (erow R))
    (p : Ent × Hd) (gb : Nat) (hx : a.eval x = .slice (some ⟨gb, 0, none⟩) 1 1) (hblk : u.heap[gb]? = some (.cells (ecells p).toArray 50 (0, 0))) (hlen : R.length ≤ 1000000000000) (hB : B ≤ u.heap.size)
    (h : ∀ A' c' w', w'.ownsRow B 50 4 (.slice A' (R.length + 1) c') (R.length + 1) (erow (R ++ [p])) → u.grownBy w' v.ownBlock → wpList Tryz.prog ops Q rest (a.put o.dst (.slice A' (R.length + 1) c')) w') :
    wpList Tryz.prog ops Q (o :: rest) a u := by
 obtain ⟨i0, hi0', ix0, ix1, ix2⟩ := info_parts einfo
 refine wpList_append_own _ hgd s x 28 ho B 50 i0 _ 4 64 Tryz.underlying28 hi0' ix0 ix1 ix2 rfl (by decide) v R.length (erow R) hs hown ⟨gb, 0, none⟩ 1 1 (ecells p) hx rfl (fun j q hj => ?n1) (fun q hq => ?n2) ?n3 ?n4 hB (fun v' w5 ho hgr _ => ?rest)
 case n1 => rw [addr_add, Nat.zero_add]; exact cell_of hblk (by simpa using hj)
 case n2 => exact erow_one [p] q (by simpa [erow] using hq)
 case n3 => unfold maxLen; omega
 case n4 => omega
 case rest =>
  obtain ⟨A', c', rfl⟩ := rowN_slice ho
  exact h A' c' w5 (by rw [erow_append]; simpa [erow] using ho) hgr
theorem erowsinfo : (Tryz.prog.info? 28).map (fun i => (i.zero, i.size, i.bytes)) = some (some (.slice none 0 0), 1, 24) := by kernel_rfl
theorem erow_sl {B : Nat} {A : Option Addr} {c : Nat} {R : List (Ent × Hd)} {w : World} (h : w.ownsRow B 50 4 (.slice A R.length c) R.length (erow R)) : Sl w 0 w.heap.size A (erow R) ∧ R.length ≤ c ∧ (A = none → c = 0 ∧ R = []) := by
 rcases h.2 with ⟨he, hx⟩ | ⟨g, cap, cur, hv, hg, hh, _, hcs⟩
 · injection he with e1 e2 e3
   have : R = [] := List.eq_nil_of_length_eq_zero e2
   subst this; subst e1; subst e3
   exact ⟨Sl.nil _ _ _ _, zNr _, fun _ => ⟨rfl, rfl⟩⟩
 · injection hv with e1 e2 e3
   subst e1 e3
   refine ⟨.inr ⟨g, 0, rfl, Nat.zero_le _, (zAg.1 hh).1, fun i u hu => ?_⟩, by omega, fun e => by cases e⟩
   have := h.cells (g := g) rfl i u hu
   rwa [addr_add] at this
def CutRow (B : Nat) (v : Value) (C : List (List (Ent × Hd))) (w : World) : Prop :=
 ∃ vs : List Value, w.ownsRow B 28 1 v C.length vs ∧ ∀ (i : Nat) (q : List (Ent × Hd)), C[i]? = some q → ∃ (A : Option Addr) (c : Nat), vs[i]? = some (.slice A q.length c) ∧ w.ownsRow B 50 4 (.slice A q.length c) q.length (erow q)
theorem CutRow.nil (B : Nat) (w : World) : CutRow B (.slice none 0 0) [] w := ⟨[], World.ownsRow_nil _ _ _ _, fun i q h => by simp at h⟩
theorem CutRow.ext {B : Nat} {v : Value} {C : List (List (Ent × Hd))} {w w' : World} (h : CutRow B v C w) (hx : Ext w w') : CutRow B v C w' := by
 obtain ⟨vs, h1, h2⟩ := h
 refine ⟨vs, rowN_kept h1 fun g hg => hx.block g (rowN_lt h1 g hg).2.1, fun i q hq => ?_⟩
 obtain ⟨A, c, h3, h4⟩ := h2 i q hq
 exact ⟨A, c, h3, rowN_kept h4 fun g hg => hx.block g (rowN_lt h4 g hg).2.1⟩
structure CutTo (L : List (Ent × Hd)) (k : Nat) (C : List (List (Ent × Hd))) (l : List (Ent × Hd)) : Prop where
 cat : C.flatten ++ l = L.take k
 cuts : Cuts (C.map (·.map Prod.fst))
 piece : l ≠ [] → Piece (l.map Prod.fst)
 none : l = [] → C = [] ∧ k = 0
 link : ∀ p, (C.map (·.map Prod.fst)).getLast? = some p → ∃ e q', l.map Prod.fst = e :: q' ∧ Link p e
theorem CutTo.zero (L : List (Ent × Hd)) : CutTo L 0 [] [] := ⟨rfl, trivial, fun h => absurd rfl h, fun _ => ⟨rfl, rfl⟩, fun p h => by simp at h⟩
theorem CutTo.first {L : List (Ent × Hd)} {p : Ent × Hd} (h : L[0]? = some p) : CutTo L 1 [] [p] := by
 refine ⟨?_, trivial, fun _ => ⟨by simp, fun m h1 h2 => by simp at h2; omega⟩, fun h => by simp at h, fun p h => by simp at h⟩
 rw [List.take_add_one, h]; rfl
theorem CutTo.more {L : List (Ent × Hd)} {k : Nat} {C : List (List (Ent × Hd))} {l : List (Ent × Hd)} {p : Ent × Hd} (h : CutTo L k C l) (hl : l ≠ []) (hp : L[k]? = some p) (hw : (wr ((l ++ [p]).map Prod.fst)).length ≤ 512) : CutTo L (k + 1) C (l ++ [p]) := by
 refine ⟨?_, h.cuts, fun _ => ⟨by simp, fun m h1 h2 => ?_⟩, fun h => by simp at h, fun q hq => ?_⟩
 · rw [← List.append_assoc, h.cat, List.take_add_one, hp]; rfl
 · rw [List.length_map, List.length_append, List.length_singleton] at h2
   rcases Nat.lt_or_ge m l.length with h3 | h3
   · have h4 := (h.piece hl).2 m h1 (by rw [List.length_map]; exact h3)
     rw [List.map_append, List.take_append_of_le_length (by rw [List.length_map]; omega)]
     exact h4
   · rw [List.take_of_length_le (by simp; omega)]; exact hw
 · obtain ⟨e, q', h1, h2⟩ := h.link q hq
   exact ⟨e, q' ++ [p.1], by rw [List.map_append, h1]; rfl, h2⟩
theorem CutTo.next {L : List (Ent × Hd)} {k : Nat} {C : List (List (Ent × Hd))} {l : List (Ent × Hd)} {p : Ent × Hd} (h : CutTo L k C l) (hl : l ≠ []) (hp : L[k]? = some p) (hw : 512 < (wr ((l ++ [p]).map Prod.fst)).length) : CutTo L (k + 1) (C ++ [l]) [p] := by
 refine ⟨?_, ?_, fun _ => ⟨by simp, fun m h1 h2 => by simp at h2; omega⟩, fun h => by simp at h, fun q hq => ?_⟩
 · rw [List.flatten_append, List.take_add_one, hp, ← h.cat]; simp
 · rw [List.map_append]
   exact cuts_snoc h.cuts (h.piece hl) h.link
 · rw [List.map_append] at hq
   simp at hq
   subst hq
   refine ⟨p.1, [], rfl, ?_⟩
   unfold Link
   rw [List.map_append] at hw
   exact hw
theorem CutTo.ends {L : List (Ent × Hd)} {C : List (List (Ent × Hd))} {l : List (Ent × Hd)} (h : CutTo L L.length C l) (h0 : 1 ≤ L.length) : (C ++ [l]).flatten = L ∧ Cuts ((C ++ [l]).map (·.map Prod.fst)) := by
 have hl : l ≠ [] := fun e => by have := (h.none e).2; omega
 refine ⟨?_, ?_⟩
 · rw [List.flatten_append]
   have h1 := h.cat
   rw [List.take_length] at h1
   simpa using h1
 · rw [List.map_append]
   exact cuts_snoc h.cuts (h.piece hl) h.link
theorem CutTo.mayB {L : List (Ent × Hd)} {k : Nat} {C : List (List (Ent × Hd))} {l : List (Ent × Hd)} {p : Ent × Hd} (h : CutTo L k C l) (hm : MayT (L.map Prod.fst)) (hl : l ≠ []) (hp : L[k]? = some p) : MayB ((l ++ [p]).map Prod.fst) ∧ l.length ≤ 128 := by
 have hsub : l ++ [p] = (L.take (k + 1)).drop C.flatten.length := by
  rw [List.take_add_one, hp, ← h.cat, List.append_assoc, List.drop_left]; rfl
 have hmem : ∀ x ∈ l ++ [p], x ∈ L := fun x hx => by
  rw [hsub] at hx
  exact List.mem_of_mem_take (List.mem_of_mem_drop hx)
 have hmay : ∀ e ∈ (l ++ [p]).map Prod.fst, e.may = true := fun e he => by
  obtain ⟨x, hx, rfl⟩ := List.mem_map.1 he
  exact hm.2.2.2 _ (List.mem_map_of_mem (hmem x hx))
 have hfew := piece_few (h.piece hl) (fun e he => hmay e (by rw [List.map_append]; exact List.mem_append_left _ he))
 rw [List.length_map] at hfew
 refine ⟨⟨by simp, by simp; omega, ?_, hmay⟩, hfew⟩
 intro j a b ha hb
 have hg : ∀ i x, ((l ++ [p]).map Prod.fst)[i]? = some x → (L.map Prod.fst)[C.flatten.length + i]? = some x := fun i x hx => by
  rw [hsub, List.getElem?_map, List.getElem?_drop, List.getElem?_take] at hx
  split at hx
  · rw [List.getElem?_map]; exact hx
  · simp at hx
 exact hm.2.2.1 (C.flatten.length + j) a b (hg j a ha) (hg (j + 1) b hb)
theorem CutTo.mem {L : List (Ent × Hd)} {k : Nat} {C : List (List (Ent × Hd))} {l : List (Ent × Hd)} {p : Ent × Hd} (h : CutTo L k C l) (hp : L[k]? = some p) : ∀ q ∈ l ++ [p], q ∈ L := by
 intro q hq
 rcases List.mem_append.1 hq with h1 | h1
 · have h2 : q ∈ C.flatten ++ l := List.mem_append_right _ h1
   rw [h.cat] at h2
   exact List.mem_of_mem_take h2
 · rw [List.mem_singleton.1 h1]; exact List.mem_of_getElem? hp
theorem cuts_ne : ∀ {C : List (List Ent)}, Cuts C → ∀ p ∈ C, p ≠ []
 | [], _, _, hp => by cases hp
 | q :: C, h, p, hp => by
  rcases List.mem_cons.1 hp with rfl | h1
  · exact h.1.1
  · exact cuts_ne h.2.2 p h1
theorem flat_len {α : Type} : ∀ (C : List (List α)), (∀ p ∈ C, p ≠ []) → C.length ≤ C.flatten.length
 | [], _ => Nat.zero_le _
 | p :: C, h => by
  have h1 := flat_len C fun q hq => h q (List.mem_cons_of_mem _ hq)
  have h2 := List.length_pos_iff.2 (h p List.mem_cons_self)
  simp only [List.flatten_cons, List.length_append, List.length_cons]; omega
theorem CutTo.few {L : List (Ent × Hd)} {k : Nat} {C : List (List (Ent × Hd))} {l : List (Ent × Hd)} (h : CutTo L k C l) : C.length ≤ L.length := by
 have h1 := flat_len C fun p hp e => cuts_ne h.cuts (p.map Prod.fst) (List.mem_map_of_mem hp) (by rw [e]; rfl)
 have h2 := congrArg List.length h.cat
 rw [List.length_append, List.length_take] at h2
 omega
theorem own_apartN {w : World} {B B' s s' n n' : Nat} {e e' : TypeId} {v v' : Value} {xs xs' : List Value} (h : w.ownsRow B e s v n xs) (k : w.ownsRow B' e' s' v' n' xs') (hne : e ≠ e') : ∀ g, v.ownBlock = some g → some g ≠ v'.ownBlock := own_apart h k hne
theorem CutRow.push {B : Nat} {v : Value} {C : List (List (Ent × Hd))} {w w' : World} {o : Obj} {vs : List Value} {A' lA : Option Addr} {c' lc : Nat} {l : List (Ent × Hd)} (h1 : w.ownsRow B 28 1 v C.length vs)
    (h2 : ∀ (i : Nat) (q : List (Ent × Hd)), C[i]? = some q → ∃ (A : Option Addr) (c : Nat), vs[i]? = some (.slice A q.length c) ∧ w.ownsRow B 50 4 (.slice A q.length c) q.length (erow q))
    (hl : w.ownsRow B 50 4 (.slice lA l.length lc) l.length (erow l)) (ho : w'.ownsRow B 28 1 (.slice A' (C.length + 1) c') (C.length + 1) (vs ++ [.slice lA l.length lc])) (hg : (w.alloc o).grownBy w' v.ownBlock) :
    CutRow B (.slice A' (C.length + 1) c') (C ++ [l]) w' := by
 have hk : ∀ {A : Option Addr} {c : Nat} {q : List (Ent × Hd)}, w.ownsRow B 50 4 (.slice A q.length c) q.length (erow q) → w'.ownsRow B 50 4 (.slice A q.length c) q.length (erow q) := fun hr => by
  refine rowN_kept hr fun g hv => ?_
  have hlt := (rowN_lt hr g hv).2.1
  rw [hg.block g (by simp; omega) (own_apartN hr h1 (by decide) g hv)]
  exact Below.heap_alloc _ _ _ hlt
 have hn : vs.length = C.length := by simpa using h1.1
 refine ⟨vs ++ [.slice lA l.length lc], by rw [List.length_append]; exact ho, fun i q hq => ?_⟩
 rcases Nat.lt_or_ge i C.length with hi | hi
 · rw [List.getElem?_append_left hi] at hq
   obtain ⟨A, c, h3, h4⟩ := h2 i q hq
   exact ⟨A, c, by rw [List.getElem?_append_left (by omega)]; exact h3, hk h4⟩
 · rw [List.getElem?_append_right hi] at hq
   rcases h9 : i - C.length with _ | j
   · rw [h9] at hq
     simp at hq
     subst hq
     exact ⟨lA, lc, by rw [List.getElem?_append_right (by omega), hn, h9]; rfl, hk hl⟩
   · rw [h9] at hq; simp at hq
def RowV (B : Nat) (l : List (Ent × Hd)) (v : Value) (u : World) : Prop := u.ownsRow B 50 4 v l.length (erow l)
theorem RowV.mono (B : Nat) (l : List (Ent × Hd)) : Mono (RowV B l) := fun _ _ _ h hx => rowN_kept h fun g hg => hx.block g (rowN_lt h g hg).2.1
def OneV (p : Ent × Hd) (v : Value) (u : World) : Prop := ∃ gb, v = .slice (some ⟨gb, 0, none⟩) 1 1 ∧ u.heap[gb]? = some (.cells (ecells p).toArray 50 (0, 0))
theorem OneV.mono (p : Ent × Hd) : Mono (OneV p) := fun _ _ _ ⟨gb, h, hb⟩ hx => ⟨gb, h, ext_heap hx hb⟩
def RCutAns (w : World) (L : List (Ent × Hd)) (x : Ending) (w' : World) : Prop :=
 Ext w w' ∧ ∃ (C : List (List (Ent × Hd))) (X : Option Addr) (d : Nat), x = .returned (.slice X C.length d) ∧ C.flatten = L ∧ Cuts (C.map (·.map Prod.fst)) ∧ CutRow w.heap.size (.slice X C.length d) C w'
set_option maxRecDepth 100000 in
set_option maxHeartbeats 8000000 in
theorem rtcut_any {w : World} {lo hi c : Nat} {A : Option Addr} {L : List (Ent × Hd)} (h : Es w lo hi A L) (hhi : hi ≤ w.heap.size) (hm : MayT (L.map Prod.fst)) :
    Calls Tryz.prog 14 #[.slice A L.length c] w (RCutAns w L) := by
 have HE := zHd h
 have HHI := zHd hhi
 have HM := zHd hm
 have HLEN : Hid (1 ≤ L.length ∧ L.length ≤ 4096) := by have h1 := hm.1; have h2 := hm.2.1; rw [List.length_map] at h1 h2; exact ⟨h1, h2⟩
 obtain ⟨b, o, rfl⟩ := h.base (by have := HLEN.out; omega)
 have hll : (L.length : Int) ≤ 4096 := by have := HLEN.out; omega
 obtain ⟨i2, hi2, z1, z2, z3⟩ := info_parts erowsinfo
 have HI2 := zHd hi2
 clear h hhi hm hi2
 go_enter Tryz.func14, Tryz.ntmps14
 go_wp2_with fail
 go_loopw [3, 4, 5] (fun ov lv iv wq => ∃ (k : Nat) (C : List (List (Ent × Hd))) (l : List (Ent × Hd)) (lA : Option Addr) (lc : Nat) (oA : Option Addr) (oc : Nat), k ≤ L.length ∧ iv = .int .i64 (k : Int) ∧ lv = .slice lA l.length lc ∧ ov = .slice oA C.length oc ∧ Hid (CutTo L k C l) ∧ Hid (wq.ownsRow w.heap.size 50 4 (.slice lA l.length lc) l.length (erow l)) ∧ Hid (CutRow w.heap.size (.slice oA C.length oc) C wq) ∧ Hid (Ext w wq))
  (fun _ _ iv _ => L.length - (intOf iv).toNat)
 case atStart => exact ⟨0, [], [], none, 0, none, 0, Nat.zero_le _, rfl, rfl, rfl, CutTo.zero L, World.ownsRow_nil _ _ _ _, CutRow.nil _ _, Ext.refl _⟩
 case round =>
  rename World => wq
  obtain ⟨k, C, l, lA, lc, oA, oc, hk, rfl, rfl, rfl, HCT, HLO, HCR, HXR⟩ := hrel
  by_cases hlt : k < L.length
  · have d : decide ((k : Int) < (L.length : Int)) = true := decide_eq_true (by omega)
    have dn : decide (k < L.length) = true := decide_eq_true hlt
    obtain ⟨p, hp⟩ : ∃ p, L[k]? = some p := ⟨_, List.getElem?_eq_getElem hlt⟩
    have HP := zHd hp
    obtain ⟨c0, c1, c2, c3⟩ := (HE.out.below HXR.out HHI.out).get hp
    have n1 : (0 : Int) ≤ (k : Int) := Int.natCast_nonneg _
    have n2 : (k : Int) < (L.length : Int) := Int.ofNat_lt.2 hlt
    have HLL : Hid (l.length ≤ 4096) := by
     have h1 := congrArg List.length HCT.out.cat
     rw [List.length_append, List.length_take] at h1
     have := HLEN.out
     unfold Hid; omega
    have HLT := zHd hlt
    clear hp hk hlt
    go_upto_region 6 with (fail)
    refine flow_tail (by kernel_rfl) [Is (.slice lA l.length lc), RowV wq.heap.size l, Is (.slice (some ⟨b, o, none⟩) L.length c), Is (.int .i64 (k : Int)), Is (.pointer (some ⟨b, o + k * 4, none⟩)), Is (.agg #[.slice p.2.kA p.1.key.length p.2.kc, .int .i64 p.1.seq, .int .i64 p.1.kind, .slice p.2.vA p.1.val.length p.2.vc]), OneV p] 7 (by kernel_rfl) (by kernel_rfl) (by kernel_rfl) (by kernel_rfl) ?mono (fun f1 => ?obl) ?fin
    case mono =>
     simp only [List.forall_mem_cons, List.not_mem_nil, false_imp_iff, implies_true, and_true]
     exact ⟨.is _, RowV.mono _ _, .is _, .is _, .is _, .is _, OneV.mono _⟩
    case fin =>
     intro g1 u hu hg
     simp only [List.take_succ_cons, List.take_zero, List.drop_succ_cons, List.drop_zero, puts, Act.put, zq]
     obtain hrv := (show RowV wq.heap.size l (g1 1) u from hg 1 (by decide))
     obtain ⟨gb, h6, hgb⟩ := (show OneV p (g1 6) u from hg 6 (by decide))
     have HXU : Hid (Ext wq u) := zEt (Ext.drew wq) hu
     have HRV : Hid (u.ownsRow wq.heap.size 50 4 (g1 1) l.length (erow l)) := hrv
     have HGB := zHd hgb
     rw [h6]
     generalize g1 1 = y1 at HRV ⊢
     clear hrv h6 hgb hg hu c0 c1 c2 c3
     refine wpList_pushe rfl (.tmp 16) (.tmp 21) rfl wq.heap.size y1 l rfl HRV.out p gb rfl HGB.out (by have := HLL.out; omega) HXU.out.size (fun A7 c7 w7 ho7 hg7 => ?_)
     have HX7 : Hid (Ext wq w7) := HXU.out.grown hg7 HXU.out.size (fun g hg => (rowN_lt HRV.out g hg).1)
     have HLN : Hid (w7.ownsRow wq.heap.size 50 4 (.slice A7 (l.length + 1) c7) (l.length + 1) (erow (l ++ [p]))) := ho7
     clear ho7 hg7 HGB HRV HXU
     have hn8 : (l ++ [p]).length = l.length + 1 := by simp
     by_cases hl0 : l = []
     · have HL0 := zHd hl0
       have e1 : decide ((l.length : Int) > 0) = false := decide_eq_false (by rw [hl0]; decide)
       have e1' : decide (0 < l.length) = false := decide_eq_false (by rw [hl0]; decide)
       clear hl0
       go_wp2_with fail
       go_roundw
       case rel =>
        obtain ⟨hC, hk0⟩ := HCT.out.none HL0.out
        refine ⟨k + 1, C, l ++ [p], A7, c7, oA, oc, HLT.out, by go_num, by rw [hn8], rfl, ?_, ?_, HCR.out.ext HX7.out, zEt HXR.out HX7.out⟩
        · rw [hC, HL0.out, hk0]; exact CutTo.first (by rw [← hk0]; exact HP.out)
        · rw [hn8]; exact rowN_base HLN.out HXR.out.size
       case measure => have := HLT.out; simp [intOf]; omega
     · have HL0 := zHd hl0
       have e1 : decide ((l.length : Int) > 0) = true := decide_eq_true (by have := List.length_pos_iff.2 hl0; omega)
       have e1' : decide (0 < l.length) = true := decide_eq_true (List.length_pos_iff.2 hl0)
       obtain ⟨hmb, hl128⟩ := HCT.out.mayB HM.out hl0 HP.out
       have HMB := zHd hmb
       have HL128 := zHd hl128
       clear hl0 hmb hl128
       have HE7 : Hid (Es w7 0 w7.heap.size A7 (l ++ [p])) := by
        have h9 := HLN.out
        rw [← hn8] at h9
        refine ⟨(erow_sl h9).1, fun q hq => ?_⟩
        have hqL : q ∈ L := HCT.out.mem HP.out q hq
        exact (((HE.out.below HXR.out HHI.out).below HX7.out (zNt HHI.out HXR.out.size)).each q hqL).wide (Nat.zero_le _) (zNt HHI.out (zNt HXR.out.size HX7.out.size))
       obtain ⟨Ls1, hLs1⟩ : ∃ Ls1, Ls1 = (l ++ [p]).map Prod.fst := ⟨_, rfl⟩
       have HLS1 := zHd hLs1
       have HW7 := zHd (rwrite_any (c := c7) HE7.out (zNr _) HMB.out)
       rw [List.length_append, List.length_singleton, ← hLs1] at HW7
       clear hLs1
       go_wp2_with fail
       refine HW7.out.mono ?_
       rintro x w8 ⟨VA, vc, RA, rc, rfl, hst⟩
       have HX78 : Hid (Ext w7 w8) := hst.x
       have HX8 : Hid (Ext wq w8) := zEt HX7.out hst.x
       obtain ⟨n8, hn8⟩ : ∃ n8, n8 = (wr Ls1).length := ⟨_, rfl⟩
       rw [← hn8]
       have HN8 : Hid (n8 = (wr ((l ++ [p]).map Prod.fst)).length) := by rw [← HLS1.out]; exact hn8
       clear hst HW7 hn8
       by_cases hw : n8 ≤ 512
       · have HW := zHd hw
         have e2 : decide ((512 : Int) < (n8 : Int)) = false := decide_eq_false (by omega)
         have e2' : decide (512 < n8) = false := decide_eq_false (by omega)
         clear hw
         go_wp2_with fail
         go_roundw
         case rel =>
          refine ⟨k + 1, C, l ++ [p], A7, c7, oA, oc, HLT.out, by go_num, by rw [hn8], rfl, ?_, ?_, HCR.out.ext HX8.out, zEt HXR.out HX8.out⟩
          · exact HCT.out.more HL0.out HP.out (by rw [← HN8.out]; exact HW.out)
          · rw [hn8]; exact rowN_base (rowN_kept HLN.out fun g hg => HX78.out.block g (rowN_lt HLN.out g hg).2.1) HXR.out.size
         case measure => have := HLT.out; simp [intOf]; omega
       · have HW := zHd (Nat.lt_of_not_le hw)
         have e2 : decide ((512 : Int) < (n8 : Int)) = true := decide_eq_true (by omega)
         have e2' : decide (512 < n8) = true := decide_eq_true (by omega)
         clear hw
         obtain ⟨vs, hv1, hv2⟩ := HCR.out.ext HX8.out
         have HV1 := zHd hv1
         have HV2 := zHd hv2
         clear hv1 hv2
         have HLO8 : Hid (w8.ownsRow w.heap.size 50 4 (.slice lA l.length lc) l.length (erow l)) := rowN_kept HLO.out fun g hg => HX8.out.block g (rowN_lt HLO.out g hg).2.1
         have HCL := zHd HCT.out.few
         go_wp2_with (at_builtin; refine wpList_pushrow rfl (.tmp 34) (.tmp 36) 37 rfl w.heap.size 28 i2 (.slice none 0 0) 24 Tryz.underlying37 HI2.out z1 z2 z3 rfl _ _ _ rfl HV1.out _ rfl _ rfl rfl ?k4 ?k5 (zNt HXR.out.size HX8.out.size) ?_)
         case k4 => unfold maxLen; have := HCL.out; omega
         case k5 => have := HCL.out; omega
         intro A9 c9 w9 ho9 hg9
         have HX9 : Hid (Ext w w9) := Below.trans (zEt HXR.out HX8.out) (grown_belowR hg9 (fun g hg => (row_lt HV1.out g hg).1) (zNt HXR.out.size HX8.out.size))
         have HCR9 : Hid (CutRow w.heap.size (.slice A9 (C.length + 1) c9) (C ++ [l]) w9) := CutRow.push HV1.out HV2.out HLO8.out ho9 hg9
         clear ho9 hg9
         obtain ⟨c0, c1, c2, c3⟩ := (HE.out.below HX9.out HHI.out).get HP.out
         go_wp2_with fail
         go_roundw
         case rel =>
          refine ⟨k + 1, C ++ [l], [p], some ⟨w9.heap.size, 0, none⟩, 1, A9, c9, HLT.out, by go_num, rfl, by rw [List.length_append]; rfl, ?_, ?_, ?_, ?_⟩
          · exact HCT.out.next HL0.out HP.out (by rw [← HN8.out]; exact HW.out)
          · have h9 := World.ownsRow_lit (base := w.heap.size) (e := 50) (size := 4) w9 (ecells p).toArray 1 HX9.out.size (by unfold maxLen; omega) rfl
            show World.ownsRow _ _ _ _ _ _ _
            simpa [erow, ecells] using h9
          · rw [List.length_append]; exact HCR9.out.ext (ext_alloc _ _)
          · exact zEt HX9.out (ext_alloc _ _)
         case measure => have := HLT.out; simp [intOf]; omega
    case obl =>
     refine ⟨fun u hu hd => ?_, fun u hu hd => ?_, fun u hu hd => ?_, fun u hu hd => ?_, fun u hu hd => ?_, fun u hu hd => ?_, fun u hu hd => ?_, trivial⟩
     all_goals try simp only [Act.put, zq]
     · go_simp
       exact zEr
     · have e0 : f1 0 = _ := hd 0 (by kernel_rfl)
       have hu2 := zEt (Ext.drew wq) hu
       refine eclone_obl (x := .tmp 15) rfl rfl rfl (by exact e0) (erow_sl (rowN_kept HLO.out fun g hg => hu2.block g (rowN_lt HLO.out g hg).2.1)).1 (erow_sl HLO.out).2.2 (by have := HLL.out; omega) (fun v w9 hx9 hown => rowN_base hown hu2.size) (by kernel_rfl)
     · go_simp
       exact zEr
     · go_simp
       exact zEr
     · have e2 : f1 2 = _ := hd 2 (by kernel_rfl)
       have e3 : f1 3 = _ := hd 3 (by kernel_rfl)
       go_simp
       exact zEr
     · have e4 : f1 4 = _ := hd 4 (by kernel_rfl)
       have hu2 := zEt (Ext.drew wq) hu
       have q0 := ext_cell hu2 c0
       have q1 := ext_cell hu2 c1
       have q2 := ext_cell hu2 c2
       have q3 := ext_cell hu2 c3
       go_simp
       exact zEr
     · have e5 : f1 5 = _ := hd 5 (by kernel_rfl)
       go_simp
       exact ⟨ext_alloc _ _, _, rfl, heap_at _ _ rfl⟩
  · have hkL : k = L.length := Nat.le_antisymm hk (Nat.le_of_not_lt hlt)
    have d : decide ((k : Int) < (L.length : Int)) = false := decide_eq_false (by omega)
    have dn : decide (k < L.length) = false := decide_eq_false hlt
    have HKL := zHd hkL
    obtain ⟨vs, hv1, hv2⟩ := HCR.out
    have HV1 := zHd hv1
    have HV2 := zHd hv2
    have HCL := zHd HCT.out.few
    clear hk hlt hkL hv1 hv2
    go_wp2_with (at_builtin; refine wpList_pushrow rfl (.tmp 44) (.tmp 46) 37 rfl w.heap.size 28 i2 (.slice none 0 0) 24 Tryz.underlying37 HI2.out z1 z2 z3 rfl _ _ _ rfl HV1.out _ rfl _ rfl rfl ?k4 ?k5 HXR.out.size ?_)
    case k4 => unfold maxLen; have := HCL.out; omega
    case k5 => have := HCL.out; omega
    intro A9 c9 w9 ho9 hg9
    have HX9 : Hid (Ext w w9) := Below.trans HXR.out (grown_belowR hg9 (fun g hg => (row_lt HV1.out g hg).1) HXR.out.size)
    have HCR9 : Hid (CutRow w.heap.size (.slice A9 (C.length + 1) c9) (C ++ [l]) w9) := CutRow.push HV1.out HV2.out HLO.out ho9 hg9
    clear ho9 hg9
    go_wp2_with fail
    have he := (show CutTo L L.length C l by have := HCT.out; rw [HKL.out] at this; exact this).ends HLEN.out.1
    refine bodyPost_ret (results_tmp rfl _ _ _) rfl ?_
    refine ⟨HX9.out, C ++ [l], A9, c9, ?_, he.1, he.2, ?_⟩
    · rw [List.length_append]; rfl
    · rw [List.length_append]; exact HCR9.out
set_option maxRecDepth 100000 in
set_option maxHeartbeats 8000000 in
theorem rtkeys_any {w : World} {lo hi c : Nat} {A : Option Addr} {L : List (Ent × Hd)} (h : Es w lo hi A L) (hhi : hi ≤ w.heap.size) (hlen : L.length ≤ 4096) :
    Calls Tryz.prog 59 #[.slice A L.length c] w fun x w' => ∃ v, x = .returned v ∧ KeyRow w.heap.size lo hi v (keysT (L.map Prod.fst)) w' ∧ Ext w w' := by
 have HE := zHd h
 have HHI := zHd hhi
 have HL := zHd hlen
 obtain ⟨Ls, hLs⟩ : ∃ Ls, Ls = L.map Prod.fst := ⟨_, rfl⟩
 have HLS := zHd hLs
 have HLL : Hid (Ls.length = L.length) := by rw [hLs]; simp [Hid]
 rw [← hLs]
 have hlI : (L.length : Int) ≤ 4096 := by omega
 obtain ⟨i2, hi2', z1, z2, z3⟩ := info_parts tbytesinfo
 have HI2 := zHd hi2'
 clear h hhi hlen hLs hi2'
 go_enter Tryz.func59, Tryz.ntmps59
 go_wp2_with fail
 go_loopw [3, 4] (fun v i wr => ∃ k : Nat, k ≤ L.length ∧ i = .int .i64 (k : Int) ∧ Hid (KeyRow w.heap.size lo hi v (keysTo Ls k) wr) ∧ Hid (Ext w wr)) (fun _ i _ => L.length - (intOf i).toNat)
 case atStart => exact ⟨0, Nat.zero_le _, rfl, KeyRow.nil _ _ _ _, Ext.refl _⟩
 case round =>
  obtain ⟨k, hk, rfl, HKR, HX⟩ := hrel
  by_cases hlt : k < L.length
  rotate_left
  · have d : decide ((k : Int) < (L.length : Int)) = false := decide_eq_false (by omega)
    have dn : decide (k < L.length) = false := decide_eq_false hlt
    have hkn : k = L.length := by omega
    have hkt : keysTo Ls k = keysT Ls := by unfold keysT; rw [HLL.out, hkn]
    rw [hkt] at HKR
    clear hlt hk hkn hkt z1 z2 z3
    go_wp2_with fail
    refine bodyPost_ret (results_tmp rfl _ _ _) rfl ?_
    exact ⟨_, rfl, HKR.out, HX.out⟩
  have d : decide ((k : Int) < (L.length : Int)) = true := decide_eq_true (by omega)
  have dn : decide (k < L.length) = true := decide_eq_true hlt
  have HLT := zHd hlt
  obtain ⟨b, o, hA⟩ := HE.out.base (by omega)
  subst hA
  obtain ⟨p, hp⟩ : ∃ p, L[k]? = some p := ⟨_, List.getElem?_eq_getElem hlt⟩
  have HP := zHd hp
  have HEr := zHd (HE.out.below HX.out HHI.out)
  have HPS : Hid (Ls[k]? = some p.1) := by unfold Hid; rw [HLS.out, List.getElem?_map, hp]; rfl
  have HEM : Hid (Em wr lo hi p.1 p.2) := HEr.out.each p (List.mem_of_getElem? hp)
  obtain ⟨b0, _, _, _⟩ := HEr.out.get hp
  have n1 : (0 : Int) ≤ (k : Int) := by omega
  have n2 : (k : Int) < (L.length : Int) := by omega
  have HHIr : Hid (hi ≤ wr.heap.size) := zNt HHI.out HX.out.size
  clear hp hlt hk
  go_upto_region 5 with (fail)
  rcases k with _ | k1
  · have l1 : (0 : Int) < (L.length : Int) := n2
    have l2 : 0 < L.length := HLT.out
    refine flow (by kernel_rfl) [Is (.int .i64 ((0 : Nat) : Int)), Is (.bool true), Is (.bool true), Is undef, Is undef, Is undef, Is undef, Is undef, Is undef, Is undef, Is undef, Is undef, Is undef, Is undef, Is undef, Is undef, Is undef, Is (.bool true)] (by kernel_rfl) (by kernel_rfl) ?mono (fun f1 => ?obl) ?fin
    case mono =>
     simp only [List.forall_mem_cons, List.not_mem_nil, false_imp_iff, implies_true, and_true]
     and_intros <;> exact .is _
    case fin =>
     intro g1 u hu hg
     simp only [puts, Act.put, zq]
     have e17 : g1 17 = _ := hg 17 (by decide)
     rw [e17]
     have HXU : Hid (Ext wr u) := zEt (Ext.drew wr) hu
     have HKU := zHd (HKR.out.below HXU.out HHIr.out)
     have hb0 := ext_cell HXU.out b0
     clear hg hu b0 e17
     rw [Nat.zero_mul, Nat.add_zero] at hb0
     have HKA : Hid (keyAt Ls 0 = [p.1.key]) := keyAt_first HPS.out
     obtain ⟨KA, kc, xs, hv, hrw, hxn, hea⟩ := HKU.out.ex
     subst hv
     have HRW := zHd hrw
     have HXN0 := zHd hxn
     have HEA := zHd hea
     obtain ⟨KN, hKN⟩ : ∃ KN, KN = (keysTo Ls (0)).length := ⟨_, rfl⟩
     have HKE : Hid ((keysTo Ls (0)).length = KN) := hKN.symm
     have HXN : Hid (xs.length = KN) := by rw [hKN]; exact hxn
     have HKN : Hid (KN ≤ 4096) := by rw [hKN]; have := keysTo_len Ls (0); have := HLT.out; have := HL.out; unfold Hid; omega
     have HNL : Hid (keysTo Ls (0 + 1) = keysTo Ls (0) ++ [p.1.key]) := by unfold Hid; rw [keysTo_succ, HKA.out]
     have HNX : Hid ((keysTo Ls (0 + 1)).length = KN + 1) := by rw [HNL.out, List.length_append, hKN]; rfl
     rw [← hKN] at HRW ⊢
     clear hrw hxn hea hKN
     go_wp2_with (at_builtin; refine wpList_pushrow rfl (.tmp 29) (.tmp 35) 105 rfl w.heap.size 22 i2 (.slice none 0 0) 24 Tryz.underlying105 HI2.out z1 z2 z3 rfl _ _ _ rfl HRW.out _ rfl _ rfl rfl ?k4 ?k5 (zNt HX.out.size HXU.out.size) ?_)
     case k4 => unfold maxLen; have := HKN.out; omega
     case k5 => have := HKN.out; omega
     intro A6 c6 w6 ho6 hg6
     have HX6 : Hid (Below w.heap.size u w6) := grown_belowR hg6 (fun g hg => (row_lt HRW.out g hg).1) (zNt HX.out.size HXU.out.size)
     have HK6 : Hid (KeyRow w.heap.size lo hi (.slice A6 (KN + 1) c6) (keysTo Ls (0 + 1)) w6) := by
      refine ⟨A6, c6, xs ++ [.slice p.2.kA p.1.key.length p.2.kc], by rw [HNX.out], ?_, ?_, fun i x l hx hl => ?_⟩
      · have e9 : (keysTo Ls (0 + 1)).length = KN + 1 := HNX.out
        rw [e9]; exact ho6
      · rw [HNX.out, List.length_append, HXN.out]; rfl
      · have hu6 : ∀ {x : Value} {l : List Nat}, Bs u lo hi x l → Bs w6 lo hi x l := fun hb => hb.below HX6.out HHI.out
        rw [HNL.out] at hl
        rcases Nat.lt_or_ge i KN with hi5 | hi5
        · rw [List.getElem?_append_left (by rw [HXN.out]; exact hi5)] at hx
          rw [List.getElem?_append_left (by rw [HKE.out]; exact hi5)] at hl
          exact hu6 (HEA.out i x l hx hl)
        · rw [List.getElem?_append_right (by rw [HXN.out]; exact hi5)] at hx
          rw [List.getElem?_append_right (by rw [HKE.out]; exact hi5)] at hl
          rw [HXN.out] at hx
          rw [HKE.out] at hl
          rcases h9 : i - KN with _ | j
          · rw [h9] at hx hl
            simp at hx hl
            subst hx hl
            exact hu6 (HEM.out.k.below HXU.out HHIr.out)
          · rw [h9] at hx; simp at hx
     have HXF : Hid (Ext w w6) := Below.trans (zEt HX.out HXU.out) HX6.out
     clear ho6 hg6 hb0
     go_wp2_with fail
     go_roundw
     case rel => exact ⟨0 + 1, HLT.out, by go_num, HK6, HXF⟩
     case measure => have := HLT.out; simp [intOf]; omega
    case obl =>
     refine ⟨fun u hu hd => ?_, fun u hu hd => ?_, fun u hu hd => ?_, fun u hu hd => ?_, fun u hu hd => ?_, fun u hu hd => ?_, fun u hu hd => ?_, fun u hu hd => ?_, fun u hu hd => ?_, fun u hu hd => ?_, fun u hu hd => ?_, fun u hu hd => ?_, fun u hu hd => ?_, fun u hu hd => ?_, fun u hu hd => ?_, fun u hu hd => ?_, fun u hu hd => ?_, fun u hu hd => ?_, trivial⟩
     all_goals try simp only [Act.put, zq]
     · go_simp
       exact zEr
     · have e0 : f1 0 = _ := hd 0 (by kernel_rfl)
       go_simp
       exact zEr
     · have e1 : f1 1 = _ := hd 1 (by kernel_rfl)
       go_simp
       exact zEr
     · have e2 : f1 2 = _ := hd 2 (by kernel_rfl)
       go_simp
       rfl
     · have e2 : f1 2 = _ := hd 2 (by kernel_rfl)
       go_simp
       rfl
     · have e2 : f1 2 = _ := hd 2 (by kernel_rfl)
       go_simp
       rfl
     · have e2 : f1 2 = _ := hd 2 (by kernel_rfl)
       go_simp
       rfl
     · have e2 : f1 2 = _ := hd 2 (by kernel_rfl)
       go_simp
       rfl
     · have e2 : f1 2 = _ := hd 2 (by kernel_rfl)
       go_simp
       rfl
     · have e2 : f1 2 = _ := hd 2 (by kernel_rfl)
       go_simp
       rfl
     · have e2 : f1 2 = _ := hd 2 (by kernel_rfl)
       go_simp
       rfl
     · have e2 : f1 2 = _ := hd 2 (by kernel_rfl)
       go_simp
       rfl
     · have e2 : f1 2 = _ := hd 2 (by kernel_rfl)
       go_simp
       rfl
     · have e2 : f1 2 = _ := hd 2 (by kernel_rfl)
       go_simp
       rfl
     · have e2 : f1 2 = _ := hd 2 (by kernel_rfl)
       go_simp
       rfl
     · have e2 : f1 2 = _ := hd 2 (by kernel_rfl)
       go_simp
       rfl
     · have e2 : f1 2 = _ := hd 2 (by kernel_rfl)
       go_simp
       rfl
     · have e2 : f1 2 = _ := hd 2 (by kernel_rfl)
       go_simp
       exact zEr
  · obtain ⟨p0, hp0⟩ : ∃ p0, L[k1]? = some p0 := ⟨_, List.getElem?_eq_getElem (by have := HLT.out; omega)⟩
    have HP0 := zHd hp0
    have HPS0 : Hid (Ls[k1]? = some p0.1) := by unfold Hid; rw [HLS.out, List.getElem?_map, hp0]; rfl
    have HEM0 : Hid (Em wr lo hi p0.1 p0.2) := HEr.out.each p0 (List.mem_of_getElem? hp0)
    obtain ⟨c0, _, _, _⟩ := HEr.out.get hp0
    obtain ⟨z, hz⟩ : ∃ z : Bool, (z = true ↔ p0.1.key ≠ p.1.key) := by
     by_cases h : p0.1.key = p.1.key
     · exact ⟨false, by simp [h]⟩
     · exact ⟨true, by simp [h]⟩
    have HZ := zHd hz
    have m1 : (0 : Int) ≤ (k1 : Int) := by omega
    have l1 : (0 : Int) ≤ (k1 : Int) + 1 := n1
    have l2 : (k1 : Int) + 1 < (L.length : Int) := n2
    have l3 : k1 + 1 < L.length := HLT.out
    have m2 : (k1 : Int) < (L.length : Int) := by have := HLT.out; omega
    have hcz : ((tx p.1.key).toList == (tx p0.1.key).toList) = !z := by
     rw [tx_same HEM.out.bk HEM0.out.bk]
     cases z
     · have : p.1.key = p0.1.key := by
         by_cases h : p0.1.key = p.1.key
         · exact h.symm
         · exact absurd (hz.2 h) (by decide)
       simp [this]
     · have : p.1.key ≠ p0.1.key := fun e => hz.1 rfl e.symm
       simp [this]
    clear hp0 hz
    refine flow (by kernel_rfl) [Is (.int .i64 ((k1 + 1 : Nat) : Int)), Is (.bool false), Is (.bool false), Is (.slice (some ⟨b, o, none⟩) L.length c), Is (.int .i64 ((k1 + 1 : Nat) : Int)), Is (.pointer (some ⟨b, o + ((k1 + 1 : Nat)) * 4, none⟩)), Is (.pointer (some ⟨b, o + ((k1 + 1 : Nat)) * 4, none⟩)), Is (.slice p.2.kA p.1.key.length p.2.kc), Is (.string (tx p.1.key)), Is (.slice (some ⟨b, o, none⟩) L.length c), Is (.int .i64 ((k1 + 1 : Nat) : Int)), Is (.int .i64 (k1 : Int)), Is (.pointer (some ⟨b, o + k1 * 4, none⟩)), Is (.pointer (some ⟨b, o + k1 * 4, none⟩)), Is (.slice p0.2.kA p0.1.key.length p0.2.kc), Is (.string (tx p0.1.key)), Is (.bool z), Is (.bool z)] (by kernel_rfl) (by kernel_rfl) ?mono (fun f1 => ?obl) ?fin
    case mono =>
     simp only [List.forall_mem_cons, List.not_mem_nil, false_imp_iff, implies_true, and_true]
     and_intros <;> exact .is _
    case fin =>
     intro g1 u hu hg
     simp only [puts, Act.put, zq]
     have e17 : g1 17 = _ := hg 17 (by decide)
     rw [e17]
     have HXU : Hid (Ext wr u) := zEt (Ext.drew wr) hu
     have HKU := zHd (HKR.out.below HXU.out HHIr.out)
     have hb0 := ext_cell HXU.out b0
     clear hg hu b0 e17 c0
     have HKN1 := zHd (keyAt_next HPS0.out HPS.out)
     cases z with
     | true =>
      have HKA : Hid (keyAt Ls (k1 + 1) = [p.1.key]) := by rw [HKN1.out, if_neg (HZ.out.1 rfl)]; rfl
      obtain ⟨KA, kc, xs, hv, hrw, hxn, hea⟩ := HKU.out.ex
      subst hv
      have HRW := zHd hrw
      have HXN0 := zHd hxn
      have HEA := zHd hea
      obtain ⟨KN, hKN⟩ : ∃ KN, KN = (keysTo Ls (k1 + 1)).length := ⟨_, rfl⟩
      have HKE : Hid ((keysTo Ls (k1 + 1)).length = KN) := hKN.symm
      have HXN : Hid (xs.length = KN) := by rw [hKN]; exact hxn
      have HKN : Hid (KN ≤ 4096) := by rw [hKN]; have := keysTo_len Ls (k1 + 1); have := HLT.out; have := HL.out; unfold Hid; omega
      have HNL : Hid (keysTo Ls (k1 + 1 + 1) = keysTo Ls (k1 + 1) ++ [p.1.key]) := by unfold Hid; rw [keysTo_succ, HKA.out]
      have HNX : Hid ((keysTo Ls (k1 + 1 + 1)).length = KN + 1) := by rw [HNL.out, List.length_append, hKN]; rfl
      rw [← hKN] at HRW ⊢
      clear hrw hxn hea hKN
      go_wp2_with (at_builtin; refine wpList_pushrow rfl (.tmp 29) (.tmp 35) 105 rfl w.heap.size 22 i2 (.slice none 0 0) 24 Tryz.underlying105 HI2.out z1 z2 z3 rfl _ _ _ rfl HRW.out _ rfl _ rfl rfl ?k4 ?k5 (zNt HX.out.size HXU.out.size) ?_)
      case k4 => unfold maxLen; have := HKN.out; omega
      case k5 => have := HKN.out; omega
      intro A6 c6 w6 ho6 hg6
      have HX6 : Hid (Below w.heap.size u w6) := grown_belowR hg6 (fun g hg => (row_lt HRW.out g hg).1) (zNt HX.out.size HXU.out.size)
      have HK6 : Hid (KeyRow w.heap.size lo hi (.slice A6 (KN + 1) c6) (keysTo Ls (k1 + 1 + 1)) w6) := by
       refine ⟨A6, c6, xs ++ [.slice p.2.kA p.1.key.length p.2.kc], by rw [HNX.out], ?_, ?_, fun i x l hx hl => ?_⟩
       · have e9 : (keysTo Ls (k1 + 1 + 1)).length = KN + 1 := HNX.out
         rw [e9]; exact ho6
       · rw [HNX.out, List.length_append, HXN.out]; rfl
       · have hu6 : ∀ {x : Value} {l : List Nat}, Bs u lo hi x l → Bs w6 lo hi x l := fun hb => hb.below HX6.out HHI.out
         rw [HNL.out] at hl
         rcases Nat.lt_or_ge i KN with hi5 | hi5
         · rw [List.getElem?_append_left (by rw [HXN.out]; exact hi5)] at hx
           rw [List.getElem?_append_left (by rw [HKE.out]; exact hi5)] at hl
           exact hu6 (HEA.out i x l hx hl)
         · rw [List.getElem?_append_right (by rw [HXN.out]; exact hi5)] at hx
           rw [List.getElem?_append_right (by rw [HKE.out]; exact hi5)] at hl
           rw [HXN.out] at hx
           rw [HKE.out] at hl
           rcases h9 : i - KN with _ | j
           · rw [h9] at hx hl
             simp at hx hl
             subst hx hl
             exact hu6 (HEM.out.k.below HXU.out HHIr.out)
           · rw [h9] at hx; simp at hx
      have HXF : Hid (Ext w w6) := Below.trans (zEt HX.out HXU.out) HX6.out
      clear ho6 hg6 hb0
      go_wp2_with fail
      go_roundw
      case rel => exact ⟨k1 + 1 + 1, HLT.out, by go_num, HK6, HXF⟩
      case measure => have := HLT.out; simp [intOf]; omega
     | false =>
      have HST : Hid (keysTo Ls (k1 + 1 + 1) = keysTo Ls (k1 + 1)) := by
       unfold Hid
       rw [keysTo_succ, HKN1.out, if_pos, List.append_nil]
       by_cases h : p0.1.key = p.1.key
       · exact h
       · exact absurd (HZ.out.2 h) (by decide)
      have HKS : Hid (KeyRow w.heap.size lo hi u3 (keysTo Ls (k1 + 1 + 1)) u) := by rw [HST.out]; exact HKU.out
      clear hb0
      go_wp2_with fail
      go_roundw
      case rel => exact ⟨k1 + 1 + 1, HLT.out, by go_num, HKS, zEt HX.out HXU.out⟩
      case measure => have := HLT.out; simp [intOf]; omega
    case obl =>
     refine ⟨fun u hu hd => ?_, fun u hu hd => ?_, fun u hu hd => ?_, fun u hu hd => ?_, fun u hu hd => ?_, fun u hu hd => ?_, fun u hu hd => ?_, fun u hu hd => ?_, fun u hu hd => ?_, fun u hu hd => ?_, fun u hu hd => ?_, fun u hu hd => ?_, fun u hu hd => ?_, fun u hu hd => ?_, fun u hu hd => ?_, fun u hu hd => ?_, fun u hu hd => ?_, fun u hu hd => ?_, trivial⟩
     all_goals try simp only [Act.put, zq]
     · go_simp
       exact zEr
     · have e0 : f1 0 = _ := hd 0 (by kernel_rfl)
       go_simp
       exact zEr
     · have e1 : f1 1 = _ := hd 1 (by kernel_rfl)
       go_simp
       exact zEr
     · have e2 : f1 2 = _ := hd 2 (by kernel_rfl)
       go_simp
       exact zEr
     · have e2 : f1 2 = _ := hd 2 (by kernel_rfl)
       go_simp
       exact zEr
     · have e2 : f1 2 = _ := hd 2 (by kernel_rfl)
       have e3 : f1 3 = _ := hd 3 (by kernel_rfl)
       have e4 : f1 4 = _ := hd 4 (by kernel_rfl)
       go_simp
       exact zEr
     · have e2 : f1 2 = _ := hd 2 (by kernel_rfl)
       have e5 : f1 5 = _ := hd 5 (by kernel_rfl)
       go_simp
       exact zEr
     · have e2 : f1 2 = _ := hd 2 (by kernel_rfl)
       have e6 : f1 6 = _ := hd 6 (by kernel_rfl)
       have hu2 := zEt (Ext.drew wr) hu
       have q0 := ext_cell hu2 b0
       go_simp
       exact zEr
     · have e2 : f1 2 = _ := hd 2 (by kernel_rfl)
       have e7 : f1 7 = _ := hd 7 (by kernel_rfl)
       have hcv := cv_any (HEM.out.k.below (zEt (Ext.drew wr) hu) HHIr.out)
       go_simp
       exact zEr
     · have e2 : f1 2 = _ := hd 2 (by kernel_rfl)
       go_simp
       exact zEr
     · have e2 : f1 2 = _ := hd 2 (by kernel_rfl)
       go_simp
       exact zEr
     · have e2 : f1 2 = _ := hd 2 (by kernel_rfl)
       have e10 : f1 10 = _ := hd 10 (by kernel_rfl)
       have hs : IntKind.i64.wrap (k1 : Int) = (k1 : Int) := by have := HLT.out; rw [IntKind.wrap_i64]; omega
       go_simp
       exact zEr
     · have e2 : f1 2 = _ := hd 2 (by kernel_rfl)
       have e9 : f1 9 = _ := hd 9 (by kernel_rfl)
       have e11 : f1 11 = _ := hd 11 (by kernel_rfl)
       go_simp
       exact zEr
     · have e2 : f1 2 = _ := hd 2 (by kernel_rfl)
       have e12 : f1 12 = _ := hd 12 (by kernel_rfl)
       go_simp
       exact zEr
     · have e2 : f1 2 = _ := hd 2 (by kernel_rfl)
       have e13 : f1 13 = _ := hd 13 (by kernel_rfl)
       have hu2 := zEt (Ext.drew wr) hu
       have q0 := ext_cell hu2 c0
       go_simp
       exact zEr
     · have e2 : f1 2 = _ := hd 2 (by kernel_rfl)
       have e14 : f1 14 = _ := hd 14 (by kernel_rfl)
       have hcv := cv_any (HEM0.out.k.below (zEt (Ext.drew wr) hu) HHIr.out)
       go_simp
       exact zEr
     · have e2 : f1 2 = _ := hd 2 (by kernel_rfl)
       have e8 : f1 8 = _ := hd 8 (by kernel_rfl)
       have e15 : f1 15 = _ := hd 15 (by kernel_rfl)
       cases z
       · go_simp
         exact zEr
       · go_simp
         exact zEr
     · have e2 : f1 2 = _ := hd 2 (by kernel_rfl)
       have e16 : f1 16 = _ := hd 16 (by kernel_rfl)
       go_simp
       exact zEr
end Go.Proofs.YtkdidghfcfcpfaaGreat
namespace Go.Proofs.YtkdidghfcfcpfaaGreat
open Go.ChangeShapes Go.WideShapes Go.ChangeAt Go.RowKit
theorem wpList_addrow_at {ops : Array Oper} {rest : List Oper} {o : Oper} {a : Act} {Q : Exit → Act → World → Prop} {u : World} (hgd : o.guard = none) (s x : Operand)
    (ho : o.op = .call { callee := .builtin .append, args := #[s, x], argTypes := #[22, 22] }) (B : Nat) (v : Value) (l : List Nat) (hs : a.eval s = v) (hown : Own B l v u)
    (lo hi : Nat) (y : Value) (r : List Nat) (hx : a.eval x = y) (hy : Bs u lo hi y r) (hr : 0 < r.length) (hlen : l.length + r.length ≤ 1099511627776) (hB : B ≤ u.heap.size)
    (h : ∀ A' c' w', Own B (l ++ r) (.slice A' (l ++ r).length c') w' → u.grownBy w' v.ownBlock → ((Value.slice A' (l ++ r).length c').ownBlock = v.ownBlock ∨ (Value.slice A' (l ++ r).length c').ownBlock = some u.heap.size) → wpList Tryz.prog ops Q rest (a.put o.dst (.slice A' (l ++ r).length c')) w') :
    wpList Tryz.prog ops Q (o :: rest) a u := by
 obtain ⟨i0, hi0, ix0, ix1, ix2⟩ := info_parts t5info
 obtain ⟨A, c, rfl, h1, h2, hnil, hby⟩ := hy
 obtain ⟨b, o', e, _, _, hc⟩ := hby.at_ (i := 0) hr
 subst e
 have hcells : ∀ j q, (bv r)[j]? = some q → u.cell? ((⟨b, o', none⟩ : Addr).add j) = some q := fun j q hj => by
  rcases hby with h0 | ⟨b2, o2, e2, _, _, h3⟩
  · rw [h0] at hj; simp at hj
  · have e3 : b = b2 := congrArg Addr.block (Option.some.inj e2)
    have e4 : o' = o2 := congrArg Addr.off (Option.some.inj e2)
    subst e3 e4
    rw [addr_add]; exact h3 j q hj
 refine wpList_append_own_at _ hgd s x 22 ho B 5 i0 (.int .u8 0) 1 1 Tryz.underlying22 hi0 ix0 ix1 ix2 rfl (by decide) v l.length (bv l) hs hown ⟨b, o', none⟩ r.length c (bv r) hx (by rw [bv_length]; omega) hcells (bv_one r) (by unfold maxLen; omega) (by omega) hB (fun v' w' ho' hg _ hf => ?_)
 have hown' : Own B (l ++ r) v' w' := by unfold Own; rw [List.length_append, bv_append]; exact ho'
 obtain ⟨A', c', rfl⟩ := hown'.slice
 exact h A' c' w' hown' hg hf
structure W2 (w : World) (T S : List Nat) (BA : Option Addr) (bc : Nat) (RA : Option Addr) (rc : Nat) (u : World) : Prop where
 b : Own w.heap.size T (.slice BA T.length bc) u
 r : Own w.heap.size S (.slice RA S.length rc) u
 x : Ext w u
 ne : ∀ g, (Value.slice BA T.length bc).ownBlock = some g → (Value.slice RA S.length rc).ownBlock ≠ some g
theorem W2.ext {w u u' : World} {T S : List Nat} {BA RA : Option Addr} {bc rc : Nat} (h : W2 w T S BA bc RA rc u) (hx : Ext u u') : W2 w T S BA bc RA rc u' := ⟨h.b.below hx, h.r.below hx, zEt h.x hx, h.ne⟩
theorem w2_addb {ops : Array Oper} {rest : List Oper} {o : Oper} {a : Act} {Q : Exit → Act → World → Prop} {u : World} (hgd : o.guard = none) (s x : Operand)
    (ho : o.op = .call { callee := .builtin .append, args := #[s, x], argTypes := #[22, 22] }) {w : World} {T S : List Nat} {BA RA : Option Addr} {bc rc : Nat} (hst : W2 w T S BA bc RA rc u) (hs : a.eval s = .slice BA T.length bc)
    (lo hi : Nat) (y : Value) (r : List Nat) (hx : a.eval x = y) (hy : Bs u lo hi y r) (hr : 0 < r.length) (hlen : T.length + r.length ≤ 1099511627776) (T' : List Nat) (hT : T' = T ++ r)
    (h : ∀ A' c' w', W2 w T' S A' c' RA rc w' → wpList Tryz.prog ops Q rest (a.put o.dst (.slice A' T'.length c')) w') :
    wpList Tryz.prog ops Q (o :: rest) a u := by
 subst hT
 refine wpList_addrow_at hgd s x ho w.heap.size _ T hs hst.b lo hi y r hx hy hr hlen hst.x.size fun A' c' w' hO hg hf => h A' c' w' ⟨hO, ?_, ?_, ?_⟩
 · exact hst.r.wall fun g hg' => hg.block g (row_lt hst.r g hg').2 (fun e => hst.ne g e.symm hg')
 · exact Below.grown hst.x hg hst.x.size (fun k hk => (row_lt hst.b k hk).1)
 · intro g h1 h2
   rcases hf with hf | hf
   · exact hst.ne g (by rw [← hf]; exact h1) h2
   · rw [hf] at h1
     have := (row_lt hst.r g h2).2
     injection h1 with h1
     omega
theorem w2_addr {ops : Array Oper} {rest : List Oper} {o : Oper} {a : Act} {Q : Exit → Act → World → Prop} {u : World} (hgd : o.guard = none) (s x : Operand)
    (ho : o.op = .call { callee := .builtin .append, args := #[s, x], argTypes := #[22, 22] }) {w : World} {T S : List Nat} {BA RA : Option Addr} {bc rc : Nat} (hst : W2 w T S BA bc RA rc u) (hs : a.eval s = .slice RA S.length rc)
    (lo hi : Nat) (y : Value) (r : List Nat) (hx : a.eval x = y) (hy : Bs u lo hi y r) (hr : 0 < r.length) (hlen : S.length + r.length ≤ 1099511627776) (S' : List Nat) (hT : S' = S ++ r)
    (h : ∀ A' c' w', W2 w T S' BA bc A' c' w' → u.grownBy w' (Value.slice RA S.length rc).ownBlock → ((Value.slice A' S'.length c').ownBlock = (Value.slice RA S.length rc).ownBlock ∨ (Value.slice A' S'.length c').ownBlock = some u.heap.size) → wpList Tryz.prog ops Q rest (a.put o.dst (.slice A' S'.length c')) w') :
    wpList Tryz.prog ops Q (o :: rest) a u := by
 subst hT
 refine wpList_addrow_at hgd s x ho w.heap.size _ S hs hst.r lo hi y r hx hy hr hlen hst.x.size fun A' c' w' hO hg hf => h A' c' w' ⟨?_, hO, ?_, ?_⟩ hg hf
 · exact hst.b.wall fun g hg' => hg.block g (row_lt hst.b g hg').2 (fun e => hst.ne g hg' e.symm)
 · exact Below.grown hst.x hg hst.x.size (fun k hk => (row_lt hst.r k hk).1)
 · intro g h1 h2
   rcases hf with hf | hf
   · exact hst.ne g h1 (by rw [← hf]; exact h2)
   · rw [hf] at h2
     have := (row_lt hst.b g h1).2
     injection h2 with h2
     omega
theorem below_sr {B g : Nat} {w0 w : World} (hb : Below B w0 w) (hBg : B ≤ g) (cs : Array Value) : Below B w0 (w.setRow g cs) :=
 ⟨hb.os, hb.tape, hb.output, by simpa using hb.size, fun i hi => by rw [setRow_other _ _ _ _ (by omega)]; exact hb.block i hi⟩
theorem box_kept {B gb : Nat} {S : List Nat} {v : Value} {u w' : World} {cs : Array Value} (h : Own B S v u) (hb : u.heap[gb]? = some (.cells cs 50 (0, 0))) (hg : u.grownBy w' v.ownBlock) : w'.heap[gb]? = some (.cells cs 50 (0, 0)) := by
 refine (hg.block gb (zAg.1 hb).1 fun e => ?_).trans hb
 rcases h.2 with ⟨rfl, _⟩ | ⟨g, cap, cur, rfl, _, h1, _⟩
 · cases e
 · injection e with e
   subst e
   rw [h1] at hb
   injection hb with hb
   injection hb with _ hb
   exact absurd hb (by decide)
theorem rtwordo_any (x : Nat) (hx : x < 4294967296) (w : World) : Calls Tryz.prog 65 #[.int .u32 (x : Int)] w fun e w' => ∃ A c, e = .returned (.slice A 4 c) ∧ Own w.heap.size (be4 x) (.slice A 4 c) w' ∧ Ext w w' := by
 have HX := zHd hx
 clear hx
 go_enter Tryz.func65, Tryz.ntmps65
 go_wp2_with fail
 refine bodyPost_ret (results_tmp rfl _ _ _) rfl ?_
 refine ⟨_, _, rfl, ?_, ext_alloc _ _⟩
 have h9 := World.ownsRow_lit (base := w.heap.size) (e := 5) (size := 1) w (bv (be4 x)).toArray 4 (zNr _) (by unfold maxLen; omega) (by simp [be4, bv])
 exact h9
theorem CutRow.pcs {w0 w : World} {lo hi d : Nat} {A X : Option Addr} {L : List (Ent × Hd)} {C : List (List (Ent × Hd))} (h : CutRow w0.heap.size (.slice X C.length d) C w) (hE : Es w0 lo hi A L) (hhi : hi ≤ w0.heap.size) (hx : Ext w0 w) (hC : C.flatten = L) (hne : C ≠ []) :
    ∃ g, X = some ⟨g, 0, none⟩ ∧ ∀ (i : Nat) (q : List (Ent × Hd)), C[i]? = some q → ∃ (A : Option Addr) (c : Nat), w.cell? ⟨g, i, none⟩ = some (.slice A q.length c) ∧ Es w 0 w.heap.size A q := by
 obtain ⟨vs, h1, h2⟩ := h
 rcases h1.2 with ⟨_, he⟩ | ⟨g, cap, cur, hv, hg, hh, r⟩
 · exact absurd (List.eq_nil_of_length_eq_zero he) hne
 · injection hv with e1 e2 e3
   subst e1
   refine ⟨g, rfl, fun i q hq => ?_⟩
   obtain ⟨A', c', h3, h4⟩ := h2 i q hq
   refine ⟨A', c', ?_, (erow_sl h4).1, fun p hp => ?_⟩
   · have h9 := h1.cells (g := g) rfl i _ h3
     rwa [addr_add, Nat.zero_add] at h9
   · have hpL : p ∈ L := by rw [← hC]; exact List.mem_flatten.2 ⟨q, List.mem_of_getElem? hq, hp⟩
     exact ((hE.each p hpL).below hx hhi).wide (Nat.zero_le _) (zNt hhi hx.size)
end Go.Proofs.YtkdidghfcfcpfaaGreat
namespace Go.Proofs.YtkdidghfcfcpfaaGreat.Bl
open Go.ChangeShapes Go.WideShapes Go.ChangeAt Go.RowKit
end Go.Proofs.YtkdidghfcfcpfaaGreat.Bl
namespace Go.Proofs.YtkdidghfcfcpfaaGreat.Bl
open Go.ChangeShapes Go.WideShapes Go.ChangeAt Go.RowKit
theorem rem_one {m : Nat} (h : m % 2 = 1) : ((m : Int) % 2 == 1) = true := by simp; omega
theorem rem_none {m : Nat} (h : m % 2 = 0) : ((m : Int) % 2 == 1) = false := by simp; omega
theorem sh_odd {m : Nat} (hm : m < 4294967296) (h : m % 2 = 1) : bits .xor .u32 ((m : Int) / 2 % 4294967296) 2197175160 = ((sh m : Nat) : Int) := by
 rw [show (m : Int) / 2 % 4294967296 = (m : Int) / 2 by omega]
 have e : ((m / 2 : Nat) : Int) = (m : Int) / 2 := by omega
 have := xor_u32 (a := m / 2) (b := 2197175160) (by omega) (by omega)
 rw [e] at this
 rw [sh, h, Nat.one_mul]
 exact this
theorem sh_even {m : Nat} (hm : m < 4294967296) (h : m % 2 = 0) : (m : Int) / 2 % 4294967296 = ((sh m : Nat) : Int) := by
 rw [show (m : Int) / 2 % 4294967296 = (m : Int) / 2 by omega]
 rw [sh, h, Nat.zero_mul, Nat.xor_zero]; omega
theorem step_any (s : Nat) (hs : s < 4294967296) (w : World) : Calls Tryz.prog 116 #[.int .u32 (s : Int)] w fun e w' => e = .returned (.int .u32 (shn 8 s : Nat)) ∧ w = w' := by
 have HS := zHd hs
 clear hs
 go_enter Tryz.func116, Tryz.ntmps116
 go_wp2_with fail
 go_loop [0, 3] (fun x i => ∃ (k m : Nat), k ≤ 8 ∧ i = .int .i64 (k : Int) ∧ x = .int .u32 (m : Int) ∧ Hid (m = shn k s)) (fun _ i => 8 - (intOf i).toNat)
 case atStart => exact ⟨0, s, Nat.zero_le _, rfl, rfl, zHd rfl⟩
 case round =>
  obtain ⟨k, m, hk, rfl, rfl, hm⟩ := hrel
  have HM := zHd (show m < 4294967296 by rw [hm.out]; exact shn_lt HS.out)
  by_cases hlt : k < 8
  · rcases Nat.mod_two_eq_zero_or_one m with hp | hp
    · have hd := rem_none hp
      have HE := zHd (sh_even HM.out hp)
      clear hp
      go_wp2_with fail
      go_round
      case rel => exact ⟨k + 1, sh m, by omega, by go_num, by rw [HE.out], zHd (by rw [hm.out, shn_succ'])⟩
      case measure => simp [intOf]; omega
    · have hd := rem_one hp
      have HE := zHd (sh_odd HM.out hp)
      clear hp
      go_wp2_with fail
      go_round
      case rel => exact ⟨k + 1, sh m, by omega, by go_num, by rw [HE.out], zHd (by rw [hm.out, shn_succ'])⟩
      case measure => simp [intOf]; omega
  · go_wp2_with fail
    go_ret
    obtain rfl : k = 8 := by omega
    exact ⟨by rw [hm.out]; rfl, rfl⟩
theorem xor_top {m : Nat} (h : m < 4294967296) : bits BinOp.xor IntKind.u32 (m : Int) 4294967295 = ((m ^^^ ones : Nat) : Int) := xor_u32 h ones_lt
theorem rmore_any (s : Nat) (hs : s < 4294967296) (v : Value) (lo hi : Nat) (l : List Nat) (w : World) (hv : Bs w lo hi v l) (hl : ∀ c ∈ l, c < 256) :
    Calls Tryz.prog 98 #[.int .u32 (s : Int), v] w fun e w' => e = .returned (.int .u32 (more s l : Nat)) ∧ w = w' := by
 have HS := zHd (xor_lt hs ones_lt)
 have HX := zHd (xor_top hs)
 have HL := zHd hl
 obtain ⟨A, c, rfl, q1, q2, q3, hby⟩ := hv
 have HBY := zHd hby
 have hlen : l.length ≤ 9223372036854775807 := by unfold maxLen at q2; omega
 clear hs hl q1 q2 q3 hby
 go_enter Tryz.func98, Tryz.ntmps98
 go_wp2_with fail
 rw [HX.out]
 go_loop [5, 6] (fun r i => ∃ (k m : Nat), k ≤ l.length ∧ i = .int .i64 (k : Int) ∧ r = .int .u32 (m : Int) ∧ Hid (m = reg (s ^^^ ones) (l.take k))) (fun _ i => l.length - (intOf i).toNat)
 case atStart => exact ⟨0, s ^^^ ones, Nat.zero_le _, rfl, rfl, zHd rfl⟩
 case round =>
  obtain ⟨k, m, hk, rfl, rfl, hm⟩ := hrel
  have HM := zHd (show m < 4294967296 by rw [hm.out]; exact reg_take_lt HS.out HL.out k)
  by_cases hlt : k < l.length
  · obtain ⟨b, o, rfl, _, _, hcell⟩ := HBY.out.at_ hlt
    have hc256 := HL.out l[k] (List.getElem_mem hlt)
    have HC := zHd (show l[k] < 4294967296 by omega)
    have HY := zHd (xor_u32 HM.out HC.out)
    go_wp2_with fail
    rw [HY.out]
    refine (step_any _ (xor_lt HM.out HC.out) _).mono ?_
    rintro e w1 ⟨rfl, rfl⟩
    go_wp2_with fail
    go_round
    case rel => exact ⟨k + 1, _, by omega, by go_num, rfl, zHd (by rw [reg_take _ l hlt, hm.out])⟩
    case measure => simp [intOf]; omega
  · have HZ := zHd (xor_top HM.out)
    go_wp2_with fail
    go_ret
    obtain rfl : k = l.length := by omega
    exact ⟨by rw [HZ.out, hm.out, List.take_length]; rfl, rfl⟩
theorem rsum_any (v : Value) (lo hi : Nat) (l : List Nat) (w : World) (hv : Bs w lo hi v l) (hl : ∀ c ∈ l, c < 256) :
    Calls Tryz.prog 64 #[v] w fun e w' => e = .returned (.int .u32 (crc l : Nat)) ∧ w = w' := by
 have H := zHd (rmore_any 0 (by omega) v lo hi l w hv hl)
 rw [more_zero] at H
 obtain ⟨A, c, rfl, q1, q2, q3, hby⟩ := hv
 clear q1 q2 q3 hby hl
 go_enter Tryz.func64, Tryz.ntmps64
 go_wp2_with fail
 refine Calls.mono H.out ?_
 rintro e w1 ⟨rfl, rfl⟩
 go_wp2_with fail
 go_ret
 exact ⟨rfl, rfl⟩
end Go.Proofs.YtkdidghfcfcpfaaGreat.Bl
namespace Go.Proofs.YtkdidghfcfcpfaaGreat.Bl
open Go.ChangeShapes Go.WideShapes Go.ChangeAt Go.RowKit
theorem rsize_any (n : Int) (h1 : -9223372036854775808 ≤ n) (h2 : n ≤ 9223372036854775807) (w : World) :
    Calls Tryz.prog 95 #[.int .i64 n] w fun e w' => e = .returned (.int .i64 (sizeI n : Nat)) ∧ w = w' := by
 by_cases ha : n < 0
 · have hd : decide (n < 0) = true := by simpa using ha
   have HS : Hid (sizeI n = 0) := by unfold sizeI Hid; rw [if_pos (.inl ha)]
   go_enter Tryz.func95, Tryz.ntmps95
   go_wp2_with fail
   go_ret
   exact ⟨by rw [HS.out]; rfl, rfl⟩
 · have hd : decide (n < 0) = false := by simpa using ha
   by_cases hb : 65536 < n
   · have hd2 : decide (65536 < n) = true := by simpa using hb
     have HS : Hid (sizeI n = 0) := by unfold sizeI Hid; rw [if_pos (.inr hb)]
     go_enter Tryz.func95, Tryz.ntmps95
     go_wp2_with fail
     go_ret
     exact ⟨by rw [HS.out]; rfl, rfl⟩
   · have hd2 : decide (65536 < n) = false := by simpa using hb
     obtain ⟨m, rfl⟩ : ∃ m : Nat, n = (m : Int) := ⟨n.toNat, by omega⟩
     have HS : Hid (sizeI (m : Int) = bsize m) := sizeI_nat (by omega)
     have hm : m ≤ 65536 := by omega
     clear ha hb h1 h2
     go_enter Tryz.func95, Tryz.ntmps95
     go_wp2_with fail
     go_loop [3] (fun i => ∃ k : Nat, 8 * (m + 1) ≤ k ∧ k ≤ 8 * bsize m ∧ i = .int .i64 (k : Int)) (fun i => 8 * bsize m - (intOf i).toNat)
     case atStart => exact ⟨8 * (m + 1), zNr _, by unfold bsize; omega, by go_num⟩
     case round =>
      obtain ⟨k, hk1, hk2, rfl⟩ := hrel
      have hkb : (k : Int) ≤ 1000000 := by have := bsize_le hm; omega
      by_cases hz : k % 64 = 0
      · have hd3 : ((k : Int) % 64 != 0) = false := by simp; omega
        have hkk : k = 8 * bsize m := by unfold bsize at hk2 ⊢; omega
        have hmin : ((k : Int) ≤ 1048576) := by omega
        clear hz
        go_wp2_with fail
        go_ret
        have e8 : min (8 * ((bsize m : Nat) : Int)) 1048576 / 8 = ((bsize m : Nat) : Int) := by omega
        refine ⟨?_, rfl⟩
        rw [HS.out]
        first
         | (simp; done)
         | (show Ending.returned (Value.int .i64 (min (8 * ((bsize m : Nat) : Int)) 1048576 / 8)) = _; rw [e8])
         | rfl
      · have hd3 : ((k : Int) % 64 != 0) = true := by simp; omega
        have hk3 : k + 1 ≤ 8 * bsize m := by unfold bsize at hk2 ⊢; omega
        clear hz
        go_wp2_with fail
        go_round
        case rel => exact ⟨k + 1, by omega, by omega, by go_num⟩
        case measure => simp [intOf]; omega
theorem bit_word (x j : Nat) (hx : x < 256) : (bits .and .u8 ((x : Int) / (2 : Int) ^ (j % 8)) 1 == 1) = (x / 2 ^ (j % 8) % 2 == 1) := by
 have e : ((x / 2 ^ (j % 8) : Nat) : Int) = (x : Int) / (2 : Int) ^ (j % 8) := by simp
 rw [← e]
 have h : x / 2 ^ (j % 8) < 256 := Nat.lt_of_le_of_lt (Nat.div_le_self _ _) hx
 have h2 := and_u8 h (show 1 < 256 by decide)
 rw [show ((1 : Nat) : Int) = 1 from rfl] at h2
 rw [h2, Nat.and_one_is_mod]
 rw [Bool.eq_iff_iff, beq_iff_eq, beq_iff_eq]
 omega
set_option maxHeartbeats 1000000 in
theorem rhas_any {w : World} {lo hi c : Nat} {A : Option Addr} {F : List Nat} {j : Nat} (hu : Bs w lo hi (.slice A F.length c) F) (hF : ∀ x ∈ F, x < 256) (hj : j < 8 * F.length) (hl : F.length ≤ 1099511627776) :
    Calls Tryz.prog 94 #[.slice A F.length c, .int .i64 (j : Int)] w fun e w' => e = .returned (.bool (bitOf F j)) ∧ w = w' := by
 obtain ⟨q, hq⟩ : ∃ q, q = j / 8 := ⟨_, rfl⟩
 have hqn : q < F.length := by omega
 obtain ⟨x, hx⟩ : ∃ x, x = F[q] := ⟨_, rfl⟩
 have hx8 : x < 256 := by rw [hx]; exact hF _ (List.getElem_mem _)
 have HBT : Hid (bitOf F j = (x / 2 ^ (j % 8) % 2 == 1)) := by subst hq; rw [hx]; exact bit_at hqn
 have HW := zHd (bit_word x j hx8)
 obtain ⟨A', c', he, _, _, _, hby⟩ := hu
 injection he with e1 _ e3
 subst e1 e3
 obtain ⟨g, o, rfl, _, _, c0⟩ := hby.at_ hqn
 rw [← hx] at c0
 have hq2 : (j : Int) / 8 = (q : Int) := by omega
 have hqi : (q : Int) < (F.length : Int) := by omega
 have hji : (j : Int) ≤ 9223372036854775807 := by omega
 clear hq hx hby hF hj hl
 go_enter Tryz.func94, Tryz.ntmps94
 go_wp2_with fail
 go_ret
 exact ⟨by rw [HBT.out, ← HW.out]; rfl, rfl⟩
theorem way_ref {l : List Nat} (hl : ∀ x ∈ l, x < 256) : bits .or .u32 ((crc (l ++ [1]) : Nat) : Int) 1 = ((way l : Nat) : Int) := by
 have h := way_bits hl
 rw [crc_more] at h
 exact h
theorem snoc_lt {l : List Nat} (hl : ∀ x ∈ l, x < 256) : ∀ x ∈ l ++ [1], x < 256 := fun x hx => by
 rcases List.mem_append.1 hx with hx | hx
 · exact hl x hx
 · exact one_lt x hx
set_option maxRecDepth 100000 in
set_option maxHeartbeats 4000000 in
theorem rbits_any (v : Value) (lo hi : Nat) (l : List Nat) (m : Nat) (w : World) (hv : Bs w lo hi v l) (hhi : hi ≤ w.heap.size) (hl : ∀ c ∈ l, c < 256) (hll : l.length ≤ 1000000) (hm1 : 0 < m) (hm2 : m ≤ 1048576) :
    Calls Tryz.prog 93 #[v, .int .i64 (m : Int)] w fun e w' => e = .returned (.agg (irow (kbs l m))) ∧ Ext w w' := by
 have HV := zHd hv
 have HL := zHd hl
 have H0 := zHd (five0 (kb l m))
 have HW := zHd (way_ref hl)
 have HA0 : Hid (IArr (w.alloc (.cells #[.int .i64 0, .int .i64 0, .int .i64 0, .int .i64 0, .int .i64 0] 131)) w.heap.size 131 (part (kb l m) 5 0)) := by unfold IArr Hid; rw [H0.out]; exact heap_alloc_new _ _
 have HX0 : Hid (Ext w (w.alloc (.cells #[.int .i64 0, .int .i64 0, .int .i64 0, .int .i64 0, .int .i64 0] 131))) := ext_alloc _ _
 have HS := zHd (rsum_any v lo hi l _ (HV.out.alloc hhi (.cells #[.int .i64 0, .int .i64 0, .int .i64 0, .int .i64 0, .int .i64 0] 131)) hl)
 obtain ⟨A, c, rfl, _, _, _, _⟩ := hv
 clear hl
 go_enter Tryz.func93, Tryz.ntmps93
 go_upto_region 1 with (fail)
 obtain ⟨w0, hw0⟩ : ∃ w0, w0 = w.alloc (.cells #[.int .i64 0, .int .i64 0, .int .i64 0, .int .i64 0, .int .i64 0] 131) := ⟨_, rfl⟩
 rw [← hw0] at HS HA0 HX0 ⊢
 have hsz0 : w.heap.size < w0.heap.size := by rw [hw0]; simp
 clear hw0
 go_wp2_with fail
 refine Calls.mono HS.out ?_
 rintro e w1 ⟨rfl, rfl⟩
 go_wp2_with (at_builtin; refine wpList_addn rfl (.const (.slice none 0 0)) (.tmp 11) rfl w0.heap.size _ [] rfl (Own.nil _ _) lo hi _ l rfl (HV.out.below HX0.out hhi) l l.length rfl rfl (by omega) (zNr _) ?_)
 intro A2 c2 w2 ho2 hb2
 have HO2 := zHd ho2
 have HX2 : Hid (Ext w0 w2) := hb2 w0 (Ext.refl _)
 clear ho2 hb2
 go_wp2_with (at_builtin; refine wpList_addn rfl (.tmp 12) (.tmp 13) rfl w0.heap.size _ l rfl (HO2.out.below (ext_alloc w2 _)) _ _ _ [1] rfl (bs_new w2 [1] (by simp)) (l ++ [1]) (l ++ [1]).length rfl rfl (by simp; omega) (by have := HX2.out.size; simp; omega) ?_)
 intro A3 c3 w3 ho3 hb3
 have HO3 := zHd ho3
 have HX3 : Hid (Ext w0 w3) := hb3 w0 (zEt HX2.out (ext_alloc w2 _))
 clear ho3 hb3
 go_wp2_with fail
 refine (rsum_any _ _ _ (l ++ [1]) _ HO3.out.bs (snoc_lt HL.out)).mono ?_
 rintro e w4 ⟨rfl, rfl⟩
 go_wp2_with fail
 rw [HW.out, ← H0.out]
 have HA3 := zHd (HA0.out.below HX3.out hsz0)
 have hsz3 : w.heap.size < w3.heap.size := by have := HX3.out.size; omega
 have HX03 : Hid (Ext w w3) := zEt HX0.out HX3.out
 go_loopw [8] (fun i wr => ∃ k : Nat, k ≤ 5 ∧ i = .int .i64 (k : Int) ∧ Hid (IArr wr w.heap.size 131 (part (kb l m) 5 0)) ∧ Hid (IArr wr w3.heap.size 131 (part (kb l m) 5 k)) ∧ Hid (Below w.heap.size w wr)) (fun i _ => 5 - (intOf i).toNat)
 case atStart =>
  exact ⟨0, by omega, rfl, HA3.out.below (below_new1 _ _) hsz3, heap_alloc_new _ _, zEt HX03.out (ext_alloc _ _)⟩
 case round =>
  obtain ⟨k, hk, rfl, HA, HC, HB⟩ := hrel
  by_cases hlt : k < 5
  · have hcell := HC.out.cell k (by rw [part_length]; exact hlt)
    have hfree := HC.out.free k
    have HK := zHd (kb_int l m k hm1 hm2)
    have hmz : ((m : Int) == 0) = false := by simp; omega
    go_wp2_with fail
    go_roundw
    case rel =>
     rw [HK.out]
     refine ⟨k + 1, by omega, by go_num, HA.out.far (by simp; omega) _, ?_, below_set HB.out (by omega) _ _⟩
     have := HC.out.set k (kb l m k)
     rw [part_set] at this
     exact this
    case measure => simp [intOf]; omega
  · obtain rfl : k = 5 := by omega
    go_wp2_with (first | (refine wpList_load_row rfl 131 (.tmp 7) rfl w3.heap.size rfl 131 _ (0, 0) _ HC.out Tryz.underlying131 rfl info5 ?_) | (refine wpList_store_row rfl 131 (.tmp 4) (.tmp 33) rfl w.heap.size (irow (part (kb l m) 5 5)) rfl rfl 131 _ HA.out info5 (by simp [irow_size, part_length]) (irow_one _) ?_))
    have HR := HA.out.setRow (part (kb l m) 5 5)
    refine bodyPost_ret (v := .agg (irow (part (kb l m) 5 5))) (results_cell_row Tryz.results93 _ _ w.heap.size 131 _ (0, 0) _ rfl HR Tryz.underlying131 rfl (by simp [irow_size, part_length, info5])) rfl ⟨by rw [part_kbs], below_row HB.out (zNr _) _⟩
end Go.Proofs.YtkdidghfcfcpfaaGreat.Bl
