/- Dtie Dboth Down Dpair Dall Dnonem Dnone Dknown, joined. -/
import Derived.Test.YtenhfphgobalfaaMa7
import Derived.Test.YtenhfphgobalfaaMa4
import Derived.Shelf.RegionOpen
import Derived.Test.YtenhfphgobalfaaMa3
import Derived.Lib.SmallJoins

/- Both disks hold the same files: plain mathematics. -/
namespace Go.Proofs.Ytenhfphgobalfaa
open Go.RowKit Go.Maps

/-- All but the k-th. -/
def restR (G : List RFl) (k : Nat) : List RFl := G.take k ++ G.drop (k + 1)
theorem at_split (G : List RFl) {k : Nat} (hk : k < G.length) : G = G.take k ++ G[k] :: G.drop (k + 1) := by
  rw [← List.drop_eq_getElem_cons hk, List.take_append_drop]
theorem at_perm (G : List RFl) {k : Nat} (hk : k < G.length) : G.Perm (G[k] :: restR G k) := by
  have h := at_split G hk
  exact (List.Perm.of_eq h).trans List.perm_middle
theorem set_perm (G : List RFl) {k : Nat} (hk : k < G.length) (y : RFl) : (G.set k y).Perm (y :: restR G k) := by
  rw [List.set_eq_take_append_cons_drop, if_pos hk]
  exact List.perm_middle
theorem drop1_perm (G : List RFl) {k : Nat} (hk : k < G.length) : (drop1 G k).Perm (restR G k) := by
  rcases List.eq_nil_or_concat G with rfl | ⟨H, y, rfl⟩
  · simp at hk
  · simp only [List.concat_eq_append] at *
    have e : (H ++ [y]).getLast? = some y := by simp
    unfold drop1
    rw [e]
    dsimp only
    by_cases h : k < H.length
    · rw [List.set_append_left _ _ h, List.dropLast_concat]
      have h1 : restR (H ++ [y]) k = restR H k ++ [y] := by
        unfold restR
        rw [List.take_append_of_le_length (by omega), List.drop_append_of_le_length (by omega), List.append_assoc]
      rw [h1]
      exact (set_perm H h y).trans (List.perm_append_comm (l₁ := [y])|>.trans (List.Perm.refl _))
    · have hk' : k = H.length := by simp at hk; omega
      subst hk'
      rw [List.set_append_right _ _ (Nat.le_refl _)]
      have h1 : restR (H ++ [y]) H.length = H := by unfold restR; simp
      rw [h1]
      simp

def nat8 (l : List UInt8) : List Nat := l.map UInt8.toNat
theorem nat8_app (a b : List UInt8) : nat8 (a ++ b) = nat8 a ++ nat8 b := List.map_append
theorem nat8_len (a : List UInt8) : (nat8 a).length = a.length := List.length_map _
theorem nat8_inj {a b : List UInt8} (h : nat8 a = nat8 b) : a = b := by
  unfold nat8 at h
  induction a generalizing b with
  | nil => cases b with
    | nil => rfl
    | cons y b => simp at h
  | cons x a ih => cases b with
    | nil => simp at h
    | cons y b =>
      simp only [List.map_cons, List.cons.injEq] at h
      rw [UInt8.toNat_inj.1 h.1, ih h.2]
/-- A file of the reference's, as one of the program's. -/
def toFl (g : RFl) : Fl := ⟨g.name, nat8 (g.sure ++ g.loose), g.sure.length⟩
theorem toFl_inj {g h : RFl} (e : toFl g = toFl h) : g = h := by
  cases g; cases h
  unfold toFl at e
  injection e with e1 e2 e3
  have e4 := nat8_inj e2
  obtain ⟨e5, e6⟩ := List.append_inj e4 e3
  simp_all
/-- They hold the same files. -/
structure Tie (F : List Fl) (G : List RFl) : Prop where
  perm : F.Perm (G.map toFl)
  ng : (G.map RFl.name).Nodup
theorem map_toFl (G : List RFl) : (G.map toFl).map Fl.name = G.map RFl.name := by rw [List.map_map]; rfl
section
variable {F : List Fl} {G H : List RFl}
theorem Tie.nf (h : Tie F G) : (F.map Fl.name).Nodup := ((h.perm.map Fl.name).trans (List.Perm.of_eq (map_toFl G))).nodup_iff.2 h.ng
theorem Tie.mem (h : Tie F G) {f : Fl} : f ∈ F ↔ ∃ g ∈ G, toFl g = f := by rw [h.perm.mem_iff, List.mem_map]
theorem Tie.turn (h : Tie F G) (p : G.Perm H) : Tie F H := ⟨h.perm.trans (p.map toFl), (p.map RFl.name).nodup_iff.1 h.ng⟩
theorem Tie.turnF {F' : List Fl} (h : Tie F G) (p : F'.Perm F) : Tie F' G := ⟨p.trans h.perm, h.ng⟩
theorem Tie.nil : Tie [] [] := ⟨.nil, by simp⟩
theorem Tie.len (h : Tie F G) : F.length = G.length := by rw [h.perm.length_eq, List.length_map]
theorem Tie.tot (h : Tie F G) : tot F = rtot G := by
  rw [tot_perm h.perm]
  unfold Go.Proofs.Ytenhfphgobalfaa.tot rtot
  rw [List.map_map]
  congr 1
  refine List.map_congr_left fun g _ => ?_
  show (nat8 (g.sure ++ g.loose)).length = _
  rw [nat8_len, List.length_append]
theorem Tie.there (h : Tie F G) (n : List UInt8) : there F n = isIn G n := by
  rw [Bool.eq_iff_iff]
  unfold Go.Proofs.Ytenhfphgobalfaa.there isIn
  simp only [List.any_eq_true, beq_iff_eq]
  constructor
  · rintro ⟨f, hf, rfl⟩
    obtain ⟨g, hg, rfl⟩ := h.mem.1 hf
    exact ⟨g, hg, rfl⟩
  · rintro ⟨g, hg, rfl⟩
    exact ⟨toFl g, h.mem.2 ⟨g, hg, rfl⟩, rfl⟩
theorem isIn_yes {k : Nat} (hk : k < G.length) {n : List UInt8} (e : G[k].name = n) : isIn G n = true := List.any_eq_true.2 ⟨_, List.getElem_mem hk, by rw [e]; simp⟩
theorem isIn_no {n : List UInt8} (e : noName G n) : isIn G n = false := by
  unfold isIn
  rw [List.any_eq_false]
  intro g hg
  simpa using e g hg
theorem isIn_none {n : List UInt8} (e : isIn G n = false) : noName G n := fun g hg h => by
  have : isIn G n = true := List.any_eq_true.2 ⟨g, hg, by rw [h]; simp⟩
  rw [e] at this; cases this
theorem Tie.cur (h : Tie F G) {g : RFl} (hg : g ∈ G) : cur F g.name = toFl g := cur_mem h.nf (f := toFl g) (h.mem.2 ⟨g, hg, rfl⟩)
theorem Tie.curAt (h : Tie F G) {k : Nat} (hk : k < G.length) {n : List UInt8} (e : G[k].name = n) : Go.Proofs.Ytenhfphgobalfaa.cur F n = toFl G[k] := by rw [← e]; exact h.cur (List.getElem_mem hk)
theorem Tie.seek (h : Tie F G) (n : List UInt8) : seekN F n = rseekN G n := by
  unfold seekN rseekN
  rw [h.there]
  cases good n <;> cases isIn G n <;> rfl

theorem del_map (n : List UInt8) (E : List RFl) (h : ∀ e ∈ E, e.name ≠ n) : del (E.map toFl) n = E.map toFl := by
  refine List.filter_eq_self.2 fun f hf => ?_
  obtain ⟨e, he, rfl⟩ := List.mem_map.1 hf
  simpa [toFl] using h e he
theorem del_permF {F F' : List Fl} (p : F.Perm F') (n : List UInt8) : (del F n).Perm (del F' n) := p.filter _
theorem cons_names {g : RFl} {E : List RFl} (h : ((g :: E).map RFl.name).Nodup) : (∀ e ∈ E, e.name ≠ g.name) ∧ (E.map RFl.name).Nodup := by
  rw [List.map_cons, List.nodup_cons] at h
  exact ⟨fun e he e2 => h.1 (e2 ▸ List.mem_map_of_mem he), h.2⟩
theorem nodup_consN {g : RFl} {E : List RFl} (h : ∀ e ∈ E, e.name ≠ g.name) (h2 : (E.map RFl.name).Nodup) : ((g :: E).map RFl.name).Nodup := by
  rw [List.map_cons, List.nodup_cons]
  refine ⟨fun hm => ?_, h2⟩
  obtain ⟨e, he, e2⟩ := List.mem_map.1 hm
  exact h e he e2
theorem Tie.delC {g : RFl} {E : List RFl} (h : Tie F (g :: E)) : Tie (del F g.name) E := by
  obtain ⟨h1, h2⟩ := cons_names h.ng
  refine ⟨(del_permF h.perm _).trans ?_, h2⟩
  rw [List.map_cons]
  have e : del (toFl g :: E.map toFl) g.name = del (E.map toFl) g.name := List.filter_cons_of_neg (by show ¬ (g.name != g.name) = true; simp)
  rw [e, del_map _ _ h1]
theorem Tie.updC {g y : RFl} {E : List RFl} (h : Tie F (g :: E)) (hy : y.name = g.name) : Tie (upd F (toFl y)) (y :: E) := by
  have h1 := h.delC
  obtain ⟨h2, _⟩ := cons_names h.ng
  refine ⟨?_, nodup_consN (fun e he => by rw [hy]; exact h2 e he) h1.ng⟩
  rw [List.map_cons]
  unfold upd
  rw [show (toFl y).name = g.name from hy]
  exact List.Perm.cons _ h1.perm
theorem Tie.addC {y : RFl} (h : Tie F G) (hn : noName G y.name) : Tie (upd F (toFl y)) (y :: G) := by
  refine ⟨?_, nodup_consN (fun e he => hn e he) h.ng⟩
  rw [List.map_cons]
  unfold upd
  refine List.Perm.cons _ ((del_permF h.perm _).trans ?_)
  rw [show (toFl y).name = y.name from rfl, del_map _ _ hn]
/-! What the calls do. -/
theorem Tie.appNew (h : Tie F G) {n bs : List UInt8} (hn : noName G n) : Tie (app F n (nat8 bs)) (G ++ [⟨n, [], bs⟩]) := by
  have e : app F n (nat8 bs) = upd F (toFl ⟨n, [], bs⟩) := by
    unfold app
    rw [cur_none (by rw [h.there]; exact isIn_no hn)]
    rfl
  rw [e]
  exact (h.addC (y := ⟨n, [], bs⟩) hn).turn (List.perm_append_comm (l₁ := [_]))
theorem Tie.setK (h : Tie F G) {k : Nat} (hk : k < G.length) {y : RFl} (hy : y.name = G[k].name) : Tie (upd F (toFl y)) (G.set k y) := ((h.turn (at_perm G hk)).updC hy).turn (set_perm G hk y).symm
theorem Tie.appOld (h : Tie F G) {n bs : List UInt8} {k : Nat} (hk : k < G.length) (e : G[k].name = n) : Tie (app F n (nat8 bs)) (more1 G n bs k) := by
  have e2 : app F n (nat8 bs) = upd F (toFl ⟨n, G[k].sure, G[k].loose ++ bs⟩) := by
    unfold app
    rw [h.curAt hk e]
    simp [toFl, nat8_app]
  have e3 : more1 G n bs k = G.set k ⟨n, G[k].sure, G[k].loose ++ bs⟩ := by unfold more1; rw [List.getElem?_eq_getElem hk]
  rw [e2, e3]
  exact h.setK hk e.symm
theorem Tie.syn1 (h : Tie F G) {n : List UInt8} {k : Nat} (hk : k < G.length) (e : G[k].name = n) : Tie (syn F n) (sync1 G n k) := by
  have e2 : syn F n = upd F (toFl ⟨n, G[k].sure ++ G[k].loose, []⟩) := by
    unfold syn
    rw [h.curAt hk e]
    simp [toFl, nat8_len]
  have e3 : sync1 G n k = G.set k ⟨n, G[k].sure ++ G[k].loose, []⟩ := by unfold sync1; rw [List.getElem?_eq_getElem hk]
  rw [e2, e3]
  exact h.setK hk e.symm
theorem Tie.del1 (h : Tie F G) {n : List UInt8} {k : Nat} (hk : k < G.length) (e : G[k].name = n) : Tie (del F n) (drop1 G k) := by
  rw [← e]
  exact (h.turn (at_perm G hk)).delC.turn (drop1_perm G hk).symm
theorem ren_eq (h : Tie F G) {x y : List UInt8} {k : Nat} (hk : k < G.length) (e : G[k].name = x) : ren F x y = upd (del F x) (toFl ⟨y, G[k].sure, G[k].loose⟩) := by
  unfold ren
  rw [h.curAt hk e]
  rfl
theorem name1_eq {y : List UInt8} {k : Nat} (hk : k < G.length) : name1 G y k = G.set k ⟨y, G[k].sure, G[k].loose⟩ := by unfold name1; rw [List.getElem?_eq_getElem hk]
theorem Tie.renNew (h : Tie F G) {x y : List UInt8} {k : Nat} (hk : k < G.length) (e : G[k].name = x) (hn : noName G y) : Tie (ren F x y) (name1 G y k) := by
  rw [ren_eq h hk e, name1_eq hk]
  have h1 := (h.turn (at_perm G hk)).delC
  rw [e] at h1
  refine (h1.addC (y := ⟨y, G[k].sure, G[k].loose⟩) fun f hf => hn f ?_).turn (set_perm G hk _).symm
  exact (at_perm G hk).mem_iff.2 (List.mem_cons_of_mem _ hf)
theorem Tie.renOver (h : Tie F G) {x y : List UInt8} {k l : Nat} (hk : k < G.length) (e : G[k].name = x) (hl : l < G.length) (e2 : G[l].name = y) (hne : x ≠ y) : Tie (ren F x y) (drop1 (name1 G y k) l) := by
  rw [ren_eq h hk e, name1_eq hk]
  have hkl : k ≠ l := fun q => by subst q; exact hne (e.symm.trans e2)
  have h1 := (h.turn (at_perm G hk)).delC
  rw [e] at h1
  have hl1 : G[l] ∈ restR G k := by
    have hm := (at_perm G hk).mem_iff.1 (List.getElem_mem hl)
    rcases List.mem_cons.1 hm with q | q
    · exact absurd (by rw [← e, ← e2, q]) hne
    · exact q
  obtain ⟨s, t, hst⟩ := List.append_of_mem hl1
  have p1 : (restR G k).Perm (G[l] :: (s ++ t)) := by rw [hst]; exact List.perm_middle
  have h2 := (h1.turn p1).updC (y := ⟨y, G[k].sure, G[k].loose⟩) e2.symm
  refine h2.turn ?_
  have hl2 : l < (G.set k ⟨y, G[k].sure, G[k].loose⟩).length := by simpa using hl
  have q1 := drop1_perm (G.set k ⟨y, G[k].sure, G[k].loose⟩) hl2
  have q2 := at_perm (G.set k ⟨y, G[k].sure, G[k].loose⟩) hl2
  have q3 : (G.set k ⟨y, G[k].sure, G[k].loose⟩)[l] = G[l] := by rw [List.getElem_set_ne hkl]
  rw [q3] at q2
  have q4 := (set_perm G hk ⟨y, G[k].sure, G[k].loose⟩).trans (p1.cons _)
  have q5 := (q2.symm.trans q4).trans (List.Perm.swap _ _ _)
  exact (q5.cons_inv.symm).trans q1.symm
theorem ren_self (h : Tie F G) {x : List UInt8} {k : Nat} (hk : k < G.length) (e : G[k].name = x) : Tie (ren F x x) G := by
  rw [ren_eq h hk e]
  have h1 := h.turn (at_perm G hk)
  have h2 := h1.delC
  rw [e] at h2
  have h3 := cons_names h1.ng
  rw [e] at h3
  have h4 := h2.addC (y := ⟨x, G[k].sure, G[k].loose⟩) h3.1
  have e5 : (⟨x, G[k].sure, G[k].loose⟩ : RFl) = G[k] := by rw [← e]
  rw [e5] at h4 ⊢
  exact h4.turn (at_perm G hk).symm
end
end Go.Proofs.Ytenhfphgobalfaa

/- Disks of the program's beside disks of the reference's. -/
namespace Go.Proofs.Ytenhfphgobalfaa
open Go.RowKit Go.Maps
set_option linter.unusedVariables false

/-- What a disk's block is. -/
def DKind (w : World) (k : Nat) : Prop := (∃ cs, w.heap[k]? = some (.cells cs 79 (0, 0))) ∨ (∃ es c, w.heap[k]? = some (.map es c)) ∨ ∃ cs, w.heap[k]? = some (.cells cs 5 (0, 0))
theorem Disk.kinds {w : World} {S : Nat → Prop} {B d room : Nat} {F : List Fl} (h : Disk w S B d room F) : Disk w (fun k => S k ∧ DKind w k) B d room F := by
  obtain ⟨⟨m, D, V, h1, h2, h3, h4, h5, h6, h7⟩, a, b, c, e, f, g, i⟩ := h
  refine ⟨⟨m, D, V, h1, h2, h3, fun x hx => ?_, h5, ⟨h6, ?_⟩, h7⟩, ⟨a, .inl ⟨_, h1⟩⟩, b, c, e, f, g, i⟩
  · obtain ⟨⟨u, q1, q2, q3⟩, q4, q5⟩ := h4 x hx
    exact ⟨⟨u, q1, q2, fun g hg => ⟨q3 g hg, .inr (.inr (row_not q2 hg))⟩⟩, q4, q5⟩
  · obtain ⟨es, clock, hb, _⟩ := h2
    exact .inr (.inl ⟨_, _, hb⟩)
theorem Multi.kinds {B : Nat} : ∀ {L : List Dk} {w : World} {S : Nat → Prop}, Multi B L w S → ∃ S', Multi B L w S' ∧ (∀ k, S' k → S k) ∧ ∀ k, S' k → DKind w k
  | [], _, _, h => ⟨_, h, fun _ h => h, fun k hk => absurd hk (h k)⟩
  | (d, room, F) :: L, w, S, ⟨S1, S2, h1, h2, h3, h4, h5⟩ => by
    obtain ⟨S2', k1, k2, k3⟩ := Multi.kinds h3
    refine ⟨fun k => (S1 k ∧ DKind w k) ∨ S2' k, ⟨_, S2', h1.kinds, fun k hk => h2 k hk.1, k1, fun k hk hs => h4 k hk.1 (k2 k hs), fun k => Iff.rfl⟩, fun k hk => ?_, fun k hk => ?_⟩
    · rcases hk with hk | hk
      · exact (h5 k).2 (.inl hk.1)
      · exact (h5 k).2 (.inr (k2 k hk))
    · rcases hk with hk | hk
      · exact hk.2
      · exact k3 k hk
theorem DKind.kept {w w' : World} {k : Nat} (h : DKind w k) (e : w'.heap[k]? = w.heap[k]?) : DKind w' k := by
  unfold DKind at *
  rw [e]
  exact h
theorem RD.box {w : World} {B r room : Nat} {G : List RFl} (h : RD w B r room G) : ∃ cs, w.heap[r]? = some (.cells cs 66 (0, 0)) := by
  obtain ⟨v, h1, _⟩ := h.ex
  exact ⟨_, h1⟩
theorem box_not {w : World} {r : Nat} (h : ∃ cs, w.heap[r]? = some (.cells cs 66 (0, 0))) : ¬ DKind w r := by
  obtain ⟨cs, h1⟩ := h
  rintro (⟨_, h2⟩ | ⟨_, _, h2⟩ | ⟨_, h2⟩) <;> rw [h1] at h2 <;> injection h2 with h2
  · injection h2 with _ h2
    exact absurd h2 (by decide)
  · cases h2
  · injection h2 with _ h2
    exact absurd h2 (by decide)
theorem row_notF {w : World} {B n : Nat} {v : Value} {xs : List Value} (hr : w.ownsRow B 45 3 v n xs) {k : Nat} (hk : v.ownBlock = some k) : k < w.heap.size ∧ ¬ DKind w k := by
  rcases hr.2 with ⟨rfl, _⟩ | ⟨g, cap, cur, hv, hb, hh, _⟩
  · cases hk
  · rw [hv] at hk
    injection hk with hk
    subst hk
    refine ⟨(Array.getElem?_eq_some_iff.1 hh).1, ?_⟩
    rintro (⟨_, h2⟩ | ⟨_, _, h2⟩ | ⟨_, h2⟩) <;> rw [hh] at h2 <;> injection h2 with h2
    · injection h2 with _ h2
      exact absurd h2 (by decide)
    · cases h2
    · injection h2 with _ h2
      exact absurd h2 (by decide)
theorem rowF_kept {w w' : World} {B n : Nat} {v : Value} {xs : List Value} (h : w.ownsRow B 45 3 v n xs) (hk : ∀ g, v.ownBlock = some g → w'.heap[g]? = w.heap[g]?) : w'.ownsRow B 45 3 v n xs := by
  obtain ⟨h1, h2⟩ := h
  refine ⟨h1, ?_⟩
  rcases h2 with h2 | ⟨g, cap, cur, hv, hg, hh, r⟩
  · exact Or.inl h2
  · exact Or.inr ⟨g, cap, cur, hv, hg, (hk g (by rw [hv]; rfl)).trans hh, r⟩
theorem RD.lt {w : World} {B r room : Nat} {G : List RFl} (h : RD w B r room G) : r < w.heap.size := by
  obtain ⟨cs, h1⟩ := h.box
  exact (Array.getElem?_eq_some_iff.1 h1).1
theorem RD.kept {w w' : World} {B r room : Nat} {G : List RFl} {S : Nat → Prop} (h : RD w B r room G) (hc : Chg S w w') (hS : ∀ k, S k → DKind w k) : RD w' B r room G := by
  have hb := box_not h.box
  have hlt := h.lt
  obtain ⟨⟨v, h1, h2⟩, h3, h4, h5⟩ := h
  refine ⟨⟨v, (hc.block r hlt fun hs => hb (hS r hs)).trans h1, rowF_kept h2 fun g hg => ?_⟩, h3, h4, h5⟩
  have h6 := row_notF h2 hg
  exact hc.block g h6.1 fun hs => h6.2 (hS g hs)
theorem RD.low {w : World} {B B' r room : Nat} {G : List RFl} (h : RD w B r room G) (hB : B' ≤ B) : RD w B' r room G := by
  obtain ⟨⟨v, h1, h2⟩, h3, h4, h5⟩ := h
  exact ⟨⟨v, h1, ownsRow_base3 h2 hB⟩, Nat.le_trans hB h3, h4, h5⟩
/-- What is in new blocks alone. -/
theorem RD.fresh {w' w'' : World} {n r room : Nat} {G : List RFl} (h : RD w' n r room G) (hk : ∀ k, n ≤ k → k < w'.heap.size → w''.heap[k]? = w'.heap[k]?) : RD w'' n r room G := by
  have hlt := h.lt
  obtain ⟨⟨v, h1, h2⟩, h3, h4, h5⟩ := h
  refine ⟨⟨v, (hk r h3 hlt).trans h1, rowF_kept h2 fun g hg => ?_⟩, h3, h4, h5⟩
  have h6 := row_notF h2 hg
  refine hk g ?_ h6.1
  rcases h2.2 with ⟨rfl, _⟩ | ⟨g', cap, cur, hv, hb, hh, _⟩
  · cases hg
  · rw [hv] at hg
    injection hg with hg
    have hg : g' = g := hg
    omega
/-- A change of one block that is no disk's. -/
theorem Lives.core {B : Nat} {L : List Dk} {P : World → Prop} {w w' : World} (h : Lives B L P w) (b : Nat) (hlt : b < w.heap.size) (hpin : ∀ u, P u → u.heap[b]? ≠ some (.map #[] 0)) (hc : Chg (fun i => i = b) w w') :
    ∃ S, Multi B L w' S ∧ (∀ k, S k → DKind w' k) ∧ ∀ w'', Chg S w' w'' → ∃ u, P u ∧ Chg (fun i => i = b) u w'' ∧ w''.heap[b]? = w'.heap[b]? := by
  obtain ⟨S0, hm0, hP0⟩ := h
  obtain ⟨S, hm, hS, hkd⟩ := hm0.kinds
  have hP : ∀ u, Chg S w u → P u := fun u hu => hP0 u (hu.mono fun k _ hk => hS k hk)
  have hb : ¬ S b := fun hs => by
    have hch : Chg S w (w.putObj b (.map #[] 0)) := ⟨rfl, rfl, rfl, by simp [World.putObj], fun k hk hn => World.putObj_heap_other (fun e => hn (e ▸ hs))⟩
    refine hpin _ (hP _ hch) ?_
    simp [World.putObj, hlt]
  refine ⟨S, hm.kept hc (fun k hk e => hb (e ▸ hk)), fun k hk => (hkd k hk).kept (hc.block k (hm.lt k hk) (fun e => hb (e ▸ hk))), fun w'' hc2 => ?_⟩
  have hsz := hc.size
  have hsz2 := hc2.size
  have hget : w.heap[b]? = some w.heap[b] := Array.getElem?_eq_getElem hlt
  refine ⟨w''.putObj b w.heap[b], hP _ ⟨hc2.os.trans hc.os, hc2.tape.trans hc.tape, hc2.output.trans hc.output, by simp [World.putObj]; omega, fun k hk hn => ?_⟩, ⟨rfl, rfl, rfl, by simp [World.putObj], fun k _ hn => (World.putObj_heap_other (fun e => hn e)).symm⟩, hc2.block b (by omega) hb⟩
  by_cases e : k = b
  · subst e
    have h0 : k < w''.heap.size := by omega
    simp [World.putObj, h0, hget]
  · rw [World.putObj_heap_other e]
    exact (hc2.block k (by omega) hn).trans (hc.block k hk e)
/-- What one block's change leaves of P. -/
theorem Lives.chg {B : Nat} {L : List Dk} {P Q : World → Prop} {w w' : World} (h : Lives B L P w) (b : Nat) (hlt : b < w.heap.size) (hpin : ∀ u, P u → u.heap[b]? ≠ some (.map #[] 0)) (hc : Chg (fun i => i = b) w w')
    (hQ : ∀ u u', P u → Chg (fun i => i = b) u u' → u'.heap[b]? = w'.heap[b]? → Q u') : Lives B L Q w' := by
  obtain ⟨S, h1, _, h3⟩ := h.core b hlt hpin hc
  refine ⟨S, h1, fun w'' hc2 => ?_⟩
  obtain ⟨u, hu, hcu, hb⟩ := h3 w'' hc2
  exact hQ u w'' hu hcu hb
/-- P says nothing of the block r, where that is a disk of the reference's. -/
def Stab (r : Nat) (P : World → Prop) : Prop := ∀ u u', (∃ cs, u.heap[r]? = some (.cells cs 66 (0, 0))) → P u → Chg (fun i => i = r) u u' → P u'
/-- A call of the reference's. -/
theorem Lives.refop {B Br r room : Nat} {L : List Dk} {G G' : List RFl} {P : World → Prop} {w w' : World} (h : Lives B L (fun u => RD u Br r room G ∧ P u) w) (hc : Chg (fun i => i = r) w w') (hr : RD w' Br r room G') (hP : Stab r P) : Lives B L (fun u => RD u Br r room G' ∧ P u) w' := by
  obtain ⟨S, h1, h2, h3⟩ := h.core r h.here.1.lt (fun u hu e => by obtain ⟨cs, h4⟩ := hu.1.box; rw [h4] at e; injection e with e; cases e) hc
  refine ⟨S, h1, fun w'' hc2 => ⟨hr.kept hc2 h2, ?_⟩⟩
  obtain ⟨u, hu, hcu, _⟩ := h3 w'' hc2
  exact hP u w'' hu.1.box hu.2 hcu
theorem Stab.and {r : Nat} {P Q : World → Prop} (h : Stab r P) (k : Stab r Q) : Stab r (fun u => P u ∧ Q u) := fun u u' hb hp hc => ⟨h u u' hb hp.1 hc, k u u' hb hp.2 hc⟩
theorem Stab.below {r : Nat} {w0 : World} (h : w0.heap.size ≤ r) : Stab r (fun u => Ext w0 u) := fun u u' hb hp hc => Below.trans hp (hc.below (fun k hk => by rw [hk]; exact h) hp.size)
theorem Stab.true (r : Nat) : Stab r (fun _ => True) := fun _ _ _ _ _ => trivial
theorem Stab.rd {r Br r2 room : Nat} {G : List RFl} (h : r ≠ r2) : Stab r (fun u => RD u Br r2 room G) := fun u u' hb hp hc => by
  have hlt := hp.lt
  obtain ⟨⟨v, h1, h2⟩, h3, h4, h5⟩ := hp
  refine ⟨⟨v, (hc.block r2 hlt fun e => h e.symm).trans h1, rowF_kept h2 fun g hg => ?_⟩, h3, h4, h5⟩
  refine hc.block g (row_notF h2 hg).1 fun e => ?_
  obtain ⟨cs, hb⟩ := hb
  rcases h2.2 with ⟨rfl, _⟩ | ⟨g', cap, cur, hv, hb', hh, _⟩
  · cases hg
  · rw [hv] at hg
    injection hg with hg
    have hg : g' = g := hg
    subst hg
    rw [e, hb] at hh
    injection hh with hh
    injection hh with _ hh
    exact absurd hh (by decide)
/-- Another disk of the reference's. -/
theorem Lives.newref {B r room : Nat} {L : List Dk} {G : List RFl} {P : World → Prop} {w w' : World} (h : Lives B L P w) (hx : Ext w w') (hr : RD w' w.heap.size r room G) {Br : Nat} (hB : Br ≤ w.heap.size) : Lives B L (fun u => RD u Br r room G ∧ P u) w' :=
  (h.add (Q := fun u => RD u w.heap.size r room G) hx (fun w'' hk _ => hr.fresh hk)).imp fun u hu => ⟨hu.2.low hB, hu.1⟩
end Go.Proofs.Ytenhfphgobalfaa

/- A row of bytes that one owns: its block, its cells, one of them changed; strings and bytes. -/
namespace Go.Proofs.Ytenhfphgobalfaa
open Go.RowKit

/-- Bytes in a row of the call's own, from block B on. -/
def Own (B : Nat) (l : List Nat) (v : Value) (u : World) : Prop := u.ownsRow B 5 1 v l.length (bv l)
theorem Own.kept {B : Nat} {l : List Nat} {v : Value} {u u' : World} (h : Own B l v u) (hk : ∀ g, v.ownBlock = some g → u'.heap[g]? = u.heap[g]?) : Own B l v u' := row_kept h hk
theorem Own.below {B : Nat} {l : List Nat} {v : Value} {u u' : World} (h : Own B l v u) (hu : Ext u u') : Own B l v u' := h.kept fun g hg => hu.block g (row_lt h g hg).2
theorem Mono.own (B : Nat) (l : List Nat) : Mono (Own B l) := fun _ _ _ h hu => h.below hu
theorem Own.bs {B : Nat} {l : List Nat} {v : Value} {u : World} (h : Own B l v u) : Bs u 0 u.heap.size v l := (Bs.of_own h).wide (Nat.zero_le _) (Nat.le_refl _)
theorem Own.slice {B : Nat} {l : List Nat} {v : Value} {u : World} (h : Own B l v u) : ∃ A c, v = .slice A l.length c := by
  obtain ⟨A, c, e, _⟩ := h.bs
  exact ⟨A, c, e⟩
theorem Own.base {B B' : Nat} {l : List Nat} {v : Value} {u : World} (h : Own B l v u) (hB : B' ≤ B) : Own B' l v u := ownsRow_base h hB
theorem Own.lt {B : Nat} {l : List Nat} {v : Value} {u : World} (h : Own B l v u) {g : Nat} (hg : v.ownBlock = some g) : B ≤ g ∧ g < u.heap.size := row_lt h g hg
/-- Its block, when it has bytes. -/
theorem Own.block {B : Nat} {l : List Nat} {v : Value} {u : World} (h : Own B l v u) (h0 : 0 < l.length) : ∃ g c, v = .slice (some ⟨g, 0, none⟩) l.length c ∧ B ≤ g ∧ g < u.heap.size ∧ l.length ≤ c := by
  have h2 := h.2
  rcases h2 with ⟨hn, _⟩ | ⟨g, c, cur, hv, hb, hh, hn, _⟩
  · omega
  · exact ⟨g, c, hv, hb, (Array.getElem?_eq_some_iff.1 hh).1, hn⟩
theorem Own.cell {B : Nat} {l : List Nat} {g n c : Nat} {u : World} (h : Own B l (.slice (some ⟨g, 0, none⟩) n c) u) {i : Nat} (hi : i < l.length) : u.cell? ⟨g, i, none⟩ = some (.int .u8 (l[i] : Int)) := by
  obtain ⟨A', c', e, _⟩ := h.bs
  injection e with _ e2 _
  subst e2
  have h' : u.ownsRow B 5 1 (.slice (some ⟨g, 0, none⟩) l.length c) l.length (bv l) := h
  rw [h'.cellAt i (by omega)]
  simp [bv, List.getElem?_eq_getElem hi]
theorem Own.free {B : Nat} {l : List Nat} {g n c : Nat} {u : World} (h : Own B l (.slice (some ⟨g, 0, none⟩) n c) u) (i : Nat) : u.frozen? ⟨g, i, none⟩ = false := by
  obtain ⟨A', c', e, _⟩ := h.bs
  injection e with _ e2 _
  subst e2
  have h' : u.ownsRow B 5 1 (.slice (some ⟨g, 0, none⟩) l.length c) l.length (bv l) := h
  exact h'.frozenAt i
theorem Own.set {B : Nat} {l : List Nat} {g n c : Nat} {u : World} (h : Own B l (.slice (some ⟨g, 0, none⟩) n c) u) (i x : Nat) : Own B (l.set i x) (.slice (some ⟨g, 0, none⟩) n c) (u.setCell ⟨g, i, none⟩ (.int .u8 (x : Int))) := by
  obtain ⟨A', c', e, _⟩ := h.bs
  injection e with _ e2 _
  subst e2
  have h' : u.ownsRow B 5 1 (.slice (some ⟨g, 0, none⟩) l.length c) l.length (bv l) := h
  have h1 := (h'.stored i (.int .u8 (x : Int))).1
  have e : (bv l).set i (.int .u8 (x : Int)) = bv (l.set i x) := by simp [bv, List.map_set]
  rw [e] at h1
  unfold Own
  rw [List.length_set]
  exact h1
theorem nat8_lt (l : List UInt8) : ∀ b ∈ nat8 l, b < 256 := fun b hb => by
  obtain ⟨x, _, rfl⟩ := List.mem_map.1 hb
  exact x.toNat_lt
theorem tx_nat8 (l : List UInt8) : tx (nat8 l) = ⟨l.toArray⟩ := by
  apply ByteArray.ext
  apply Array.ext'
  unfold tx
  rw [strOfNums_data]
  unfold nat8
  rw [List.map_map]
  have e : (((fun n : Int => UInt8.ofNat n.toNat) ∘ fun n : Nat => (n : Int)) ∘ UInt8.toNat) = id := by funext x; simp
  simp [e]
end Go.Proofs.Ytenhfphgobalfaa

/- The reference's calls beside the program's disks: they answer as these do, and hold the same files then. -/
namespace Go.Proofs.Ytenhfphgobalfaa
open Go.RowKit Go.Maps

/-- The files behind a call that answered x. -/
def iff0 (x : Int) (F' F : List Fl) : List Fl := match x == 0 with | true => F' | false => F
theorem iff0_0 (F' F : List Fl) : iff0 0 F' F = F' := rfl
theorem iff0_2 (F' F : List Fl) : iff0 2 F' F = F := rfl
theorem iff0_5 (F' F : List Fl) : iff0 5 F' F = F := rfl
theorem iff0_6 (F' F : List Fl) : iff0 6 F' F = F := rfl
section
variable {B Br r room : Nat} {L : List Dk} {F : List Fl} {G : List RFl} {P : World → Prop} {w : World}
/-- What a call of the reference's answers and leaves. -/
def RefThen (B Br r room : Nat) (L : List Dk) (P : World → Prop) (x : Int) (F' : List Fl) (e : Ending) (w' : World) : Prop := ∃ G', e = .returned (.int .i64 x) ∧ Lives B L (fun u => RD u Br r room G' ∧ P u) w' ∧ Tie F' G'
theorem rseek_bad {n : List UInt8} (h : good n = false) : rseekN G n = 2 := by unfold rseekN; rw [h]
theorem rseek_no {n : List UInt8} (h : good n = true) (h2 : noName G n) : rseekN G n = 6 := by unfold rseekN; rw [h, isIn_no h2]
theorem rseek_yes {n : List UInt8} (h : good n = true) {k : Nat} (hk : k < G.length) (e : G[k].name = n) : rseekN G n = 0 := by unfold rseekN; rw [h, isIn_yes hk e]
theorem sync_ref (h : Lives B L (fun u => RD u Br r room G ∧ P u) w) (hP : Stab r P) (ht : Tie F G) (s : ByteArray) (hs : s.size ≤ maxLen) {x : Int} (hx : x = seekN F s.data.toList) :
    Calls Try.prog 27 #[.pointer (some ⟨r, 0, none⟩), .string s] w (RefThen B Br r room L P x (iff0 x (syn F s.data.toList) F)) := by
  refine (syncRef_any h.here.1 s hs).mono ?_
  rw [hx, ht.seek]
  rintro e w' (⟨h1, rfl, rfl⟩ | ⟨h1, h2, rfl, rfl⟩ | ⟨h1, k, hk, h2, h3, rfl, h4, h5⟩)
  · rw [rseek_bad h1]; exact ⟨G, rfl, h, ht⟩
  · rw [rseek_no h1 h2]; exact ⟨G, rfl, h, ht⟩
  · rw [rseek_yes h1 hk h2]; exact ⟨_, rfl, h.refop h5 h4 hP, ht.syn1 hk h2⟩
theorem remove_ref (h : Lives B L (fun u => RD u Br r room G ∧ P u) w) (hP : Stab r P) (ht : Tie F G) (s : ByteArray) (hs : s.size ≤ maxLen) {x : Int} (hx : x = seekN F s.data.toList) :
    Calls Try.prog 31 #[.pointer (some ⟨r, 0, none⟩), .string s] w (RefThen B Br r room L P x (iff0 x (del F s.data.toList) F)) := by
  refine (removeRef_any h.here.1 s hs).mono ?_
  rw [hx, ht.seek]
  rintro e w' (⟨h1, rfl, rfl⟩ | ⟨h1, h2, rfl, rfl⟩ | ⟨h1, k, hk, h2, h3, rfl, h4, h5⟩)
  · rw [rseek_bad h1]; exact ⟨G, rfl, h, ht⟩
  · rw [rseek_no h1 h2]; exact ⟨G, rfl, h, ht⟩
  · rw [rseek_yes h1 hk h2]; exact ⟨_, rfl, h.refop h5 h4 hP, ht.del1 hk h2⟩
theorem seek2_bad {n k : List UInt8} (h : good n = false ∨ good k = false) : seek2 F n k = 2 := by
  unfold seek2
  rcases h with h | h <;> rw [h] <;> simp
theorem seek2_good {n k : List UInt8} (h : good n = true) (h2 : good k = true) : seek2 F n k = lackN (there F n) := by unfold seek2; rw [h, h2]; rfl
theorem rename_ref (h : Lives B L (fun u => RD u Br r room G ∧ P u) w) (hP : Stab r P) (ht : Tie F G) (s t : ByteArray) (hs : s.size ≤ maxLen) (hst : t.size ≤ maxLen) {x : Int} (hx : x = seek2 F s.data.toList t.data.toList) :
    Calls Try.prog 39 #[.pointer (some ⟨r, 0, none⟩), .string s, .string t] w (RefThen B Br r room L P x (iff0 x (ren F s.data.toList t.data.toList) F)) := by
  refine (renameRef_any h.here.1 s t hs hst).mono ?_
  rw [hx]
  rintro e w' (⟨h1, rfl, rfl⟩ | ⟨h1, h2, h3, rfl, rfl⟩ | ⟨h1, h2, ⟨k, hk, h3⟩, rfl, rfl⟩ | ⟨h1, h2, h3, h4, k, hk, h5, rfl, h6, h7⟩ | ⟨h1, h2, h3, k, hk, h4, l, hl, h5, rfl, h6, h7⟩)
  · rw [seek2_bad h1]; exact ⟨G, rfl, h, ht⟩
  · rw [seek2_good h1 h2, ht.there, isIn_no h3]; exact ⟨G, rfl, h, ht⟩
  · rw [seek2_good h1 (h2 ▸ h1), ht.there, isIn_yes hk h3]
    refine ⟨G, rfl, h, ?_⟩
    rw [← h2]
    exact ren_self ht hk h3
  · rw [seek2_good h1 h2, ht.there, isIn_yes hk h5]; exact ⟨_, rfl, h.refop h7 h6 hP, ht.renNew hk h5 h4⟩
  · rw [seek2_good h1 h2, ht.there, isIn_yes hk h4]; exact ⟨_, rfl, h.refop h7 h6 hP, ht.renOver hk h4 hl h5 h3⟩
theorem append_ref (h : Lives B L (fun u => RD u Br r room G ∧ P u) w) (hP : Stab r P) (ht : Tie F G) (hroom : room ≤ 1048576) (hused : tot F ≤ room) (hfew : F.length ≤ 128) (s : ByteArray) (hs : s.size ≤ maxLen) {A0 : Option Addr} {M c0 lo hi : Nat} {bs : List UInt8} (hb : Bs w lo hi (.slice A0 M c0) (nat8 bs)) (hhi : hi ≤ w.heap.size) (hM : M = bs.length) (hL : M ≤ 1099511627776)
    {x : Int} (hx : x = appN F room M s.data.toList) :
    Calls Try.prog 26 #[.pointer (some ⟨r, 0, none⟩), .string s, .slice A0 M c0] w (RefThen B Br r room L P x (iff0 x (app F s.data.toList (nat8 bs)) F)) := by
  refine (appendRef_any h.here.1 hroom (by rw [← ht.tot]; exact hused) (by rw [← ht.len]; exact hfew) s hs hb hhi (nat8_lt bs) hL (tx_nat8 bs) hM).mono ?_
  rw [hx]
  unfold appN
  rintro e w' (⟨h1, rfl, rfl⟩ | ⟨h1, h2, rfl, h3⟩ | ⟨h1, h2, h3, h4, rfl, h5, h6⟩ | ⟨h1, h2, k, hk, h3, h4, rfl, h5, h6⟩)
  · rw [h1]; exact ⟨G, rfl, h, ht⟩
  · have e5 : fullN F room M s.data.toList = 5 := by
      unfold fullN
      rw [ht.tot, hM, ht.there, ht.len]
      rcases h2 with h2 | ⟨h2, h4⟩
      · rw [decide_eq_true h2]; rfl
      · rw [isIn_no h2, h4]; simp [fiveIf]
    rw [h1, e5]
    exact ⟨G, rfl, h.ext h3, ht⟩
  · have e0 : fullN F room M s.data.toList = 0 := by
      unfold fullN
      rw [ht.tot, hM, ht.there, ht.len, decide_eq_false h2, isIn_no h3]
      have : (G.length == 128) = false := by simpa using h4
      rw [this]; rfl
    rw [h1, e0]
    exact ⟨_, rfl, h.refop h6 h5 hP, ht.appNew h3⟩
  · have e0 : fullN F room M s.data.toList = 0 := by
      unfold fullN
      rw [ht.tot, hM, ht.there, ht.len, decide_eq_false h2, isIn_yes hk h3]
      rfl
    rw [h1, e0]
    exact ⟨_, rfl, h.refop h6 h5 hP, ht.appOld hk h3⟩
theorem copy_ref (h : Lives B L (fun u => RD u Br r room G ∧ P u) w) (hB : Br ≤ w.heap.size) :
    Calls Try.prog 34 #[.pointer (some ⟨r, 0, none⟩)] w fun e w' => ∃ r', e = .returned (.pointer (some ⟨r', 0, none⟩)) ∧ w.heap.size ≤ r' ∧ Lives B L (fun u => RD u Br r' room G ∧ RD u Br r room G ∧ P u) w' := by
  refine (copyRef_any h.here.1).mono ?_
  rintro e w' ⟨r', rfl, h1, h2⟩
  exact ⟨r', rfl, h1.le, h.newref h2 h1 hB⟩
/-! Crashes. -/
theorem look_told : ∀ {ks : List (ByteArray × Int)}, ks.Pairwise (fun p q => p.1.data.toList ≠ q.1.data.toList) → ∀ n, look ks n = toldK ks n
  | [], _, n => rfl
  | p :: ks, h, n => by
    rw [List.pairwise_cons] at h
    have ih := look_told h.2 n
    unfold look at *
    rw [List.reverse_cons, List.find?_append]
    by_cases e : p.1.data.toList = n
    · have hn : ks.reverse.find? (fun x => x.1.data.toList == n) = none := by
        rw [List.find?_eq_none]
        intro q hq
        simp only [beq_iff_eq]
        intro e2
        exact h.1 q (List.mem_reverse.1 hq) (e.trans e2.symm)
      rw [hn]
      simp [toldK, e]
    · have e1 : (p.1.data.toList == n) = false := by simpa using e
      have hs : [p].find? (fun x => x.1.data.toList == n) = none := by simp [e]
      rw [hs, Option.or_none, ih]
      simp [toldK, e1]
theorem toFl_crashed {ks : List (ByteArray × Int)} (h : okK ks) (g : RFl) : toFl (rcrashed ks g) = crashed ks (toFl g) := by
  have e1 := look_told h.2 g.name
  have e2 := toldK_nonneg h g.name
  have hl : leftN ks (toFl g) = g.sure.length + (min (toldK ks g.name) (g.loose.length : Int)).toNat := by
    unfold leftN toFl
    simp only [nat8_len, List.length_append]
    rw [e1]
    have : ((g.sure.length + g.loose.length : Nat) : Int) - (g.sure.length : Int) = (g.loose.length : Int) := by omega
    rw [this]
  have hm : (min (toldK ks g.name) (g.loose.length : Int)).toNat ≤ g.loose.length := by omega
  obtain ⟨m, hme⟩ : ∃ m, m = (min (toldK ks g.name) (g.loose.length : Int)).toNat := ⟨_, rfl⟩
  rw [← hme] at hl hm
  have hd : nat8 (g.sure ++ g.loose.take m) = (nat8 (g.sure ++ g.loose)).take (g.sure.length + m) := by
    unfold nat8
    rw [← List.map_take]
    congr 1
    rw [List.take_append, List.take_of_length_le (l := g.sure) (by omega), Nat.add_sub_cancel_left]
  have hn : (g.sure ++ g.loose.take m).length = g.sure.length + m := by rw [List.length_append, List.length_take, Nat.min_eq_left hm]
  have e3 : rcrashed ks g = ⟨g.name, g.sure ++ g.loose.take m, []⟩ := by unfold rcrashed; rw [← hme]
  unfold crashed
  rw [hl, e3]
  unfold toFl
  simp only [List.append_nil, hn, hd]
theorem Tie.crash {ks : List (ByteArray × Int)} (ht : Tie F G) (h : okK ks) : Tie (F.map (crashed ks)) (G.map (rcrashed ks)) := by
  refine ⟨(ht.perm.map _).trans (List.Perm.of_eq ?_), ?_⟩
  · rw [List.map_map, List.map_map]
    exact List.map_congr_left fun g _ => (toFl_crashed h g).symm
  · rw [List.map_map]
    exact ht.ng
theorem nodup_kn (ks : List (ByteArray × Int)) : (kn ks).Nodup ↔ ks.Pairwise (fun p q => p.1.data.toList ≠ q.1.data.toList) := by
  unfold kn List.Nodup
  rw [List.pairwise_map]
theorem crashN_two {ks : List (ByteArray × Int)} (h : ¬ okK ks) : crashN F ks = 2 := by
  unfold crashN
  cases hg : (kn ks).all good with
  | false => rfl
  | true =>
    dsimp only
    unfold wrongN
    have hd : dupneg ks = true := by
      unfold dupneg
      rw [Bool.or_eq_true, Bool.not_eq_true', decide_eq_false_iff_not]
      by_cases hn : (kn ks).Nodup
      · right
        unfold anyNeg
        cases ha : ks.any (fun x => decide (x.2 < 0)) with
        | true => rfl
        | false =>
          rw [List.any_eq_false] at ha
          refine absurd ⟨fun p hp => ⟨?_, ?_⟩, (nodup_kn ks).1 hn⟩ h
          · exact (List.all_eq_true.1 hg) _ (List.mem_map_of_mem hp)
          · have := ha p hp
            simpa using this
      · exact .inl hn
    rw [hd]
theorem crashN_okK {ks : List (ByteArray × Int)} (h : okK ks) : crashN F ks = lackN (allThere F ks) := by
  unfold crashN
  have hg : (kn ks).all good = true := List.all_eq_true.2 fun n hn => by
    obtain ⟨p, hp, rfl⟩ := List.mem_map.1 hn
    exact (h.1 p hp).1
  rw [hg]
  dsimp only
  unfold wrongN
  have hd : dupneg ks = false := by
    unfold dupneg
    rw [Bool.or_eq_false_iff, Bool.not_eq_false', decide_eq_true_iff]
    refine ⟨(nodup_kn ks).2 h.2, ?_⟩
    unfold anyNeg
    rw [List.any_eq_false]
    intro p hp
    have := (h.1 p hp).2
    simpa using this
  rw [hd]
theorem Tie.miss (ht : Tie F G) (ks : List (ByteArray × Int)) : allThere F ks = !missK G ks := by
  unfold allThere missK kn
  rw [List.all_map, List.not_any_eq_all_not]
  congr 1
  funext p
  simp [ht.there]
/-- What a crash of the reference's leaves. -/
def CrashRef (B Br r room : Nat) (L : List Dk) (F : List Fl) (G : List RFl) (P : World → Prop) (ks : List (ByteArray × Int)) (n : Nat) (x : Int) (e : Ending) (w' : World) : Prop :=
  (x ≠ 0 ∧ e = .returned (.tuple #[.pointer none, .int .i64 x]) ∧ Lives B L (fun u => RD u Br r room G ∧ P u) w') ∨
  (x = 0 ∧ ∃ r' G', e = .returned (.tuple #[.pointer (some ⟨r', 0, none⟩), .int .i64 0]) ∧ n ≤ r' ∧ Lives B L (fun u => RD u Br r' room G' ∧ RD u Br r room G ∧ P u) w' ∧ Tie (F.map (crashed ks)) G')
theorem crash_ref (h : Lives B L (fun u => RD u Br r room G ∧ P u) w) (ht : Tie F G) (hB : Br ≤ w.heap.size) {A : Option Addr} {c n : Nat} {ks : List (ByteArray × Int)} (hk : Kepts w A ks) (hn : n = ks.length) {x : Int} (hx : x = crashN F ks) :
    Calls Try.prog 40 #[.pointer (some ⟨r, 0, none⟩), .slice A n c] w (CrashRef B Br r room L F G P ks w.heap.size x) := by
  subst hn
  by_cases hok : okK ks
  · cases hm : missK G ks with
    | true =>
      refine (crashRef_wrong h.here.1 hk (.inr hm)).mono ?_
      rintro e w' ⟨(⟨h1, _⟩ | ⟨_, _, rfl⟩), h2⟩
      · exact absurd hok h1
      · have e6 : x = 6 := by rw [hx, crashN_okK hok, ht.miss, hm]; rfl
        exact .inl ⟨by rw [e6]; decide, by rw [e6], h.ext h2⟩
    | false =>
      refine (crashRef_done h.here.1 hk hok hm).mono ?_
      rintro e w' ⟨r', rfl, h1, h2⟩
      have e0 : x = 0 := by rw [hx, crashN_okK hok, ht.miss, hm]; rfl
      exact .inr ⟨e0, r', _, rfl, h1.le, h.newref h2 h1 hB, ht.crash hok⟩
  · refine (crashRef_wrong h.here.1 hk (.inl hok)).mono ?_
    rintro e w' ⟨(⟨_, rfl⟩ | ⟨h1, _⟩), h2⟩
    · have e2 : x = 2 := by rw [hx]; exact crashN_two hok
      exact .inl ⟨by rw [e2]; decide, by rw [e2], h.ext h2⟩
    · exact absurd h1 hok
end
end Go.Proofs.Ytenhfphgobalfaa

/- All: going over the files, each with its bytes. -/
namespace Go.Proofs.Ytenhfphgobalfaa
open Go.RowKit Go.Maps Go.Sort Go.Shelf
attribute [local go_sem] Oper.semAt_some

/-- All makes a function over the disk. -/
theorem all_any (d : Option Addr) (w : World) : Calls Try.prog 59 #[.pointer d] w fun e w' =>
    e = .returned (.func (.func 69) #[] #[.pointer (some ⟨w.heap.size, 0, none⟩)]) ∧ w' = w.alloc (.cells #[.pointer d] 25) := by
  go_enter Try.func59, Try.ntmps59
  go_wp2
  go_ret
  exact ⟨rfl, rfl⟩

/-- Of the k-th file: its name, and its bytes in a row that is new. -/
def AllOk (F : List Fl) (n₁ k : Nat) (x : List UInt8 × Value) (A : World) : Prop := (snames F)[k]? = some x.1 ∧ A.ownsRow n₁ 5 1 x.2 (cur F x.1).data.length (bv (cur F x.1).data)
/-- Between two rounds. -/
structure AllI (J : Nat → Nat → World → Prop) (b0 l : Nat) (n₁ k : Nat) (A : World) : Prop where
  j : J n₁ k A
  box : Boxed A b0 115 (.func (.yield l) #[] #[])
  le : n₁ ≤ A.heap.size

set_option maxRecDepth 100000 in
set_option maxHeartbeats 8000000 in
theorem all_iter {w : World} {d m room bd B : Nat} {S : Nat → Prop} {F : List Fl} {V : List UInt8 → Value} {D : DataW Value} (h : Seen w d m S F V D room) (hfi : ∀ f ∈ F, FileAt w S B f (V f.name)) (hlo : 1024 ≤ room) (hcnt : F.length ≤ 128)
    (hsz : ∀ f ∈ F, f.name.length ≤ maxLen) (htot : tot F ≤ 1048576) (hbd : w.cell? ⟨bd, 0, none⟩ = some (.pointer (some ⟨d, 0, none⟩))) :
    Iter Try.prog 69 #[.pointer (some ⟨bd, 0, none⟩)] F.length (fun x : List UInt8 × Value => #[encStr x.1, x.2]) (AllOk F) (fun A => ∀ k, S k → k < w.heap.size → A.heap[k]? = w.heap[k]?) w := by
  intro mm l J Jx W hx hC hJ hJx h0 hY
  have HSW := Lib.hid (h.ext hx)
  have HFI := Lib.hid hfi
  have HC := Lib.hid hC
  have HJ := Lib.hid hJ
  have HJX := Lib.hid hJx
  have H0 := Lib.hid h0
  have HY := Lib.hid hY
  have HLO := Lib.hid hlo
  have HCNT := Lib.hid hcnt
  have HSZ := Lib.hid hsz
  have HTOT := Lib.hid htot
  have HND := Lib.hid h.con.nodup
  have HWW := Lib.hid hx.size
  have c1 := ext_cell hx hbd
  have c1a := cell_new c1 (.cells #[.func (.yield l) #[] #[]] 115)
  clear h hfi hC hJ hJx h0 hY hlo hcnt hsz htot hbd hx
  have hf1 : Fence.wide.fn 58 := trivial
  have hf2 : Fence.wide.fn 48 := trivial
  refine (callsIn_wide (n := 6)).1 ?_
  refine callsIn_of_wp_marks Try.func69 rfl trivial ?_
  simp only [Try.ntmps69, List.size_toArray, List.length_cons, List.length_nil, Nat.reduceAdd, Nat.reduceSub, Array.replicate_succ, Array.replicate_zero, List.push_toArray, List.append_toArray, List.nil_append, List.cons_append]
  gi_wp2_with (gi_at_call 58; refine (callsIn_wide.2 (each_any _ _)).mono ?_; rintro e w' ⟨rfl, rfl⟩)
  obtain ⟨w1, hw1⟩ : ∃ w1, w1 = (W.alloc (.cells #[.func (.yield l) #[] #[]] 115)).alloc (.cells #[.pointer (some ⟨d, 0, none⟩)] 25) := ⟨_, rfl⟩
  rw [← hw1]
  have HX1 : Hid (Ext W w1) := by rw [hw1]; exact (ext_alloc _ _).trans (ext_alloc _ _)
  have HZ1 : Hid (w1.heap.size = W.heap.size + 2) := by rw [hw1]; simp [Hid]
  have HB0 : Hid (Boxed w1 W.heap.size 115 (.func (.yield l) #[] #[])) := by rw [hw1]; exact ext_heap (ext_alloc _ _) (heap_at _ _ rfl)
  have HB1 : Hid (w1.heap[W.heap.size + 1]? = some (.cells #[.pointer (some ⟨d, 0, none⟩)] 25)) := by rw [hw1]; exact heap_at _ _ (by simp)
  clear hw1
  have hchg : ∀ n₁ k A A', w1.heap.size ≤ n₁ → AllI J W.heap.size l n₁ k A → Chg (Btw w1.heap.size n₁) A A' → AllI J W.heap.size l n₁ k A' := fun n₁ k A A' hn hi hc =>
    ⟨HJ.out n₁ k A A' (Nat.le_trans HX1.out.size hn) hi.j (hc.mono fun i _ hb => ⟨Nat.le_trans HX1.out.size hb.1, hb.2⟩), boxed_chg hi.box hc (fun hb => by have := hb.1; have := HZ1.out; omega), Nat.le_trans hi.le hc.size⟩
  have HCHG := Lib.hid hchg
  clear hchg
  refine wpIn_over rfl enters_each (each_iter (HSW.out.ext HX1.out) HLO.out HCNT.out HSZ.out (cell_of HB1.out rfl)) (fun _ => rfl) (AllI J W.heap.size l) (fun c A => c = .ret ∧ Jx A) (fun _ _ _ _ => trivial) ?hI ?hIx ?h0 ?round ?done ?stop
  case hI => intro n₁ k A A' hn hi hc; exact HCHG.out _ _ _ _ (by omega) hi hc
  case hIx => rintro c A A' ⟨rfl, hj⟩ hc; exact ⟨rfl, HJX.out A A' hj (hc.mono fun i _ (hb : w1.heap.size ≤ i) => Nat.le_trans HX1.out.size hb)⟩
  case h0 => intro A hxA; exact ⟨H0.out A (Ext.trans HX1.out hxA), ext_heap hxA HB0.out, Nat.le_refl _⟩
  case round =>
    rintro l2 n₁ k ⟨x, vv⟩ A hl1 hl2 hn hnA hi hk ⟨hok, hvv⟩
    have hok' : (snames F)[k]? = some x := hok
    have hvv' : vv = V x := hvv
    subst hvv'
    have hmem : x ∈ snames F := List.mem_of_getElem? hok'
    obtain ⟨f, hf, hfx⟩ := snames_mem.1 hmem
    have hcur := cur_mem HND.out hf
    rw [hfx] at hcur
    have hkeep := HC.out n₁ k A hi.j
    have hfA := (HFI.out f hf).keep1 (w' := A) (S' := S) (fun b hb => hkeep b ((HFI.out f hf).blk_lt hb).2.1 ((HFI.out f hf).blk_lt hb).1) (fun _ hk => hk)
    rw [hfx] at hfA
    obtain ⟨A0, c0, hv, hbs⟩ := hfA.bs
    have hwlt : ∀ b, blk (V x) = some b → b < w.heap.size := fun b hb => by rw [← hfx] at hb; exact ((HFI.out f hf).blk_lt hb).1
    have HAGAIN : Hid (∀ A2, J n₁ k A2 → Bs A2 0 A2.heap.size (.slice A0 f.data.length c0) f.data) := by
      intro A2 hj
      have hkeep := HC.out n₁ k A2 hj
      have hfA := (HFI.out f hf).keep1 (w' := A2) (S' := S) (fun b hb => hkeep b ((HFI.out f hf).blk_lt hb).2.1 ((HFI.out f hf).blk_lt hb).1) (fun _ hk => hk)
      rw [hfx] at hfA
      obtain ⟨A0', c0', hv', hbs'⟩ := hfA.bs
      rw [hv] at hv'
      injection hv' with e1
      have e2 := congrArg (fun a => a[0]?) e1
      injection e2 with e2
      injection e2 with e2 e3 e4
      subst e2 e4
      exact hbs'
    rw [hv]
    have HBS := Lib.hid hbs
    have HI := Lib.hid hi
    have HN := Lib.hid hn
    have HL := Lib.hid (And.intro hl1 hl2)
    have HK := Lib.hid hk
    have HF := Lib.hid hf
    have HCUR := Lib.hid hcur
    have HOK := Lib.hid hok'
    clear hok hok' hvv hi hn hl1 hl2 hk hmem hcur hf hfx hnA hkeep hfA hbs hwlt hv
    gi_wp2
    refine ⟨?_, fun A2 hc => ?_⟩
    · exact Step.of_chg (Chg.alloc (S := fun _ => False) _ _) HI.out.le (fun _ _ _ h => h)
    have HBX : Hid (A2.heap[A.heap.size]? = some (.cells #[.slice A0 f.data.length c0, .int .i64 (f.lasts : Int)] 92 (0, 0))) := (hc.block _ (by simp) (by have := HI.out.le; have := HL.out.2; omega)).trans (heap_at _ _ rfl)
    have HI2 := Lib.hid (HCHG.out _ _ _ _ (by have := HN.out; omega) (HCHG.out _ _ _ _ (by have := HN.out; omega) HI.out (Chg.alloc A (.cells #[.slice A0 f.data.length c0, .int .i64 (f.lasts : Int)] 92))) (hc.mono fun i _ e => ⟨by have := HL.out.1; omega, by have := HL.out.2; omega⟩))
    have q0 := HI2.out.box.cell
    have q1 := cell_of (k := 0) HBX.out rfl
    have HBS2 : Hid (Bs A2 0 A2.heap.size (.slice A0 f.data.length c0) f.data) := HAGAIN.out A2 HI2.out.j
    have HSZ2 : Hid (A.heap.size ≤ A2.heap.size) := by have := hc.size; simp at this; exact Nat.le_trans (Nat.le_succ _) this
    have HL2 : Hid (n₁ ≤ A2.heap.size) := Nat.le_trans HI.out.le HSZ2.out
    have HLEN : Hid (f.data.length ≤ 1099511627776) := by have := tot_mem (F := F) HF.out; have := HTOT.out; unfold Hid; omega
    gi_wp2_with fail
    have HMIX : Try.prog.follows .mixedOrders = true := by kernel_rfl
    gi_region_with_o (first
     | (gi_at_call 48
        go_loud (
         refine CallsIn.mono (CallsIn.inRound l2 (callsIn_wide.2 (clone_any _ 0 A2.heap.size _ A2.drew HBS2.out (Nat.le_refl _) HLEN.out))) ?_
         rintro e A3 ⟨v, rfl, hown, hb⟩
         have HI3 := Lib.hid (HCHG.out n₁ k A2 A3 (by have := HN.out; omega) HI2.out ((Chg.drew A2).trans (Chg.of_ext hb)))
         have HRD := HY.out n₁ k (x, v) A3 (by have := HN.out; have := HZ1.out; omega) (Nat.le_trans HL2.out hb.size) HI3.out.j HK.out ⟨HOK.out, by show World.ownsRow A3 n₁ _ _ _ _ _; rw [HCUR.out]; exact ownsRow_base hown HL2.out⟩
         obtain ⟨fn, tmps, assign, body, hy, hR⟩ := HRD
         dsimp only at hy
         have HR := Lib.hid (roundIn_any (m' := 3) hR)
         have HB3 := Lib.hid hb
         have q3 := HI3.out.box.cell
         clear hR hown hb))
     | (refine RoundIn.mono (F := Fence.wide.inRound l2) (n := 3) HR.out ?_
        go_loud (
         rintro e A4 ⟨hst, hh⟩
         obtain ⟨g, rfl, hj⟩ : ∃ g : Bool, e = .returned (.bool g) ∧ Hid (match g with | true => J n₁ (k + 1) A4 | false => Jx A4) := by rcases hh with ⟨rfl, hj⟩ | ⟨rfl, hj⟩ <;> exact ⟨_, rfl, hj⟩
         have HST := Lib.hid hst
         clear hst hh)))
    all_goals cases g
    all_goals gi_wp2_with fail
    all_goals first
      | (have hst := HST.out
         have hs1 := HX1.out.size
         have hn := HN.out
         have hz := HZ1.out
         have hs23 : Step w1.heap.size n₁ A2 A3 := Step.of_chg (S := fun _ => False) ((Chg.drew A2).trans (Chg.of_ext HB3.out)) HL2.out (fun _ _ _ h => h)
         have hs34 : Step w1.heap.size n₁ A3 A4 := ⟨fun i h1 h2 => hst.stay i (by omega) h2, hst.os, hst.tape, hst.output, hst.size⟩
         have hle : n₁ ≤ A3.heap.size := HI3.out.le
         first
           | exact ⟨hs23.trans hs34, ⟨hj.out, (hst.stay W.heap.size (Nat.le_refl _) (by omega)).trans HI3.out.box, Nat.le_trans hle hst.size⟩⟩
           | exact ⟨hs23.trans hs34, rfl, hj.out⟩)
  case done =>
    rintro D' n₁ W' hDl hDn hn hi hD
    have HDL := Lib.hid (And.intro hDl hDn)
    have HI := Lib.hid hi
    have HN := Lib.hid hn
    have HDD := Lib.hid hD
    clear hDl hDn hn hi hD
    gi_wp2
    refine ⟨by simp, .inl ⟨_, _, rfl, run_takeDeferred HDD.out, ?_⟩⟩
    refine ⟨_, results_none rfl _ _ _, ⟨⟨_, rfl⟩, .inl ⟨n₁, by have := HN.out; have := HZ1.out; omega, ?_⟩⟩⟩
    exact HJ.out n₁ _ _ _ (by have := HN.out; have := HZ1.out; omega) HI.out.j ((putObj_chg W' D' _).mono fun i _ e => ⟨by have := HDL.out.1; have := HZ1.out; omega, by have := HDL.out.2; omega⟩)
  case stop =>
    rintro D' c W' hDl ⟨rfl, hjx⟩ hD
    have HDL := Lib.hid hDl
    have HJX2 := Lib.hid hjx
    have HDD := Lib.hid hD
    clear hDl hjx hD
    gi_wp2
    refine ⟨by simp, .inl ⟨_, _, rfl, run_takeDeferred HDD.out, ?_⟩⟩
    refine ⟨_, results_none rfl _ _ _, ⟨⟨_, rfl⟩, .inr ?_⟩⟩
    exact HJX.out _ _ HJX2.out ((putObj_chg W' D' _).mono fun i _ e => by have := HDL.out; have := HZ1.out; show W.heap.size ≤ i; omega)
end Go.Proofs.Ytenhfphgobalfaa

/- What the methods of a disk that is none answer. -/
namespace Go.Proofs.Ytenhfphgobalfaa
open Go.RowKit Go.Maps Go.Sort Go.Shelf

theorem read_nil {w : World} {o : Option Addr} (hN : NoDisk w (.pointer o)) (s : ByteArray) : Calls Try.prog 19 #[.pointer o, .string s] w fun e w' => e = .returned (.tuple #[.slice none 0 0, .int .i64 1]) ∧ Below w.heap.size w w' := by
  have HN := Lib.hid hN
  clear hN
  go_enter Try.func19, Try.ntmps19
  go_wp2_with fail
  refine (lacks_any o s w).mono ?_
  rintro e w1 ⟨rfl, rfl⟩
  go_wp2_with fail
  obtain ⟨w2, hw2⟩ : ∃ w2, w2 = ((w.alloc (.cells #[.pointer o] 25)).alloc (.cells #[.string s] 9)).alloc (.cells #[.string s] 9) := ⟨_, rfl⟩
  rw [← hw2]
  have HX : Hid (Ext w w2) := by rw [hw2]; exact Ext.trans (Ext.trans (ext_alloc _ _) (ext_alloc _ _)) (ext_alloc _ _)
  clear hw2
  refine (refused_nil (HN.out.ext HX.out)).mono ?_
  rintro e w9 ⟨rfl, rfl⟩
  go_wp2_with fail
  go_ret2
  exact ⟨rfl, HX.out⟩
theorem lasting_nil {w : World} {o : Option Addr} (hN : NoDisk w (.pointer o)) (s : ByteArray) : Calls Try.prog 29 #[.pointer o, .string s] w fun e w' => e = .returned (.tuple #[.int .i64 0, .int .i64 1]) ∧ Below w.heap.size w w' := by
  have HN := Lib.hid hN
  clear hN
  go_enter Try.func29, Try.ntmps29
  go_wp2_with fail
  refine (lacks_any o s w).mono ?_
  rintro e w1 ⟨rfl, rfl⟩
  go_wp2_with fail
  obtain ⟨w2, hw2⟩ : ∃ w2, w2 = ((w.alloc (.cells #[.pointer o] 25)).alloc (.cells #[.string s] 9)).alloc (.cells #[.string s] 9) := ⟨_, rfl⟩
  rw [← hw2]
  have HX : Hid (Ext w w2) := by rw [hw2]; exact Ext.trans (Ext.trans (ext_alloc _ _) (ext_alloc _ _)) (ext_alloc _ _)
  clear hw2
  refine (refused_nil (HN.out.ext HX.out)).mono ?_
  rintro e w9 ⟨rfl, rfl⟩
  go_wp2_with fail
  go_ret2
  exact ⟨rfl, HX.out⟩
theorem remove_nil {w : World} {o : Option Addr} (hN : NoDisk w (.pointer o)) (s : ByteArray) : Calls Try.prog 22 #[.pointer o, .string s] w fun e w' => e = .returned (.int .i64 1) ∧ Below w.heap.size w w' := by
  have HN := Lib.hid hN
  clear hN
  go_enter Try.func22, Try.ntmps22
  go_wp2_with fail
  refine (lacks_any o s w).mono ?_
  rintro e w1 ⟨rfl, rfl⟩
  go_wp2_with fail
  obtain ⟨w2, hw2⟩ : ∃ w2, w2 = ((w.alloc (.cells #[.pointer o] 25)).alloc (.cells #[.string s] 9)).alloc (.cells #[.string s] 9) := ⟨_, rfl⟩
  rw [← hw2]
  have HX : Hid (Ext w w2) := by rw [hw2]; exact Ext.trans (Ext.trans (ext_alloc _ _) (ext_alloc _ _)) (ext_alloc _ _)
  clear hw2
  refine (refused_nil (HN.out.ext HX.out)).mono ?_
  rintro e w9 ⟨rfl, rfl⟩
  go_wp2_with fail
  go_ret
  exact ⟨rfl, HX.out⟩
theorem sync_nil {w : World} {o : Option Addr} (hN : NoDisk w (.pointer o)) (s : ByteArray) : Calls Try.prog 23 #[.pointer o, .string s] w fun e w' => e = .returned (.int .i64 1) ∧ Below w.heap.size w w' := by
  have HN := Lib.hid hN
  clear hN
  go_enter Try.func23, Try.ntmps23
  go_wp2_with fail
  refine (lacks_any o s w).mono ?_
  rintro e w1 ⟨rfl, rfl⟩
  go_wp2_with fail
  obtain ⟨w2, hw2⟩ : ∃ w2, w2 = ((w.alloc (.cells #[.pointer o] 25)).alloc (.cells #[.string s] 9)).alloc (.cells #[.string s] 9) := ⟨_, rfl⟩
  rw [← hw2]
  have HX : Hid (Ext w w2) := by rw [hw2]; exact Ext.trans (Ext.trans (ext_alloc _ _) (ext_alloc _ _)) (ext_alloc _ _)
  clear hw2
  refine (refused_nil (HN.out.ext HX.out)).mono ?_
  rintro e w9 ⟨rfl, rfl⟩
  go_wp2_with fail
  go_ret
  exact ⟨rfl, HX.out⟩
theorem rename_nil {w : World} {o : Option Addr} (hN : NoDisk w (.pointer o)) (s u : ByteArray) : Calls Try.prog 28 #[.pointer o, .string s, .string u] w fun e w' => e = .returned (.int .i64 1) ∧ Below w.heap.size w w' := by
  have HN := Lib.hid hN
  clear hN
  go_enter Try.func28, Try.ntmps28
  go_wp2_with fail
  refine (lacks_any o s w).mono ?_
  rintro e w1 ⟨rfl, rfl⟩
  go_wp2_with fail
  obtain ⟨w2, hw2⟩ : ∃ w2, w2 = ((w.alloc (.cells #[.pointer o] 25)).alloc (.cells #[.string s] 9)).alloc (.cells #[.string s, .string u] 9) := ⟨_, rfl⟩
  rw [← hw2]
  have HX : Hid (Ext w w2) := by rw [hw2]; exact Ext.trans (Ext.trans (ext_alloc _ _) (ext_alloc _ _)) (ext_alloc _ _)
  clear hw2
  refine (refused_nil (HN.out.ext HX.out)).mono ?_
  rintro e w9 ⟨rfl, rfl⟩
  go_wp2_with fail
  go_ret
  exact ⟨rfl, HX.out⟩
theorem append_nil {w : World} {o : Option Addr} (hN : NoDisk w (.pointer o)) (s : ByteArray) : Calls Try.prog 25 #[.pointer o, .string s, .slice none 0 0] w fun e w' => e = .returned (.int .i64 1) ∧ Below w.heap.size w w' := by
  have HN := Lib.hid hN
  clear hN
  go_enter Try.func25, Try.ntmps25
  go_wp2_with fail
  obtain ⟨w2, hw2⟩ : ∃ w2, w2 = (((w.alloc (.cells #[.pointer o] 25)).alloc (.cells #[.string s] 9)).alloc (.cells #[.slice none 0 0] 35)).alloc (.cells #[.string s] 9) := ⟨_, rfl⟩
  rw [← hw2]
  have HX : Hid (Ext w w2) := by rw [hw2]; exact Ext.trans (Ext.trans (Ext.trans (ext_alloc _ _) (ext_alloc _ _)) (ext_alloc _ _)) (ext_alloc _ _)
  clear hw2
  refine (refused_nil (HN.out.ext HX.out)).mono ?_
  rintro e w9 ⟨rfl, rfl⟩
  go_wp2_with fail
  go_ret
  exact ⟨rfl, HX.out⟩
theorem used_nil {w : World} {v : Value} (hN : NoDisk w v) : Calls Try.prog 30 #[v] w fun e w' => e = .returned (.int .i64 0) ∧ w = w' := by
  have HC := Lib.hid (none_yes hN)
  clear hN
  go_enter Try.func30, Try.ntmps30
  go_wp2_with fail
  refine Calls.mono HC.out ?_
  rintro e w' ⟨rfl, rfl⟩
  go_wp2_with fail
  go_ret
  exact ⟨rfl, rfl⟩
theorem room_nil {w : World} {v : Value} (hN : NoDisk w v) : Calls Try.prog 37 #[v] w fun e w' => e = .returned (.int .i64 0) ∧ w = w' := by
  have HC := Lib.hid (none_yes hN)
  clear hN
  go_enter Try.func37, Try.ntmps37
  go_wp2_with fail
  refine Calls.mono HC.out ?_
  rintro e w' ⟨rfl, rfl⟩
  go_wp2_with fail
  go_ret
  exact ⟨rfl, rfl⟩
theorem copy_nil {w : World} {v : Value} (hN : NoDisk w v) : Calls Try.prog 33 #[v] w fun e w' => e = .returned (.pointer none) ∧ w = w' := by
  have HC := Lib.hid (none_yes hN)
  clear hN
  go_enter Try.func33, Try.ntmps33
  go_wp2_with fail
  refine Calls.mono HC.out ?_
  rintro e w' ⟨rfl, rfl⟩
  go_wp2_with fail
  go_ret
  exact ⟨rfl, rfl⟩
theorem same_nil {w : World} {v : Value} (hN : NoDisk w v) : Calls Try.prog 24 #[v, .pointer none] w fun e w' => e = .returned (.bool true) ∧ w = w' := by
  have HC := Lib.hid (none_yes hN)
  have HD := Lib.hid (none_yes (w := w) (v := .pointer none) (.inl rfl))
  clear hN
  go_enter Try.func24, Try.ntmps24
  go_wp2_with fail
  refine Calls.mono HC.out ?_
  rintro e w' ⟨rfl, rfl⟩
  go_wp2_with fail
  refine Calls.mono HC.out ?_
  rintro e w' ⟨rfl, rfl⟩
  go_wp2_with fail
  refine Calls.mono HD.out ?_
  rintro e w' ⟨rfl, rfl⟩
  go_wp2_with fail
  go_ret
  exact ⟨rfl, rfl⟩
theorem same_not {w : World} {d : Nat} (h : IsDisk w d) : Calls Try.prog 24 #[.pointer (some ⟨d, 0, none⟩), .pointer none] w fun e w' => e = .returned (.bool false) ∧ w = w' := by
  have HC := Lib.hid (none_no h)
  have HD := Lib.hid (none_yes (w := w) (v := .pointer none) (.inl rfl))
  clear h
  go_enter Try.func24, Try.ntmps24
  go_wp2_with fail
  refine Calls.mono HC.out ?_
  rintro e w' ⟨rfl, rfl⟩
  go_wp2_with fail
  refine Calls.mono HD.out ?_
  rintro e w' ⟨rfl, rfl⟩
  go_wp2_with fail
  refine Calls.mono HC.out ?_
  rintro e w' ⟨rfl, rfl⟩
  go_wp2_with fail
  go_ret
  exact ⟨rfl, rfl⟩

end Go.Proofs.Ytenhfphgobalfaa

/- Going over a disk that is none. -/
namespace Go.Proofs.Ytenhfphgobalfaa
open Go.RowKit Go.Maps Go.Sort Go.Shelf

attribute [local go_sem] Oper.semAt_some
/-- Going over no disk's files: none is told. -/
theorem each_none {w : World} {bd : Nat} {o : Option Addr} (hN : NoDisk w (.pointer o)) (hbd : w.cell? ⟨bd, 0, none⟩ = some (.pointer o)) {Ok : Nat → Nat → (List UInt8 × Value) → World → Prop} :
    Iter Try.prog 65 #[.pointer (some ⟨bd, 0, none⟩)] 0 (fun x : List UInt8 × Value => #[encStr x.1, x.2]) Ok (fun _ => True) w := by
  intro mm l J Jx W hx _ hJ hJx h0 hY
  have HJ0 := Lib.hid (h0 W (Ext.refl _))
  have c1 := ext_cell hx hbd
  have HC := Lib.hid (none_yes (hN.ext hx))
  clear hN hbd hJ hJx h0 hY hx
  have hf1 : Fence.wide.fn 49 := trivial
  refine (callsIn_wide (n := 6)).1 ?_
  refine callsIn_of_wp Try.func65 rfl trivial ?_ rfl
  simp only [Try.ntmps65, List.size_toArray, List.length_cons, List.length_nil, Nat.reduceAdd, Nat.reduceSub, Array.replicate_succ, Array.replicate_zero, List.push_toArray, List.append_toArray, List.nil_append, List.cons_append]
  gi_wp2_with (gi_at_call 49; refine (callsIn_wide.2 HC.out).mono ?_; rintro e w' ⟨rfl, rfl⟩)
  refine bodyPost_ret (results_none rfl _ _ _) rfl ?_
  exact ⟨⟨_, rfl⟩, .inl ⟨_, Nat.le_refl _, HJ0.out⟩⟩

set_option maxRecDepth 100000 in
set_option maxHeartbeats 4000000 in
theorem all_none {w : World} {bd : Nat} {o : Option Addr} (hN : NoDisk w (.pointer o)) (hbd : w.cell? ⟨bd, 0, none⟩ = some (.pointer o)) {Ok : Nat → Nat → (List UInt8 × Value) → World → Prop} :
    Iter Try.prog 69 #[.pointer (some ⟨bd, 0, none⟩)] 0 (fun x : List UInt8 × Value => #[encStr x.1, x.2]) Ok (fun _ => True) w := by
  intro mm l J Jx W hx _ hJ hJx h0 hY
  have HJ := Lib.hid hJ
  have H0 := Lib.hid h0
  have HN := Lib.hid (hN.ext hx)
  have c1 := ext_cell hx hbd
  have c1a := cell_new c1 (.cells #[.func (.yield l) #[] #[]] 115)
  clear hN hbd hJ hJx h0 hY hx
  have hf1 : Fence.wide.fn 58 := trivial
  refine (callsIn_wide (n := 6)).1 ?_
  refine callsIn_of_wp_marks Try.func69 rfl trivial ?_
  simp only [Try.ntmps69, List.size_toArray, List.length_cons, List.length_nil, Nat.reduceAdd, Nat.reduceSub, Array.replicate_succ, Array.replicate_zero, List.push_toArray, List.append_toArray, List.nil_append, List.cons_append]
  gi_wp2_with (gi_at_call 58; refine (callsIn_wide.2 (each_any _ _)).mono ?_; rintro e w' ⟨rfl, rfl⟩)
  obtain ⟨w1, hw1⟩ : ∃ w1, w1 = (W.alloc (.cells #[.func (.yield l) #[] #[]] 115)).alloc (.cells #[.pointer o] 25) := ⟨_, rfl⟩
  rw [← hw1]
  have HX1 : Hid (Ext W w1) := by rw [hw1]; exact Ext.trans (ext_alloc _ _) (ext_alloc _ _)
  have HB1 : Hid (w1.cell? ⟨W.heap.size + 1, 0, none⟩ = some (.pointer o)) := by rw [hw1]; exact cell_of (heap_at _ _ (by simp)) rfl
  clear hw1
  refine wpIn_over rfl enters_each (each_none (HN.out.ext HX1.out) HB1.out (Ok := fun _ _ _ _ => True)) (fun _ => rfl) (fun n₁ k A => J n₁ k A) (fun _ _ => False) (fun _ _ _ _ => trivial) ?hI (fun _ _ _ h _ => h) (fun A hx => H0.out A (Ext.trans HX1.out hx)) (fun _ _ _ _ _ _ _ _ _ _ h => absurd h (Nat.not_lt_zero _)) ?done (fun _ _ _ _ h _ => h.elim)
  case hI => intro n₁ k A A' hn hj hc; exact HJ.out n₁ k A A' (by have := HX1.out.size; omega) hj (hc.mono fun i _ hb => ⟨Nat.le_trans HX1.out.size hb.1, hb.2⟩)
  case done =>
    rintro D' n₁ W' hDl hDn hn hj hD
    have HDL := Lib.hid (And.intro hDl hDn)
    have HJJ := Lib.hid hj
    have HNN := Lib.hid hn
    have HDD := Lib.hid hD
    clear hDl hDn hn hj hD
    gi_wp2
    refine ⟨by simp, .inl ⟨_, _, rfl, run_takeDeferred HDD.out, ?_⟩⟩
    refine ⟨_, results_none rfl _ _ _, ⟨⟨_, rfl⟩, .inl ⟨n₁, by have := HNN.out; have := HX1.out.size; omega, ?_⟩⟩⟩
    exact HJ.out n₁ _ _ _ (by have := HNN.out; have := HX1.out.size; omega) HJJ.out ((putObj_chg W' D' _).mono fun i _ e => ⟨by have := HDL.out.1; have := HX1.out.size; omega, by have := HDL.out.2; omega⟩)

set_option maxRecDepth 100000 in
set_option maxHeartbeats 4000000 in
theorem names_nil {w : World} {o : Option Addr} (hN : NoDisk w (.pointer o)) : Calls Try.prog 36 #[.pointer o] w fun e w' => e = .returned (.slice none 0 0) ∧ Below w.heap.size w w' := by
  have HN := Lib.hid hN
  clear hN
  have hf1 : Fence.wide.fn 58 := trivial
  refine (callsIn_wide (n := 6)).1 ?_
  refine callsIn_of_wp_marks Try.func36 rfl trivial ?_
  simp only [Try.ntmps36, List.size_toArray, List.length_cons, List.length_nil, Nat.reduceAdd, Nat.reduceSub, Array.replicate_succ, Array.replicate_zero, List.push_toArray, List.append_toArray, List.nil_append, List.cons_append]
  gi_wp2_with (gi_at_call 58; refine (callsIn_wide.2 (each_any _ _)).mono ?_; rintro e w' ⟨rfl, rfl⟩)
  obtain ⟨w1, hw1⟩ : ∃ w1, w1 = (w.alloc (.cells #[.slice none 0 0] 73)).alloc (.cells #[.pointer o] 25) := ⟨_, rfl⟩
  rw [← hw1]
  have HX1 : Hid (Ext w w1) := by rw [hw1]; exact Ext.trans (ext_alloc _ _) (ext_alloc _ _)
  have HZ1 : Hid (w1.heap.size = w.heap.size + 2) := by rw [hw1]; simp [Hid]
  have HB0 : Hid (Boxed w1 w.heap.size 73 (.slice none 0 0)) := by rw [hw1]; exact ext_heap (ext_alloc _ _) (heap_at _ _ rfl)
  have HB1 : Hid (w1.cell? ⟨w.heap.size + 1, 0, none⟩ = some (.pointer o)) := by rw [hw1]; exact cell_of (heap_at _ _ (by simp)) rfl
  clear hw1
  refine wpIn_over rfl enters_each (each_none (HN.out.ext HX1.out) HB1.out (Ok := fun _ _ _ _ => True)) (fun _ => rfl) (fun _ _ A => Boxed A w.heap.size 73 (.slice none 0 0) ∧ Below w.heap.size w A) (fun _ _ => False) (fun _ _ _ _ => trivial) ?hI (fun _ _ _ h _ => h) (fun A hx => ⟨ext_heap hx HB0.out, Ext.trans HX1.out hx⟩) (fun _ _ _ _ _ _ _ _ _ _ h => absurd h (Nat.not_lt_zero _)) ?done (fun _ _ _ _ h _ => h.elim)
  case hI => intro n₁ k A A' hn hj hc; exact ⟨boxed_chg hj.1 hc (fun hb => by have := hb.1; have := HZ1.out; omega), hj.2.trans (hc.below (fun i hb => by have := hb.1; have := HZ1.out; omega) hj.2.size)⟩
  case done =>
    rintro D' n₁ W' hDl hDn hn ⟨hb, hbel⟩ hD
    have HDL := Lib.hid hDl
    have q0 := hb.cell
    have HBEL := Lib.hid hbel
    have HDD := Lib.hid hD
    clear hDl hDn hn hb hbel hD
    gi_wp2
    refine ⟨by simp, .inl ⟨_, _, rfl, run_takeDeferred HDD.out, ?_⟩⟩
    refine ⟨_, results_tmp rfl _ _ _, ⟨rfl, ?_⟩⟩
    exact HBEL.out.trans ((putObj_chg W' D' _).below (fun i e => by have := HDL.out; have := HX1.out.size; omega) HBEL.out.size)

theorem results_cell_bool {fn : Func} {p : Tmp} (h : fn.results = #[.cell p 4]) (tmps : Array Value) (w : World) (g : Nat) (z : Bool) (hp : tmps.getD p undef = .pointer (some ⟨g, 0, none⟩)) (hc : w.cell? ⟨g, 0, none⟩ = some (.bool z)) :
    (results fn tmps).run Try.prog w = .ok (.bool z) w := by
  simp only [results, h]
  have hp' : tmps[p]?.getD undef = .pointer (some ⟨g, 0, none⟩) := by simpa using hp
  simp [Sem.run_bind, hp', go_sem, hc]
theorem enters_all : ∀ args w, (callFunc 69 args).run Try.prog w = .ok (.enter 69 args) w := enters_of Try.func69 (by kernel_rfl) rfl
theorem func_some (g : Nat) (w : World) : (binOp .eql 104 (.func (.func 69) #[] #[.pointer (some ⟨g, 0, none⟩)]) .nilFunc).run Try.prog w = .ok (.bool false) w := by kernel_rfl

set_option maxRecDepth 100000 in
set_option maxHeartbeats 4000000 in
theorem over_nil {w : World} {o : Option Addr} (hN : NoDisk w (.pointer o)) : Calls Try.prog 38 #[.pointer o, .slice none 0 0, .int .i64 0] w fun e w' => e = .returned (.bool true) ∧ Below w.heap.size w w' := by
  have HN := Lib.hid hN
  clear hN
  have hf1 : Fence.wide.fn 59 := trivial
  have hfn := func_some (w.heap.size + 3)
  refine (callsIn_wide (n := 6)).1 ?_
  refine callsIn_of_wp_marks Try.func38 rfl trivial ?_
  simp only [Try.ntmps38, List.size_toArray, List.length_cons, List.length_nil, Nat.reduceAdd, Nat.reduceSub, Array.replicate_succ, Array.replicate_zero, List.push_toArray, List.append_toArray, List.nil_append, List.cons_append]
  gi_wp2_with (gi_at_call 59; refine (callsIn_wide.2 (all_any _ _)).mono ?_; rintro e w' ⟨rfl, rfl⟩)
  obtain ⟨w1, hw1⟩ : ∃ w1, w1 = ((((w.alloc (.cells #[.slice none 0 0] 39)).alloc (.cells #[.int .i64 0] 3)).alloc (.cells #[.bool false] 4)).alloc (.cells #[.pointer o] 25)).alloc (.cells #[.int .i64 0] 3) := ⟨_, rfl⟩
  rw [← hw1]
  have HX1 : Hid (Ext w w1) := by rw [hw1]; exact Ext.trans (Ext.trans (Ext.trans (Ext.trans (ext_alloc _ _) (ext_alloc _ _)) (ext_alloc _ _)) (ext_alloc _ _)) (ext_alloc _ _)
  have HZ1 : Hid (w1.heap.size = w.heap.size + 5) := by rw [hw1]; simp [Hid]
  have HC0 : Hid (Boxed w1 w.heap.size 39 (.slice none 0 0)) := by rw [hw1]; exact ext_heap (Ext.trans (Ext.trans (Ext.trans (ext_alloc _ _) (ext_alloc _ _)) (ext_alloc _ _)) (ext_alloc _ _)) (heap_at _ _ rfl)
  have HC2 : Hid (Boxed w1 (w.heap.size + 2) 4 (.bool false)) := by rw [hw1]; exact ext_heap (Ext.trans (ext_alloc _ _) (ext_alloc _ _)) (heap_at _ _ (by simp))
  have HC3 : Hid (w1.cell? ⟨w.heap.size + 3, 0, none⟩ = some (.pointer o)) := by rw [hw1]; exact ext_cell (ext_alloc _ _) (cell_of (heap_at _ _ (by simp)) rfl)
  have HC4 : Hid (Boxed w1 (w.heap.size + 4) 3 (.int .i64 0)) := by rw [hw1]; exact heap_at _ _ (by simp)
  clear hw1 hfn
  refine wpIn_over rfl enters_all (all_none (HN.out.ext HX1.out) HC3.out (Ok := fun _ _ _ _ => True)) (fun _ => rfl) (fun _ _ A => Boxed A w.heap.size 39 (.slice none 0 0) ∧ Boxed A (w.heap.size + 2) 4 (.bool false) ∧ Boxed A (w.heap.size + 4) 3 (.int .i64 0) ∧ Below w.heap.size w A) (fun _ _ => False) (fun _ _ _ _ => trivial) ?hI (fun _ _ _ h _ => h) (fun A hx => ⟨ext_heap hx HC0.out, ext_heap hx HC2.out, ext_heap hx HC4.out, Ext.trans HX1.out hx⟩) (fun _ _ _ _ _ _ _ _ _ _ h => absurd h (Nat.not_lt_zero _)) ?done (fun _ _ _ _ h _ => h.elim)
  case hI => intro n₁ k A A' hn hj hc; exact ⟨boxed_chg hj.1 hc (fun hb => by have := hb.1; have := HZ1.out; omega), boxed_chg hj.2.1 hc (fun hb => by have := hb.1; have := HZ1.out; omega), boxed_chg hj.2.2.1 hc (fun hb => by have := hb.1; have := HZ1.out; omega), hj.2.2.2.trans (hc.below (fun i hb => by have := hb.1; have := HZ1.out; omega) hj.2.2.2.size)⟩
  case done =>
    rintro D' n₁ W' hDl hDn hn ⟨hb0, hb2, hb4, hbel⟩ hD
    have HDL := Lib.hid hDl
    have HB2 := Lib.hid hb2
    have q0 := hb0.cell
    have q2 := hb2.cell
    have f2 := hb2.frozen
    have q4 := hb4.cell
    have HBEL := Lib.hid hbel
    have HDD := Lib.hid hD
    clear hDl hDn hn hb0 hb2 hb4 hbel hD
    gi_wp2
    have hne : D' ≠ w.heap.size + 2 := by have h1 := HDL.out; have h2 := HZ1.out; omega
    have HD2 : Hid ((W'.setCell ⟨w.heap.size + 2, 0, none⟩ (.bool true)).heap[D']? = some (.deferred (some []))) := (Below.heap_setCell _ _ _ _ hne).trans HDD.out
    have HBR : Hid (Boxed (W'.setCell ⟨w.heap.size + 2, 0, none⟩ (.bool true)) (w.heap.size + 2) 4 (.bool true)) := HB2.out.set _
    have HBW : Hid (Below w.heap.size w (W'.setCell ⟨w.heap.size + 2, 0, none⟩ (.bool true))) := Below.setCell HBEL.out (show w.heap.size ≤ w.heap.size + 2 by omega) _
    refine ⟨by simp, .inl ⟨_, _, rfl, run_takeDeferred HD2.out, ?_⟩⟩
    refine ⟨_, results_cell_bool Try.results38 _ _ (w.heap.size + 2) true rfl (Boxed.cell (boxed_chg HBR.out (putObj_chg _ D' _) (fun e => hne e.symm))), ⟨rfl, ?_⟩⟩
    exact HBW.out.trans ((putObj_chg _ D' _).below (fun i e => by have h1 := HDL.out; have h2 := HZ1.out; omega) HBW.out.size)
end Go.Proofs.Ytenhfphgobalfaa

/- The chapter's rows, as the law has them. -/
namespace Go.Proofs.Ytenhfphgobalfaa
open Go.RowKit Go.Maps

theorem bytes_lit (w : World) (l : List Nat) (f : Nat × Nat) (hl : l.length ≤ maxLen) : Bs (w.alloc (.cells (bv l).toArray 5 f)) 0 (w.heap.size + 1) (.slice (some ⟨w.heap.size, 0, none⟩) l.length l.length) l :=
  ⟨some ⟨w.heap.size, 0, none⟩, l.length, rfl, Nat.le_refl _, hl, (fun h => (by cases h)), .inr ⟨w.heap.size, 0, rfl, Nat.zero_le _, by omega, fun i u hu => by
    have h := heap_at w (.cells (bv l).toArray 5 f) (k := w.heap.size) rfl
    rw [Nat.zero_add]; simp only [World.cell?, h]; simpa using hu⟩⟩
theorem make_bytes (w : World) (n : Nat) (hn : n ≤ 1099511627776) : ∃ w', (Instr.makeSlice 35 (.int .i64 (n : Int)) (.int .i64 (n : Int))).run Try.prog w = .ok (.slice (some ⟨w.heap.size, 0, none⟩) n n) w' ∧ Bs w' 0 w'.heap.size (.slice (some ⟨w.heap.size, 0, none⟩) n n) (List.replicate n 0) ∧ Ext w w' := by
  obtain ⟨i0, hi0, hz0, hz1, hz2⟩ := info_parts t5info
  obtain ⟨w', h1, h2, h3⟩ := run_make_full (P := Try.prog) w w.heap.size 35 5 i0 (.int .u8 0) 1 Try.underlying35 hi0 hz0 hz1 .i64 .i64 n (by rw [hz2]; omega) (by unfold maxLen; omega) (Nat.le_refl _)
  have e : (madeCells (Value.int .u8 0).cells (n * 1)).toList = bv (List.replicate n 0) := by
    rw [show (Value.int .u8 0).cells = #[.int .u8 0] from rfl, Nat.mul_one, toList_madeCells_one]
    simp [bv]
  rw [e] at h2
  have hl : (List.replicate n 0).length = n := List.length_replicate
  have hb : Bs w' 0 w'.heap.size (.slice (some ⟨w.heap.size, 0, none⟩) n n) (List.replicate n 0) := by
    have h4 : w'.ownsRow w.heap.size 5 1 (.slice (some ⟨w.heap.size, 0, none⟩) n n) (List.replicate n 0).length (bv (List.replicate n 0)) := by rw [hl]; exact h2
    exact (Bs.of_own h4).wide (Nat.zero_le _) (Nat.le_refl _)
  exact ⟨w', h1, hb, ⟨h3.os, h3.tape, h3.output, h3.size, fun k hk => h3.block k hk (by simp)⟩⟩
set_option maxHeartbeats 400000 in
theorem num_any (x : Int) (w : World) : Calls Try.prog 13 #[.int .i64 x] w fun e w' => e = .returned (.int .i64 x) ∧ w = w' := by
  go_enter Try.func13, Try.ntmps13
  go_wp2
  go_ret
  exact ⟨rfl, rfl⟩
theorem cv {w : World} {A : Option Addr} {n c : Nat} {l : List Nat} (h : IsBytes (.slice A n c) l w) : (convert 35 9 (.slice A n c)).run Try.prog w = .ok (.string (tx l)) w := by
  obtain ⟨A', c', he, _, _, _, h4⟩ := h
  have h5 : A = A' ∧ n = l.length ∧ c = c' := by injection he with a b c; exact ⟨a, b, c⟩
  obtain ⟨rfl, rfl, rfl⟩ := h5
  exact run_text (P := Try.prog) w 35 5 Try.underlying35 Try.underlying5 h4 l.length c rfl 9 Try.underlying9
theorem cvl {w : World} {A : Option Addr} {n c : Nat} {l : List Nat} {s : ByteArray} (h : IsBytes (.slice A n c) l w) (hs : tx l = s) : (convert 35 9 (.slice A n c)).run Try.prog w = .ok (.string s) w := by rw [← hs]; exact cv h
theorem IsBytes.shape {v : Value} {l : List Nat} {w : World} (h : IsBytes v l w) : ∃ A c, v = .slice A l.length c := by obtain ⟨A, c, e, _⟩ := h; exact ⟨A, c, e⟩
theorem new_no {room : Int} (h1 : -9223372036854775808 ≤ room) (h2 : room ≤ 9223372036854775807) (h : room < 1024 ∨ 1048576 < room) (w : World) : Calls Try.prog 11 #[.int .i64 room] w fun e w' => e = .returned (.tuple #[.pointer none, .int .i64 2]) ∧ w = w' :=
  (new_any room h1 h2 w).mono fun e w' hn => by
    rcases hn with ⟨_, h3, h4⟩ | ⟨r, hr, d, _, hd, _⟩
    · exact ⟨h3, h4⟩
    · have := hd.lo; have := hd.hi; omega
theorem new_yes {r : Nat} (h1 : 1024 ≤ r) (h2 : r ≤ 1048576) (w : World) : Calls Try.prog 11 #[.int .i64 (r : Int)] w fun e w' => ∃ d, e = .returned (.tuple #[.pointer (some ⟨d, 0, none⟩), .int .i64 0]) ∧ Disk w' (Frm w.heap.size) w.heap.size d r [] ∧ Below w.heap.size w w' :=
  (new_any r (by omega) (by omega) w).mono fun e w' hn => by
    rcases hn with ⟨h3, _⟩ | ⟨r', hr, d, he, hd, hb⟩
    · omega
    · obtain rfl : r = r' := by omega
      exact ⟨d, he, hd, hb⟩
theorem crash_no {B d room : Nat} {F : List Fl} {L : List Dk} {P : World → Prop} {w : World} (h : Lives B ((d, room, F) :: L) P w) {A : Option Addr} {c n : Nat} {ks : List (ByteArray × Int)} (hk : Kepts w A ks) (hn : n = ks.length) {x : Int} (hx : x = crashN F ks) (hx0 : x ≠ 0) :
    Calls Try.prog 18 #[.pointer (some ⟨d, 0, none⟩), .slice A n c] w fun e w' => e = .returned (.tuple #[.pointer none, .int .i64 x]) ∧ Lives B ((d, room, F) :: L) P w' :=
  (crash_live h hk hn hx).mono fun _ _ hc => hc.elim (fun h => h.2) (fun h => absurd h.1 hx0)
theorem crash_yes {B d room : Nat} {F F' : List Fl} {L : List Dk} {P : World → Prop} {w : World} (h : Lives B ((d, room, F) :: L) P w) {A : Option Addr} {c n : Nat} {ks : List (ByteArray × Int)} (hk : Kepts w A ks) (hn : n = ks.length) (hx : 0 = crashN F ks) (hF : F' = F.map (crashed ks)) :
    Calls Try.prog 18 #[.pointer (some ⟨d, 0, none⟩), .slice A n c] w fun e w' => ∃ d', e = .returned (.tuple #[.pointer (some ⟨d', 0, none⟩), .int .i64 0]) ∧ Lives B ((d', room, F') :: (d, room, F) :: L) P w' := by
  subst hF
  exact (crash_live h hk hn hx).mono fun _ _ hc => hc.elim (fun h => absurd rfl h.1) (fun h => h.2)
theorem kept_one (w : World) (s : ByteArray) (z : Int) (hs : s.size ≤ maxLen) (hz : -9223372036854775808 ≤ z ∧ z ≤ 9223372036854775807) : Kepts (w.alloc (.cells #[.string s, .int .i64 z] 47)) (some ⟨w.heap.size, 0, none⟩) [(s, z)] := by
  refine ⟨.inr ⟨w.heap.size, 0, rfl, by simp, fun i s' z' hi => ?_⟩, by simpa using hs, by simpa using hz, by simp⟩
  have h := heap_at w (.cells #[.string s, .int .i64 z] 47) (k := w.heap.size) rfl
  rcases i with _ | i
  · simp at hi; obtain ⟨rfl, rfl⟩ := hi; exact ⟨cell_of h rfl, cell_of h rfl⟩
  · simp at hi
theorem kept_two (w : World) (s : ByteArray) (z : Int) (hs : s.size ≤ maxLen) (hz : -9223372036854775808 ≤ z ∧ z ≤ 9223372036854775807) : Kepts (w.alloc (.cells #[.string s, .int .i64 z, .string s, .int .i64 z] 47)) (some ⟨w.heap.size, 0, none⟩) [(s, z), (s, z)] := by
  refine ⟨.inr ⟨w.heap.size, 0, rfl, by simp, fun i s' z' hi => ?_⟩, by simpa using hs, by simpa using hz, by simp⟩
  have h := heap_at w (.cells #[.string s, .int .i64 z, .string s, .int .i64 z] 47) (k := w.heap.size) rfl
  rcases i with _ | _ | i
  · simp at hi; obtain ⟨rfl, rfl⟩ := hi; exact ⟨cell_of h rfl, cell_of h rfl⟩
  · simp at hi; obtain ⟨rfl, rfl⟩ := hi; exact ⟨cell_of h rfl, cell_of h rfl⟩
  · simp at hi
theorem kept_none (w : World) : Kepts w none [] := ⟨.inl rfl, by simp, by simp, by simp⟩

set_option maxRecDepth 100000 in
set_option maxHeartbeats 8000000 in
theorem known_any (w : World) : Calls Try.prog 10 #[] w fun e w' => e = .returned (.bool true) ∧ Below w.heap.size w w' := by
  go_enter Try.func10, Try.ntmps10
  go_wp2_with fail
  refine (new_yes (r := 1024) (by omega) (by omega) w).mono ?_
  rintro e w1 ⟨d, rfl, hd, hb⟩
  have HL : Hid (Lives w.heap.size [(d, 1024, [])] (fun w' => Below w.heap.size w w') w1) := (Lives.none w.heap.size (w := w) (P := fun w' => Below w.heap.size w w') (fun _ h => h)).other hb hd (Nat.le_refl _)
  clear hd hb
  go_wp2_with fail
  refine (new_no (room := 1023) (by omega) (by omega) (by omega) w1).mono ?_
  rintro e w2 ⟨rfl, rfl⟩
  have cv1 : (convert 35 35 (.slice (some ⟨w1.heap.size, 0, none⟩) 1 1)).run Try.prog (w1.alloc (.cells #[.int .u8 120] 5)) = .ok (.slice (some ⟨w1.heap.size, 0, none⟩) 1 1) (w1.alloc (.cells #[.int .u8 120] 5 (1, 2))) := Go.Joins.run_convert_bytes_const_at _ _ _ _ _ _ _ rfl Try.underlying35 Try.underlying5
  go_wp2_with fail
  clear cv1
  refine Calls.mono (append_live (HL.out.ext (ext_alloc _ _)) (s := ⟨#[97, 32, 98]⟩) (by decide) (bytes_lit w1 [120] (1, 2) (by decide)) (by simp) (by decide) (x := 2) (by rfl) (F' := []) (by rfl)) ?_
  rintro e w3 ⟨rfl, hl⟩
  have HL := Lib.hid hl
  clear hl
  have cv1 : (convert 35 35 (.slice (some ⟨w3.heap.size, 0, none⟩) 3 3)).run Try.prog (w3.alloc (.cells #[.int .u8 120, .int .u8 121, .int .u8 122] 5)) = .ok (.slice (some ⟨w3.heap.size, 0, none⟩) 3 3) (w3.alloc (.cells #[.int .u8 120, .int .u8 121, .int .u8 122] 5 (3, 4))) := Go.Joins.run_convert_bytes_const_at _ _ _ _ _ _ _ rfl Try.underlying35 Try.underlying5
  go_wp2_with fail
  clear cv1
  refine Calls.mono (append_live (HL.out.ext (ext_alloc _ _)) (s := ⟨#[97]⟩) (by decide) (bytes_lit w3 [120, 121, 122] (3, 4) (by decide)) (by simp) (by decide) (x := 0) (by rfl) (F' := [⟨[97], [120, 121, 122], 0⟩]) (by rfl)) ?_
  rintro e w4 ⟨rfl, hl⟩
  have HL := Lib.hid hl
  clear hl
  go_wp2_with fail
  refine Calls.mono (read_live HL.out (s := ⟨#[98]⟩) (by decide) (x := 6) (by rfl) (bs := []) (by rfl)) ?_
  rintro e w5 ⟨v5, rfl, hl⟩
  have HL := Lib.hid (hl.imp fun _ h => h.1)
  clear hl
  go_wp2_with fail
  refine Calls.mono (sync_live HL.out (s := ⟨#[98]⟩) (by decide) (x := 6) (by rfl) (F' := [⟨[97], [120, 121, 122], 0⟩]) (by rfl)) ?_
  rintro e w6 ⟨rfl, hl⟩
  have HL := Lib.hid hl
  clear hl
  go_wp2_with fail
  refine Calls.mono (sync_live HL.out (s := ⟨#[97]⟩) (by decide) (x := 0) (by rfl) (F' := [⟨[97], [120, 121, 122], 3⟩]) (by rfl)) ?_
  rintro e w7 ⟨rfl, hl⟩
  have HL := Lib.hid hl
  clear hl
  have cv1 : (convert 35 35 (.slice (some ⟨w7.heap.size, 0, none⟩) 2 2)).run Try.prog (w7.alloc (.cells #[.int .u8 117, .int .u8 118] 5)) = .ok (.slice (some ⟨w7.heap.size, 0, none⟩) 2 2) (w7.alloc (.cells #[.int .u8 117, .int .u8 118] 5 (2, 3))) := Go.Joins.run_convert_bytes_const_at _ _ _ _ _ _ _ rfl Try.underlying35 Try.underlying5
  go_wp2_with fail
  clear cv1
  refine Calls.mono (append_live (HL.out.ext (ext_alloc _ _)) (s := ⟨#[97]⟩) (by decide) (bytes_lit w7 [117, 118] (2, 3) (by decide)) (by simp) (by decide) (x := 0) (by rfl) (F' := [⟨[97], [120, 121, 122, 117, 118], 3⟩]) (by rfl)) ?_
  rintro e w8 ⟨rfl, hl⟩
  have HL := Lib.hid hl
  clear hl
  go_wp2_with fail
  refine Calls.mono (lasting_live HL.out (s := ⟨#[97]⟩) (by decide) (x := 0) (by rfl) (n := 3) (by rfl)) ?_
  rintro e w9 ⟨rfl, hl⟩
  have HL := Lib.hid hl
  clear hl
  go_wp2_with fail
  refine Calls.mono (crash_yes (HL.out.ext (ext_alloc _ _)) (kept_one w9 ⟨#[97]⟩ 1 (by decide) (by omega)) (n := 1) (by rfl) (by rfl) (F' := [⟨[97], [120, 121, 122, 117], 4⟩]) (by rfl)) ?_
  rintro e w10 ⟨d1, rfl, hl⟩
  have HL := Lib.hid hl
  clear hl
  go_wp2_with fail
  refine Calls.mono (read_live HL.out (s := ⟨#[97]⟩) (by decide) (x := 0) (by rfl) (bs := [120, 121, 122, 117]) (by rfl)) ?_
  rintro e w11 ⟨y, rfl, hl⟩
  have HL := Lib.hid hl.drop
  clear hl
  go_wp2_with fail
  refine Calls.mono (rename_live HL.out (s := ⟨#[97]⟩) (t := ⟨#[98]⟩) (by decide) (by decide) (x := 0) (by rfl) (F' := [⟨[98], [120, 121, 122, 117, 118], 3⟩]) (by rfl)) ?_
  rintro e w12 ⟨rfl, hl⟩
  have HL := Lib.hid hl
  clear hl
  go_wp2_with fail
  refine Calls.mono (rename_live HL.out (s := ⟨#[97]⟩) (t := ⟨#[98]⟩) (by decide) (by decide) (x := 6) (by rfl) (F' := [⟨[98], [120, 121, 122, 117, 118], 3⟩]) (by rfl)) ?_
  rintro e w13 ⟨rfl, hl⟩
  have HL := Lib.hid hl
  clear hl
  go_wp2_with fail
  refine Calls.mono (names_live HL.out) ?_
  rintro e w14 ⟨names, rfl, hl⟩
  have HL := Lib.hid hl
  clear hl
  obtain ⟨wm, hrm, hbm, hxm⟩ := make_bytes w14 1020 (by omega)
  have hrm' : (Instr.makeSlice 35 (.int .i64 1020) (.int .i64 1020)).run Try.prog w14 = .ok (.slice (some ⟨w14.heap.size, 0, none⟩) 1020 1020) wm := hrm
  have HBM := Lib.hid hbm
  have HXM := Lib.hid hxm
  clear hrm hbm hxm
  go_wp2_with fail
  refine Calls.mono (append_live (HL.out.ext HXM.out) (s := ⟨#[99]⟩) (by decide) HBM.out (Nat.le_refl _) (by intro b hb; rw [List.eq_of_mem_replicate hb]; omega) (x := 5) (by rfl) (F' := [⟨[98], [120, 121, 122, 117, 118], 3⟩]) (by rfl)) ?_
  rintro e w15 ⟨rfl, hl⟩
  have HL := Lib.hid hl
  clear hl hrm'
  go_wp2_with fail
  refine Calls.mono (crash_no (HL.out.ext (ext_alloc _ _)) (kept_one w15 ⟨#[98]⟩ (-1) (by decide) (by omega)) (n := 1) (by rfl) (x := 2) (by rfl) (by decide)) ?_
  rintro e w16 ⟨rfl, hl⟩
  have HL := Lib.hid hl
  clear hl
  go_wp2_with fail
  refine Calls.mono (crash_no (HL.out.ext (ext_alloc _ _)) (kept_two w16 ⟨#[98]⟩ 1 (by decide) (by omega)) (n := 2) (by rfl) (x := 2) (by rfl) (by decide)) ?_
  rintro e w17 ⟨rfl, hl⟩
  have HL := Lib.hid hl
  clear hl
  go_wp2_with fail
  refine Calls.mono (crash_no (HL.out.ext (ext_alloc _ _)) (kept_one w17 ⟨#[99]⟩ 1 (by decide) (by omega)) (n := 1) (by rfl) (x := 6) (by rfl) (by decide)) ?_
  rintro e w18 ⟨rfl, hl⟩
  have HL := Lib.hid hl
  clear hl
  go_wp2_with fail
  refine Calls.mono (crash_yes (HL.out) (kept_none w18) (n := 0) (by rfl) (by rfl) (F' := [⟨[98], [120, 121, 122], 3⟩]) (by rfl)) ?_
  rintro e w19 ⟨d2, rfl, hl⟩
  have HL := Lib.hid hl
  clear hl
  go_wp2_with fail
  refine Calls.mono (read_live HL.out (s := ⟨#[98]⟩) (by decide) (x := 0) (by rfl) (bs := [120, 121, 122]) (by rfl)) ?_
  rintro e w20 ⟨t, rfl, hl⟩
  have HL := Lib.hid hl.drop
  clear hl
  obtain ⟨⟨⟨hbel, hy⟩, hnm⟩, ht⟩ := HL.out.here
  obtain ⟨Ay, cy, rfl⟩ := hy.shape
  obtain ⟨At, ct, rfl⟩ := ht.shape
  rw [show snames [⟨[98], [120, 121, 122, 117, 118], 3⟩] = [[98]] from by simp [snames]] at hnm
  obtain ⟨An, cn, rfl, hsn⟩ := hnm
  have hln1 : ([[98]] : List (List UInt8)).length = 1 := rfl
  rw [hln1]
  obtain ⟨bn, on, rfl, _, hbn, hcn⟩ := hsn.at_ (i := 0) (by simp)
  have cvy : (convert 35 9 (.slice Ay 4 cy)).run Try.prog w20 = .ok (.string ⟨#[120, 121, 122, 117]⟩) w20 := cvl hy (by rfl)
  have hcn' : w20.cell? ⟨bn, on, none⟩ = some (.string ⟨#[98]⟩) := hcn
  have hu := used_live HL.out
  rw [show tot [⟨[98], [120, 121, 122, 117, 118], 3⟩] = 5 from by rfl] at hu
  have HU := Lib.hid hu
  clear hbel hy ht hsn hbn hcn hu hln1
  go_wp2_with (first | (go_at_call 13; refine (num_any _ _).mono ?_; rintro e w' ⟨rfl, rfl⟩) | (go_at_call 30; refine Calls.mono HU.out ?_; rintro e w21 ⟨rfl, hl⟩; have HL2 := Lib.hid hl; have cvt : (convert 35 9 (.slice At 3 ct)).run Try.prog w21 = .ok (.string ⟨#[120, 121, 122]⟩) w21 := cvl hl.here.2 (by rfl); clear hl))
  go_ret
  exact ⟨rfl, HL2.out.here.1.1.1⟩
end Go.Proofs.Ytenhfphgobalfaa
