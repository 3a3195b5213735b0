import Derived.Test.YtkdidghfcfcpfaaGreatMc1
import Derived.OrdersHeld
import Derived.Tactics
import Derived.RangeFuncNested
import Derived.RangeFuncBound
import Derived.RangeFuncCalls
import Derived.RangeFuncLeaves
import Derived.RangeFuncBox
import Derived.Shelf.Abstract
import Derived.Shelf.RegionOpen
import Derived.OwnWalkIn
import Derived.TacticsInMore
import Derived.LoopNIn
import Derived.LoopIn
import Derived.Lib.Bytealg
import Derived.Lib.BytesEntry
import Derived.Laws.Externs
import Derived.Lib.Walk
import Derived.RegionTactic
import Derived.Deep.DeepCutAuto
import Derived.Test.YtkdidghfcfcpfaaGreatMc0
namespace Go.Proofs.YtkdidghfcfcpfaaGreat
open Go.ChangeShapes Go.WideShapes Go.ChangeAt Go.RowKit
theorem grown_alloc {w w' : World} {o : Obj} {row : Option Nat} (h : (w.alloc o).grownBy w' row) : w.grownBy w' row :=
 ⟨h.os, h.tape, h.output, by have := h.size; simp at this; omega, fun i hi hne => (h.block i (by simp; omega) hne).trans (Below.heap_alloc w o i hi)⟩
theorem WholePost.weaken {zero : Value} {ok ok' : Value → List Nat → World → Prop} {err err' : Int → Prop} {w wa : World} {r lo hi : Nat} {l : List Nat} (hok : ∀ v rest w', ok v rest w' → ok' v rest w') (herr : ∀ n, err n → err' n)
    (hg : ∀ w', wa.grownBy w' (some r) → w.grownBy w' (some r)) {e : Ending} {w' : World} (h : WholePost zero ok err wa r lo hi l e w') : WholePost zero ok' err' w r lo hi l e w' := by
 rcases h with ⟨v, rest, h1, h2, h3, h4⟩ | ⟨n, h1, h2, h3, h4, h5⟩
 · exact .inl ⟨v, rest, hok _ _ _ h1, h2, h3, hg _ h4⟩
 · exact .inr ⟨n, herr _ h1, h2, h3, h4, hg _ h5⟩
theorem mkf (fn : Fn) (first cap : Array Value) (w : World) : (Instr.makeFunc fn first cap).run Tryz.prog w = .ok (.func fn first cap) w := rfl
set_option maxHeartbeats 400000 in
theorem bytes_clo (p : Nat) (most : Int) (hm1 : -9223372036854775808 ≤ most) (hm2 : most ≤ 9223372036854775807) (r lo hi : Nat) (l : List Nat) (w : World) (h : Rd w r lo hi l) (hl : l.length ≤ 1000000000000)
    (hp : w.cell? ⟨p, 0, none⟩ = some (.int .i64 most)) :
    Calls Tryz.prog 165 #[.pointer (some ⟨r, 0, none⟩), .pointer (some ⟨p, 0, none⟩)] w (LoosePost (OkText w.heap.size most l) (ErrText most l) w r lo hi) := by
 have HC := zHd (text_loose most hm1 hm2 r lo hi l w h hl)
 clear h hl hm1 hm2
 go_enter Tryz.func165, Tryz.ntmps165
 go_wp2_with fail
 refine Calls.mono HC.out ?_
 rintro e w1 (⟨v1, rest, hv, rfl, hrd, hg⟩ | ⟨v1, n, hn, hn0, rfl, hg⟩)
 · have HF : Hid (LoosePost (OkText w.heap.size most l) (ErrText most l) w r lo hi (.returned (.tuple #[v1, .int .i64 0])) w1) := .inl ⟨v1, rest, hv, rfl, hrd, hg⟩
   clear hv hrd hg
   go_wp2_with fail
   go_ret2
   exact HF.out
 · have HF : Hid (LoosePost (OkText w.heap.size most l) (ErrText most l) w r lo hi (.returned (.tuple #[v1, .int .i64 n])) w1) := .inr ⟨v1, n, hn, hn0, rfl, hg⟩
   clear hn hn0 hg
   go_wp2_with fail
   go_ret2
   exact HF.out
set_option maxHeartbeats 400000 in
theorem Bytes_any (most : Int) (hm1 : -9223372036854775808 ≤ most) (hm2 : most ≤ 9223372036854775807) (r lo hi : Nat) (l : List Nat) (w : World) (h : Rd w r lo hi l) (hl : l.length ≤ 1000000000000) :
    Calls Tryz.prog 153 #[.pointer (some ⟨r, 0, none⟩), .int .i64 most] w (WholePost (.slice none 0 0) (OkText w.heap.size most l) (ErrText most l) w r lo hi l) := by
 have hmf := mkf
 have HC := zHd (whole_bytes w.heap.size (OkText (w.heap.size + 3) most l) (ErrText most l) r lo hi l (w.alloc (.cells #[.int .i64 most] 3)) (h.alloc _)
  (holds_text _ _ _ _ (by simp)) (fun v hv => by
   have hc := bytes_clo w.heap.size most hm1 hm2 _ lo hi l _ hv hl (by
    rw [World.cell?_alloc_past _ _ _ (by simp; omega), World.cell?_alloc_past _ _ _ (by simp), World.cell?_alloc_at _ _ _ _ rfl]; rfl)
   simpa using hc))
 clear h hm1 hm2 hl
 go_enter Tryz.func153, Tryz.ntmps153
 go_wp2_with fail
 refine Calls.mono HC.out ?_
 intro e w1 hpost
 have hpost := WholePost.weaken (ok' := OkText w.heap.size most l) (err' := ErrText most l) (w := w)
  (fun v rest w' => by rintro ⟨bs, h1, h2, h3, h4⟩; exact ⟨bs, h1, h2, h3, own_lower h4 (by omega)⟩) (fun _ h => h) (fun w' hg => grown_alloc hg) hpost
 have HP := zHd hpost
 rcases hpost with ⟨v1, rest, _, rfl, _, _⟩ | ⟨n, _, _, rfl, _, _⟩
 · go_wp2_with fail
   go_ret2
   exact HP.out
 · go_wp2_with fail
   go_ret2
   exact HP.out
end Go.Proofs.YtkdidghfcfcpfaaGreat
namespace Go.Proofs.YtkdidghfcfcpfaaGreat
structure Ent where
 key : List Nat
 seq : Int
 kind : Int
 val : List Nat
def mayN (kn : Nat) (s d : Int) (vn : Nat) : Bool := decide (1 ≤ kn) && decide (kn ≤ 32) && decide (1 ≤ s) && decide (s ≤ 2147483647) && (decide (d = 1) && decide (vn ≤ 65536) || decide (d = 2) && decide (vn = 0))
def Ent.may (e : Ent) : Bool := mayN e.key.length e.seq e.kind e.val.length
theorem mayN_iff {kn : Nat} {s d : Int} {vn : Nat} : mayN kn s d vn = true ↔ 1 ≤ kn ∧ kn ≤ 32 ∧ 1 ≤ s ∧ s ≤ 2147483647 ∧ (d = 1 ∧ vn ≤ 65536 ∨ d = 2 ∧ vn = 0) := by
 unfold mayN
 simp only [Bool.and_eq_true, Bool.or_eq_true, decide_eq_true_eq, and_assoc]
theorem bytesForm_cut {a b r r' : List Nat} (ha : U64 a.length) (hb : U64 b.length) (h : bytesForm a ++ r = bytesForm b ++ r') : a = b ∧ r = r' := by
 unfold bytesForm at h
 rw [List.append_assoc, List.append_assoc] at h
 obtain ⟨e1, e2⟩ := Begins.unique (l := form a.length ++ (a ++ r)) ⟨ha, rfl⟩ ⟨hb, h⟩
 exact List.append_inj e2 e1
theorem form_cut {a b : Nat} {r r' : List Nat} (ha : U64 a) (hb : U64 b) (h : form a ++ r = form b ++ r') : a = b ∧ r = r' :=
 Begins.unique (l := form a ++ r) ⟨ha, rfl⟩ ⟨hb, h⟩
theorem Ent.may_u64 {e : Ent} (h : e.may = true) : U64 e.key.length ∧ U64 e.seq.toNat ∧ U64 e.kind.toNat ∧ U64 e.val.length := by
 obtain ⟨h1, h2, h3, h4, h5⟩ := mayN_iff.1 h
 refine ⟨⟨by omega⟩, ⟨by omega⟩, ⟨?_⟩, ⟨?_⟩⟩ <;> rcases h5 with ⟨h5, h6⟩ | ⟨h5, h6⟩ <;> omega
theorem bytesForm_len {l : List Nat} (h : U64 l.length) : (bytesForm l).length ≤ l.length + 10 ∧ l.length < (bytesForm l).length := by
 have h1 := form_len64 h
 have h2 : (form l.length) ≠ [] := by
  by_cases h0 : l.length < 128
  · rw [form_lo h0]; simp
  · rw [form_hi h0]; simp
 have h3 : 0 < (form l.length).length := List.length_pos_iff.2 h2
 unfold bytesForm
 rw [List.length_append]
 omega
def cmpK : List Nat → List Nat → Int
 | [], [] => 0
 | [], _ :: _ => -1
 | _ :: _, [] => 1
 | a :: l, b :: bs => if a < b then -1 else if b < a then 1 else cmpK l bs
theorem cmpK_self (a : List Nat) : cmpK a a = 0 := by
 induction a with
 | nil => rfl
 | cons a l ih => simp [cmpK, ih]
theorem cmpK_zero {a b : List Nat} (h : cmpK a b = 0) : a = b := by
 induction a generalizing b with
 | nil => cases b with
  | nil => rfl
  | cons b bs => simp [cmpK] at h
 | cons a l ih =>
  cases b with
  | nil => simp [cmpK] at h
  | cons b bs =>
   simp only [cmpK] at h
   split at h
   · omega
   · split at h
     · omega
     · rw [ih h, show a = b by omega]
theorem cmpK_turn (a b : List Nat) : cmpK b a = -cmpK a b := by
 induction a generalizing b with
 | nil => cases b <;> simp [cmpK]
 | cons a l ih =>
  cases b with
  | nil => simp [cmpK]
  | cons b bs =>
   simp only [cmpK]
   rcases Nat.lt_trichotomy a b with h | h | h
   · rw [if_neg (by omega), if_pos h, if_pos h]; rfl
   · rw [if_neg (by omega), if_neg (by omega), if_neg (by omega), if_neg (by omega)]; exact ih bs
   · rw [if_pos h, if_neg (by omega), if_pos h]
theorem cmpK_range (a b : List Nat) : cmpK a b = -1 ∨ cmpK a b = 0 ∨ cmpK a b = 1 := by
 induction a generalizing b with
 | nil => cases b <;> simp [cmpK]
 | cons a l ih =>
  cases b with
  | nil => simp [cmpK]
  | cons b bs =>
   simp only [cmpK]
   split
   · exact .inl rfl
   · split
     · exact .inr (.inr rfl)
     · exact ih bs
theorem cmpK_lt_trans {a b c : List Nat} (h : cmpK a b = -1) (k : cmpK b c = -1) : cmpK a c = -1 := by
 induction a generalizing b c with
 | nil => cases c with
  | nil => cases b <;> simp [cmpK] at h k
  | cons c cs => rfl
 | cons a l ih =>
  cases b with
  | nil => simp [cmpK] at h
  | cons b bs =>
   cases c with
   | nil => simp [cmpK] at k
   | cons c cs =>
    simp only [cmpK] at h k ⊢
    split at h
    · split at k
      · rw [if_pos (by omega)]
      · split at k
        · omega
        · rw [if_pos (by omega)]
    · split at h
      · omega
      · split at k
        · rw [if_pos (by omega)]
        · split at k
          · omega
          · rw [if_neg (by omega), if_neg (by omega)]; exact ih h k
def cmpS (s t : Int) : Int := if t < s then -1 else if s < t then 1 else 0
def cmpE (a b : Ent) : Int := if cmpK a.key b.key = 0 then cmpS a.seq b.seq else cmpK a.key b.key
theorem cmpE_range (a b : Ent) : cmpE a b = -1 ∨ cmpE a b = 0 ∨ cmpE a b = 1 := by
 unfold cmpE
 split
 · unfold cmpS; split
   · exact .inl rfl
   · split
     · exact .inr (.inr rfl)
     · exact .inr (.inl rfl)
 · exact cmpK_range _ _
theorem cmpE_lt_trans {a b c : Ent} (h : cmpE a b = -1) (k : cmpE b c = -1) : cmpE a c = -1 := by
 unfold cmpE at *
 by_cases h1 : cmpK a.key b.key = 0
 · rw [if_pos h1] at h
   rw [cmpK_zero h1]
   by_cases k1 : cmpK b.key c.key = 0
   · rw [if_pos k1] at k ⊢
     unfold cmpS at *
     split at h <;> split at k <;> (try split at h) <;> (try split at k) <;> (try omega)
   · rw [if_neg k1] at k ⊢
     exact k
 · rw [if_neg h1] at h
   by_cases k1 : cmpK b.key c.key = 0
   · rw [← cmpK_zero k1, if_neg h1]; exact h
   · rw [if_neg k1] at k
     have := cmpK_lt_trans h k
     rw [if_neg (by omega)]; exact this
end Go.Proofs.YtkdidghfcfcpfaaGreat
namespace Go.Proofs.YtkdidghfcfcpfaaGreat
open Go.RowKit
def Ext (w w' : World) : Prop := Below w.heap.size w w'
theorem Ext.refl (w : World) : Ext w w := Below.refl _ _
theorem Ext.trans {a b c : World} (h : Ext a b) (k : Ext b c) : Ext a c := Below.trans h (Below.mono k h.size)
theorem zEr {w : World} {α : Sort _} {x : α} : Ext w w ∧ x = x := ⟨Ext.refl w, rfl⟩
theorem zEt {a b c : World} (h : Ext a b) (k : Ext b c) : Ext a c := Below.trans h (Below.mono k h.size)
theorem Ext.drew (w : World) : Ext w w.drew := (Below.refl _ _).drew
section
variable {P : Program} {ops : Array Oper} {Q : Exit → Act → World → Prop}
def Done (n k : Nat) : Array Bool := (Array.range n).map fun i => decide (i < k)
theorem Done.succ {n k : Nat} (_hk : k < n) : (Done n k).setIfInBounds k true = Done n (k + 1) := by
 apply Array.ext
 · simp [Done]
 · intro i h1 h2
   rw [Array.getElem_setIfInBounds]
   · simp [Done]
     rw [Bool.eq_iff_iff]
     simp
     omega
   · simpa [Done] using h1
end
structure Chg (S : Nat → Prop) (w w' : World) : Prop where
 os : w'.os = w.os
 tape : w'.tape = w.tape
 output : w'.output = w.output
 size : w.heap.size ≤ w'.heap.size
 block : ∀ k, k < w.heap.size → ¬ S k → w'.heap[k]? = w.heap[k]?
section
variable {S S' : Nat → Prop} {w w' w'' : World}
theorem Chg.refl (S : Nat → Prop) (w : World) : Chg S w w := ⟨rfl, rfl, rfl, zNr _, fun _ _ _ => rfl⟩
theorem Chg.trans (h : Chg S w w') (k : Chg S w' w'') : Chg S w w'' :=
 ⟨k.os.trans h.os, k.tape.trans h.tape, k.output.trans h.output, zNt h.size k.size, fun i hi hs => (k.block i (Nat.lt_of_lt_of_le hi h.size) hs).trans (h.block i hi hs)⟩
theorem Chg.mono (h : Chg S w w') (hS : ∀ k, k < w.heap.size → S k → S' k) : Chg S' w w' := ⟨h.os, h.tape, h.output, h.size, fun i hi hs => h.block i hi (fun x => hs (hS i hi x))⟩
theorem Chg.of_below (h : Below w.heap.size w w') : Chg S w w' := ⟨h.os, h.tape, h.output, h.size, fun i hi _ => h.block i hi⟩
theorem Chg.of_ext (h : Ext w w') : Chg S w w' := Chg.of_below h
theorem Chg.below {B : Nat} (h : Chg S w w') (hS : ∀ k, S k → B ≤ k) (hB : B ≤ w.heap.size) : Below B w w' := ⟨h.os, h.tape, h.output, h.size, fun i hi => h.block i (by omega) (fun x => by have := hS i x; omega)⟩
theorem Chg.grown {row : Option Nat} (hg : w.grownBy w' row) (hr : ∀ k, row = some k → S k) : Chg S w w' := ⟨hg.os, hg.tape, hg.output, hg.size, fun i hi hs => hg.block i hi (fun e => hs (hr i e.symm))⟩
theorem Chg.setCell (w : World) (p : Addr) (u : Value) (hp : S p.block) : Chg S w (w.setCell p u) := ⟨rfl, rfl, rfl, by simp [World.setCell], fun i _ hs => Below.heap_setCell _ _ _ _ (fun e => hs (e ▸ hp))⟩
theorem Chg.alloc (w : World) (o : Obj) : Chg S w (w.alloc o) := Chg.of_below ((Below.refl _ _).alloc (zNr _) _)
theorem Chg.drew (w : World) : Chg S w w.drew := Chg.of_below (Below.refl _ _).drew
end
theorem row_kept {w w' : World} {base : Nat} {e : TypeId} {n : Nat} {v : Value} {xs : List Value} (h : w.ownsRow base e 1 v n xs) (hk : ∀ g, v.ownBlock = some g → w'.heap[g]? = w.heap[g]?) : w'.ownsRow base e 1 v n xs := by
 obtain ⟨h1, h2⟩ := h
 refine ⟨h1, ?_⟩
 rcases h2 with h2 | ⟨g, cap, cur, hv, hg, hh, r⟩
 · exact Or.inl h2
 · exact Or.inr ⟨g, cap, cur, hv, hg, (hk g (by rw [hv]; rfl)).trans hh, r⟩
theorem row_lt {w : World} {base : Nat} {e : TypeId} {n : Nat} {v : Value} {xs : List Value} (h : w.ownsRow base e 1 v n xs) : ∀ g, v.ownBlock = some g → base ≤ g ∧ g < w.heap.size := by
 intro g hg
 rcases h.2 with ⟨rfl, _⟩ | ⟨g', cap, cur, hv, hb, hh, r⟩
 · cases hg
 · rw [hv] at hg
   injection hg with hg
   subst hg
   exact ⟨hb, (zAg.1 hh).1⟩
def Stay (a b : Nat) (w w' : World) : Prop := ∀ k, a ≤ k → k < b → w'.heap[k]? = w.heap[k]?
theorem Stay.refl (a b : Nat) (w : World) : Stay a b w w := fun _ _ _ => rfl
theorem Stay.trans {a b : Nat} {w w' w'' : World} (h : Stay a b w w') (k : Stay a b w' w'') : Stay a b w w'' := fun i h1 h2 => (k i h1 h2).trans (h i h1 h2)
def Btw (a b : Nat) (k : Nat) : Prop := a ≤ k ∧ k < b
def Frm (a : Nat) (k : Nat) : Prop := a ≤ k
structure Step (a b : Nat) (w w' : World) : Prop where
 stay : Stay a b w w'
 os : w'.os = w.os
 tape : w'.tape = w.tape
 output : w'.output = w.output
 size : w.heap.size ≤ w'.heap.size
theorem Step.refl (a b : Nat) (w : World) : Step a b w w := ⟨Stay.refl _ _ _, rfl, rfl, rfl, zNr _⟩
theorem Step.trans {a b : Nat} {w w' w'' : World} (h : Step a b w w') (k : Step a b w' w'') : Step a b w w'' := ⟨h.stay.trans k.stay, k.os.trans h.os, k.tape.trans h.tape, k.output.trans h.output, zNt h.size k.size⟩
theorem Step.of_chg {S : Nat → Prop} {a b : Nat} {w w' : World} (h : Chg S w w') (hb : b ≤ w.heap.size) (hS : ∀ k, a ≤ k → k < b → ¬ S k) : Step a b w w' := ⟨fun k h1 h2 => h.block k (by omega) (hS k h1 h2), h.os, h.tape, h.output, h.size⟩
theorem putObj_chg (W : World) (l : Nat) (o : Obj) : Chg (fun i => i = l) W (W.putObj l o) := ⟨rfl, rfl, rfl, by simp, fun k _ hk => World.putObj_heap_other hk⟩
theorem roundIn_any {P : Program} {m m' l : Nat} {f : FuncId} {tmps : Array Value} {assign body : Code} {w : World} {R : Ending → World → Prop} (h : RoundIn Fence.wide m P l f tmps assign body w R) : RoundIn Fence.wide m' P l f tmps assign body w R :=
 ⟨h.1, fun c cs _ => h.2 c cs (room_wide _)⟩
def Iter (P : Program) {α : Type} (gf : Nat) (lb : Array Value) (len : Nat) (encs : α → Array Value) (Ok : Nat → Nat → α → World → Prop) (C : World → Prop) (w : World) : Prop :=
 ∀ (m l : Nat) (J : Nat → Nat → World → Prop) (Jx : World → Prop) (W : World), Ext w W →
  (∀ n₁ k A, J n₁ k A → C A) → (∀ n₁ k A A', W.heap.size ≤ n₁ → J n₁ k A → Chg (Btw W.heap.size n₁) A A' → J n₁ k A') → (∀ A A', Jx A → Chg (Frm W.heap.size) A A' → Jx A') → (∀ A, Ext W A → J A.heap.size 0 A) →
  (∀ n₁ k x A, W.heap.size ≤ n₁ → n₁ ≤ A.heap.size → J n₁ k A → k < len → Ok n₁ k x A → YieldAt Fence.wide m P l (encs x) A fun e A' => Step W.heap.size n₁ A A' ∧ ((e = .returned (.bool true) ∧ J n₁ (k + 1) A') ∨ (e = .returned (.bool false) ∧ Jx A'))) →
  Calls P gf (#[.func (.yield l) #[] #[]] ++ lb) W fun e A => (∃ v, e = .returned v) ∧ ((∃ n₁, W.heap.size ≤ n₁ ∧ J n₁ len A) ∨ Jx A)
def bodyOwes (a b : Nat) (I : World → Prop) (Ix : Code → World → Prop) (A : World) : Exit → Act → World → Prop
 | .normal, _, A' => Step a b A A' ∧ I A'
 | .ret, _, A' => Step a b A A' ∧ Ix .ret A'
 | .exit id, _, A' => Step a b A A' ∧ Ix (.exit id) A'
 | .goto t, _, A' => Step a b A A' ∧ Ix (.goto t) A'
 | .panic _, _, _ => False
 | .outgrown, _, _ => False
theorem wpIn_over {P : Program} {n : Nat} {α : Type} {g : Operand} {ps : Array Tmp} {assign body : Code} {Q : Exit → Act → World → Prop} {a : Act} {w : World}
    {gf : Nat} {lb : Array Value} (hg : a.eval g = .func (.func gf) #[] lb) (eg : ∀ args w, (callFunc gf args).run P w = .ok (.enter gf args) w)
    {encs : α → Array Value} {len : Nat} {Ok : Nat → Nat → α → World → Prop} {C : World → Prop} (hseq : Iter P gf lb len encs Ok C w) (hps : ∀ x, (encs x).size = ps.size)
    (I : Nat → Nat → World → Prop) (Ix : Code → World → Prop) (hC : ∀ n₁ k A, I n₁ k A → C A)
    (hI : ∀ n₁ k A A', w.heap.size + 2 ≤ n₁ → I n₁ k A → Chg (Btw w.heap.size n₁) A A' → I n₁ k A') (hIx : ∀ c A A', Ix c A → Chg (Frm w.heap.size) A A' → Ix c A') (h0 : ∀ A, Ext w A → I A.heap.size 0 A)
    (hround : ∀ l n₁ k x A, w.heap.size ≤ l → l < n₁ → w.heap.size + 2 ≤ n₁ → n₁ ≤ A.heap.size → I n₁ k A → k < len → Ok n₁ k x A →
     assign.wpIn (Fence.wide.inRound l) (n - 1 - 1) P (Exit.then (fun a₁ A1 => Step w.heap.size n₁ A A1 ∧ ∀ A2, Chg (fun i => i = l) A1 A2 → body.wpIn (Fence.wide.inRound l) (n - 1 - 1) P (bodyOwes w.heap.size n₁ (I n₁ (k + 1)) Ix A2) a₁ A2) (fun _ _ _ => False))
      { tmps := (ps.zip (encs x)).foldl (fun t (p, v) => t.setIfInBounds p v) a.tmps, defers := [] } A)
    (hdone : ∀ D n₁ W, w.heap.size ≤ D → D < n₁ → w.heap.size + 2 ≤ n₁ → I n₁ len W → W.heap[D]? = some (.deferred (some [])) → Q .normal { a with defers := { target := .collected D, args := #[] } :: a.defers } W)
    (hstop : ∀ D c W, w.heap.size ≤ D → Ix c W → W.heap[D]? = some (.deferred (some [])) → c.wpIn Fence.wide n P Q { a with defers := { target := .collected D, args := #[] } :: a.defers } W) :
    (Code.rangeFunc g ps assign body).wpIn Fence.wide n P Q a w := by
 refine wpIn_rangeFunc ?_
 intro fn hfn
 obtain ⟨rec, hrec⟩ : ∃ rec : LoopState → Option Code → Loop, rec = fun st pe => { state := st, pending := pe, fn, tmps := a.tmps, params := ps, assign, body, defers := w.heap.size } := ⟨_, rfl⟩
 obtain ⟨W1, hW1⟩ : ∃ W1, W1 = (w.alloc (.deferred (some []))).alloc (.loop (rec .ready none)) := ⟨_, rfl⟩
 have hx1 : Ext w W1 := by rw [hW1]; exact ((Below.refl _ w).alloc (zNr _) _).alloc (by simp) _
 have hz1 : W1.heap.size = w.heap.size + 2 := by rw [hW1]; simp
 have hL1 : W1.heap[w.heap.size + 1]? = some (.loop (rec .ready none)) := by
  rw [hW1]; have := World.alloc_heap_new (w.alloc (.deferred (some []))) (.loop (rec .ready none)); rwa [World.size_alloc] at this
 have hD1 : W1.heap[w.heap.size]? = some (.deferred (some [])) := by
  rw [hW1]; exact (Below.heap_alloc _ _ _ (by simp)).trans (World.alloc_heap_new w _)
 refine ⟨w.heap.size + 1, [{ target := .collected w.heap.size, args := #[] }], W1, { target := .fn (.func gf) lb, args := #[.func (.yield (w.heap.size + 1)) #[] #[]] }, W1, gf,
  #[.func (.yield (w.heap.size + 1)) #[] #[]] ++ lb, W1, ?_, ?_, (fun _ _ => trivial), ?_, (fun h => (by cases h)), ?_⟩
 · rw [hW1, hrec]; exact run_enterLoop_outer _ _ _ _ _
 · simp only [resolve, hg]
   simp [go_sem]
 · simp [invoke, go_sem, eg]
 · refine callsIn_wide.2 ((hseq (n - 1 - 1) (w.heap.size + 1)
     (fun n₁ k A => I n₁ k A ∧ A.heap[w.heap.size + 1]? = some (.loop (rec .ready none)) ∧ A.heap[w.heap.size]? = some (.deferred (some [])))
     (fun A => ∃ c, Ix c A ∧ A.heap[w.heap.size + 1]? = some (.loop (rec .done (some c))) ∧ A.heap[w.heap.size]? = some (.deferred (some [])))
     W1 hx1 (fun n₁ k A h => hC n₁ k A h.1) ?_ ?_ ?_ ?_).mono ?_)
   · rintro n₁ k A A' hn ⟨hi, hl, hd⟩ hc
     have lt1 := (zAg.1 hl).1
     have lt2 := (zAg.1 hd).1
     exact ⟨hI n₁ k A A' (by omega) hi (hc.mono fun i _ hb => ⟨by have := hb.1; omega, hb.2⟩), (hc.block _ lt1 (fun hb => by have := hb.1; omega)).trans hl, (hc.block _ lt2 (fun hb => by have := hb.1; omega)).trans hd⟩
   · rintro A A' ⟨c, hi, hl, hd⟩ hc
     have lt1 := (zAg.1 hl).1
     have lt2 := (zAg.1 hd).1
     exact ⟨c, hIx c A A' hi (hc.mono fun i _ hb => by have : W1.heap.size ≤ i := hb; show w.heap.size ≤ i; omega), (hc.block _ lt1 (fun hb => by have : W1.heap.size ≤ _ := hb; omega)).trans hl, (hc.block _ lt2 (fun hb => by have : W1.heap.size ≤ _ := hb; omega)).trans hd⟩
   · intro A hx
     exact ⟨h0 A (hx1.trans hx), (hx.block _ (by omega)).trans hL1, (hx.block _ (by omega)).trans hD1⟩
   · rintro n₁ k x A hn hnA ⟨hi, hl, hd⟩ hk hok
     have hy := run_yield (P := P) (args := encs x) hl (by rw [hrec]; exact hps x)
     rw [hrec] at hy
     refine ⟨fn, _, assign, body, hy, roundIn_of_wpIn hfn ?_⟩
     refine wpIn_mono (hround (w.heap.size + 1) n₁ k x A (by omega) (by omega) (by omega) hnA hi hk hok) ?_
     intro e a₁ A1 hp
     cases e with
     | normal =>
      obtain ⟨hst, hb⟩ := hp
      have hl1 := (hst.stay (w.heap.size + 1) (by omega) (by omega)).trans hl
      have hd1 := (hst.stay w.heap.size (zNr _) (by omega)).trans hd
      have lt1 := (zAg.1 hl1).1
      refine ⟨_, run_beginRound hl1 (by rw [hrec]), ?_⟩
      have hc2 := putObj_chg A1 (w.heap.size + 1) (.loop { rec .ready none with state := .busy })
      have hl2 : (A1.putObj (w.heap.size + 1) (.loop { rec .ready none with state := .busy })).heap[w.heap.size + 1]? = some (.loop { rec .ready none with state := .busy }) := World.putObj_heap_same lt1
      have hd2 := (hc2.block w.heap.size (by omega) (by omega)).trans hd1
      have fin : ∀ (jump : Option Code) (W3 : World), Step w.heap.size n₁ (A1.putObj (w.heap.size + 1) (.loop { rec .ready none with state := .busy })) W3 →
          (Instr.endRound (w.heap.size + 1) jump).run P W3 = .ok (.bool jump.isNone) (W3.putObj (w.heap.size + 1) (.loop (rec (if jump.isNone then .ready else .done) jump))) ∧
          (W3.putObj (w.heap.size + 1) (.loop (rec (if jump.isNone then .ready else .done) jump))).heap[w.heap.size + 1]? = some (.loop (rec (if jump.isNone then .ready else .done) jump)) ∧
          (W3.putObj (w.heap.size + 1) (.loop (rec (if jump.isNone then .ready else .done) jump))).heap[w.heap.size]? = some (.deferred (some [])) ∧
          Step W1.heap.size n₁ A (W3.putObj (w.heap.size + 1) (.loop (rec (if jump.isNone then .ready else .done) jump))) := fun jump W3 hs3 => by
       have hl3 := (hs3.stay _ (by omega) (by omega)).trans hl2
       have hd3 := (hs3.stay _ (zNr _) (by omega)).trans hd2
       have lt3 := (zAg.1 hl3).1
       have hr := run_endRound (P := P) jump hl3
       rw [hrec] at hr ⊢
       refine ⟨hr, World.putObj_heap_same lt3, (World.putObj_heap_other (by omega)).trans hd3, ?_⟩
       have s1 : Step W1.heap.size n₁ A A1 := ⟨fun i h1 h2 => hst.stay i (by omega) h2, hst.os, hst.tape, hst.output, hst.size⟩
       have s2 : Step W1.heap.size n₁ A1 (A1.putObj (w.heap.size + 1) (.loop { rec .ready none with state := .busy })) := ⟨fun i h1 h2 => World.putObj_heap_other (by omega), rfl, rfl, rfl, by simp⟩
       have s3 : Step W1.heap.size n₁ (A1.putObj (w.heap.size + 1) (.loop { rec .ready none with state := .busy })) W3 := ⟨fun i h1 h2 => hs3.stay i (by omega) h2, hs3.os, hs3.tape, hs3.output, hs3.size⟩
       exact ((s1.trans s2).trans s3).trans ⟨fun i h1 h2 => World.putObj_heap_other (by omega), rfl, rfl, rfl, by simp⟩
      have hchg : ∀ (W3 : World) (o : Obj), Chg (Btw w.heap.size n₁) W3 (W3.putObj (w.heap.size + 1) o) := fun W3 o => (putObj_chg W3 _ o).mono fun i _ e => ⟨by omega, by omega⟩
      have hchg2 : ∀ (W3 : World) (o : Obj), Chg (Frm w.heap.size) W3 (W3.putObj (w.heap.size + 1) o) := fun W3 o => (putObj_chg W3 _ o).mono fun i _ e => show w.heap.size ≤ i by omega
      refine wpIn_mono (hb _ hc2) ?_
      intro e a3 W3 hp
      cases e with
      | normal =>
       obtain ⟨hs3, hi3⟩ := hp
       obtain ⟨hr, hl4, hd4, hst4⟩ := fin none W3 hs3
       exact ⟨_, _, hr, hst4, .inl ⟨rfl, hI n₁ (k + 1) _ _ (by omega) hi3 (hchg _ _), hl4, hd4⟩⟩
      | ret =>
       obtain ⟨hs3, hi3⟩ := hp
       obtain ⟨hr, hl4, hd4, hst4⟩ := fin (some .ret) W3 hs3
       exact ⟨_, _, hr, hst4, .inr ⟨rfl, .ret, hIx _ _ _ hi3 (hchg2 _ _), hl4, hd4⟩⟩
      | exit id =>
       obtain ⟨hs3, hi3⟩ := hp
       obtain ⟨hr, hl4, hd4, hst4⟩ := fin (some (.exit id)) W3 hs3
       exact ⟨_, _, hr, hst4, .inr ⟨rfl, .exit id, hIx _ _ _ hi3 (hchg2 _ _), hl4, hd4⟩⟩
      | goto t =>
       obtain ⟨hs3, hi3⟩ := hp
       obtain ⟨hr, hl4, hd4, hst4⟩ := fin (some (.goto t)) W3 hs3
       exact ⟨_, _, hr, hst4, .inr ⟨rfl, .goto t, hIx _ _ _ hi3 (hchg2 _ _), hl4, hd4⟩⟩
      | panic ch => exact hp.elim
      | outgrown => exact hp.elim
     | ret => exact hp.elim
     | exit id => exact hp.elim
     | goto t => exact hp.elim
     | panic ch => exact hp.elim
     | outgrown => exact hp.elim
   · rintro e W2 ⟨⟨v, rfl⟩, (⟨n₁, hn, hi, hl, hd⟩ | ⟨c, hi, hl, hd⟩)⟩
     · have hr := run_endLoop (P := P) hl (by rw [hrec]; simp)
       rw [hrec] at hr
       exact ⟨none, _, hr, hdone _ n₁ _ (zNr _) (by omega) (by omega) (hI n₁ len _ _ (by omega) hi ((putObj_chg _ _ _).mono fun i _ e => ⟨by omega, by omega⟩)) ((World.putObj_heap_other (by omega)).trans hd)⟩
     · have hr := run_endLoop (P := P) hl (by rw [hrec]; simp)
       rw [hrec] at hr
       exact ⟨some c, _, hr, hstop _ c _ (zNr _) (hIx c _ _ hi ((putObj_chg _ _ _).mono fun i _ e => show w.heap.size ≤ i by omega)) ((World.putObj_heap_other (by omega)).trans hd)⟩
theorem row_chg {A A' : World} {S : Nat → Prop} {B n : Nat} {t : TypeId} {v : Value} {xs : List Value} (h : A.ownsRow B t 1 v n xs) (hc : Chg S A A') (hS : ∀ k, B ≤ k → ¬ S k) : A'.ownsRow B t 1 v n xs :=
 row_kept h fun g hg => hc.block g (row_lt h g hg).2 (hS g (row_lt h g hg).1)
theorem boxed_chg {A A' : World} {S : Nat → Prop} {b : Nat} {t : TypeId} {v : Value} (h : Boxed A b t v) (hc : Chg S A A') (hS : ¬ S b) : Boxed A' b t v := (hc.block b h.lt hS).trans h
theorem ext_alloc (w : World) (o : Obj) : Ext w (w.alloc o) := (Below.refl _ _).alloc (zNr _) _
theorem ext_cell {w u : World} {p : Addr} {v : Value} (hu : Ext w u) (h : w.cell? p = some v) : u.cell? p = some v := (hu.cell (World.block_lt_of_cell? w _ h)).trans h
theorem heap_at (w : World) (o : Obj) {k : Nat} (h : k = w.heap.size) : (w.alloc o).heap[k]? = some o := by subst h; exact World.alloc_heap_new w o
theorem cell_of {w : World} {b k : Nat} {c : Array Value} {t : TypeId} {v : Value} (h : w.heap[b]? = some (.cells c t (0, 0))) (hv : c[k]? = some v) : w.cell? ⟨b, k, none⟩ = some v := by simp [World.cell?, h, hv]
theorem ext_heap {w u : World} (h : Ext w u) {b : Nat} {o : Obj} (hb : w.heap[b]? = some o) : u.heap[b]? = some o := (h.block b (zAg.1 hb).1).trans hb
theorem ownsRow_base {w : World} {b b' : Nat} {e : TypeId} {v : Value} {n : Nat} {xs : List Value} (h : w.ownsRow b e 1 v n xs) (hb : b' ≤ b) : w.ownsRow b' e 1 v n xs := by
 obtain ⟨h1, h2⟩ := h
 refine ⟨h1, ?_⟩
 rcases h2 with h2 | ⟨g, cap, cur, hv, hg, hh, r⟩
 · exact Or.inl h2
 · exact Or.inr ⟨g, cap, cur, hv, zNt hb hg, hh, r⟩
def Mono (p : Value → World → Prop) : Prop := ∀ v u u', p v u → Ext u u' → p v u'
def Is (c : Value) : Value → World → Prop := fun v _ => v = c
theorem Mono.is (c : Value) : Mono (Is c) := fun _ _ _ h _ => h
def fact (φ : List (Value → World → Prop)) (j : Nat) (v : Value) (u : World) : Prop := (φ.getD j fun _ _ => True) v u
theorem fact_mono {φ : List (Value → World → Prop)} (h : ∀ p ∈ φ, Mono p) (j : Nat) {v : Value} {u u' : World} (hf : fact φ j v u) (hu : Ext u u') : fact φ j v u' := by
 unfold fact at *
 by_cases hj : j < φ.length
 · have e : φ.getD j (fun _ _ => True) = φ[j] := by simp [List.getD, List.getElem?_eq_getElem hj]
   rw [e] at hf ⊢
   exact h _ (List.getElem_mem hj) _ _ _ hf hu
 · have e : φ.getD j (fun _ _ => True) = fun _ _ => True := by simp [List.getD, List.getElem?_eq_none (Nat.le_of_not_lt hj)]
   rw [e]; trivial
def aft (o : Oper) (j : Nat) : Bool := o.after.any fun e => Region.binds .any e && e.on == j
def GivesR (P : Program) (r : Result Next) (R : Value → World → Prop) : Prop := match r with
 | .ok (.value v) u' => R v u'
 | .ok .skip u' => R undef u'
 | .ok (.enter f args) u' => Calls P f args u' fun e w => ∃ v, e = .returned v ∧ R v w
 | _ => False
def kept (o : Oper) (v : Value) : Value := match o.dst with | some _ => v | none => undef
def Obls (P : Program) (ops : Array Oper) (φ : List (Value → World → Prop)) (w0 : World) (f : Nat → Value) : Nat → List Oper → Act → Prop
 | _, [], _ => True
 | k, o :: rest, a => (∀ u, Ext w0 u → (∀ j, aft o j = true → fact φ j (f j) u) →
     if Region.wanted o (yielded ops a.tmps) = true then GivesR P ((execOp a.eval o).run P u) (fun v u' => Ext u u' ∧ fact φ k (kept o v) u') else fact φ k undef u) ∧ Obls P ops φ w0 f (k + 1) rest (a.put o.dst (f k))
def puts (g : Nat → Value) : Nat → List Oper → Act → Act
 | _, [], a => a
 | k, o :: rest, a => puts g (k + 1) rest (a.put o.dst (g k))
def flowOk (ops : Array Oper) (size : Nat) : Bool :=
 (List.range ops.size).all fun i => match ops[i]? with
  | none => false
  | some oi => oi.after.all (fun e => !Region.binds .any e || decide (e.on < i)) &&
   (match oi.guard with | some (g, _) => aft oi g | none => true) &&
   (match oi.dst with | some d => decide (d < size) | none => true) &&
   (List.range ops.size).all fun j => match ops[j]? with
    | none => false
    | some oj => match oj.dst with
     | none => true
     | some d => (j == i || oi.dst != some d) && (!(oi.looksAt ops).contains d || aft oi j || aft oj i)
theorem flowOk_at {ops : Array Oper} {size i : Nat} {oi : Oper} (h : flowOk ops size = true) (hi : ops[i]? = some oi) :
    (∀ e ∈ oi.after, Region.binds .any e = true → e.on < i) ∧ (∀ g b, oi.guard = some (g, b) → aft oi g = true) ∧ (∀ d, oi.dst = some d → d < size) ∧
    ∀ j oj d, ops[j]? = some oj → oj.dst = some d → (j ≠ i → oi.dst ≠ some d) ∧ (d ∈ oi.looksAt ops → aft oi j = true ∨ aft oj i = true) := by
 have hlt : i < ops.size := (zAg.1 hi).1
 unfold flowOk at h
 rw [List.all_eq_true] at h
 have h1 := h i (List.mem_range.2 hlt)
 simp only [hi, Bool.and_eq_true] at h1
 obtain ⟨⟨⟨ha, hb⟩, hc⟩, hd⟩ := h1
 refine ⟨fun e he hbind => ?_, fun g b hg => ?_, fun d hd' => ?_, fun j oj d hj hjd => ?_⟩
 · have := (Array.all_eq_true_iff_forall_mem.1 ha) e he
   simpa [hbind] using this
 · simpa [hg] using hb
 · simpa [hd'] using hc
 · rw [List.all_eq_true] at hd
   have h2 := hd j (List.mem_range.2 (zAg.1 hj).1)
   simp only [hj, hjd, Bool.and_eq_true, Bool.or_eq_true, beq_iff_eq, bne_iff_ne, ne_eq, Bool.not_eq_true'] at h2
   obtain ⟨x, y⟩ := h2
   refine ⟨fun hne => x.resolve_left hne, fun hm => ?_⟩
   rcases y with (y | y) | y
   · have : (oi.looksAt ops).contains d = true := by simpa using hm
     rw [y] at this; cases this
   · exact .inl y
   · exact .inr y
def slot (a : Act) (o : Oper) : Value := match o.dst with | some d => a.tmps.getD d undef | none => undef
theorem put_get (a : Act) (dst : Option Tmp) (v : Value) (s : Nat) : (a.put dst v).tmps[s]? = if dst = some s ∧ s < a.tmps.size then some v else a.tmps[s]? := by
 cases dst with
 | none => simp [Act.put]
 | some d =>
  simp only [Act.put, Array.getElem?_setIfInBounds]
  by_cases h : d = s
  · subst h
    by_cases h2 : d < a.tmps.size <;> simp [h2]
  · simp [h]
theorem put_size (a : Act) (dst : Option Tmp) (v : Value) : (a.put dst v).tmps.size = a.tmps.size := by cases dst <;> simp [Act.put]
theorem put_defers' (a : Act) (dst : Option Tmp) (v : Value) : (a.put dst v).defers = a.defers := by cases dst <;> rfl
theorem puts_get (g : Nat → Value) : ∀ (l : List Oper) (k : Nat) (a : Act) (s : Nat), s < a.tmps.size → (∀ (i j : Nat) (oi oj : Oper), l[i]? = some oi → l[j]? = some oj → oi.dst = some s → oj.dst = some s → i = j) →
    ((∀ (j : Nat) (o : Oper), l[j]? = some o → o.dst ≠ some s) → (puts g k l a).tmps[s]? = a.tmps[s]?) ∧ (∀ (j : Nat) (o : Oper), l[j]? = some o → o.dst = some s → (puts g k l a).tmps[s]? = some (g (k + j))) := by
 intro l
 induction l with
 | nil => intro k a s _ _; exact ⟨fun _ => rfl, fun j o h => by simp at h⟩
 | cons o l ih =>
  intro k a s hs hu
  have hu' : ∀ (i j : Nat) (oi oj : Oper), l[i]? = some oi → l[j]? = some oj → oi.dst = some s → oj.dst = some s → i = j := fun i j oi oj hi hj h1 h2 => by
   have := hu (i + 1) (j + 1) oi oj (by simpa using hi) (by simpa using hj) h1 h2; omega
  obtain ⟨h1, h2⟩ := ih (k + 1) (a.put o.dst (g k)) s (by rw [put_size]; exact hs) hu'
  refine ⟨fun hn => ?_, fun j oj hj hd => ?_⟩
  · show (puts g (k + 1) l (a.put o.dst (g k))).tmps[s]? = _
    rw [h1 (fun j oj hj => hn (j + 1) oj (by simpa using hj)), put_get, if_neg (fun h => hn 0 o (by simp) h.1)]
  · show (puts g (k + 1) l (a.put o.dst (g k))).tmps[s]? = _
    cases j with
    | zero =>
     simp at hj; subst hj
     have hno : ∀ (j : Nat) (oj : Oper), l[j]? = some oj → oj.dst ≠ some s := fun j oj hj h => by
      have := hu 0 (j + 1) o oj (by simp) (by simpa using hj) hd h; omega
     rw [h1 hno, put_get, if_pos ⟨hd, hs⟩]; rfl
    | succ j =>
     have := h2 j oj (by simpa using hj) hd
     rw [this, show k + 1 + j = k + (j + 1) by omega]
theorem puts_size (g : Nat → Value) : ∀ (l : List Oper) (k : Nat) (a : Act), (puts g k l a).tmps.size = a.tmps.size := by
 intro l
 induction l with
 | nil => intro k a; rfl
 | cons o l ih => intro k a; exact (ih _ _).trans (put_size _ _ _)
theorem puts_defers (g : Nat → Value) : ∀ (l : List Oper) (k : Nat) (a : Act), (puts g k l a).defers = a.defers := by
 intro l
 induction l with
 | nil => intro k a; rfl
 | cons o l ih => intro k a; exact (ih _ _).trans (put_defers' _ _ _)
theorem Obls.at {P : Program} {ops : Array Oper} {φ : List (Value → World → Prop)} {w0 : World} {f : Nat → Value} : ∀ (l : List Oper) (k : Nat) (a : Act), Obls P ops φ w0 f k l a → ∀ (i : Nat) (o : Oper), l[i]? = some o →
    ∀ u, Ext w0 u → (∀ j, aft o j = true → fact φ j (f j) u) →
     if Region.wanted o (yielded ops (puts f k (l.take i) a).tmps) = true then GivesR P ((execOp (puts f k (l.take i) a).eval o).run P u) (fun v u' => Ext u u' ∧ fact φ (k + i) (kept o v) u') else fact φ (k + i) undef u := by
 intro l
 induction l with
 | nil => intro k a _ i o h; simp at h
 | cons o l ih =>
  intro k a h i oi hi
  cases i with
  | zero => simp at hi; subst hi; exact h.1
  | succ i =>
   have := ih (k + 1) _ h.2 i oi (by simpa using hi)
   simp only [List.take_succ_cons, puts]
   rw [show k + (i + 1) = k + 1 + i by omega]
   exact this
structure Inv (ops : Array Oper) (φ : List (Value → World → Prop)) (a0 : Act) (w0 : World) (seen : Array Bool) (a : Act) (u : World) : Prop where
 ext : Ext w0 u
 size : seen.size = ops.size
 defs : a.defers = a0.defers
 tsz : a.tmps.size = a0.tmps.size
 old : ∀ s, (∀ (j : Nat) (oj : Oper), ops[j]? = some oj → seen.getD j false = true → oj.dst ≠ some s) → a.tmps[s]? = a0.tmps[s]?
 facts : ∀ (j : Nat) (oj : Oper), ops[j]? = some oj → seen.getD j false = true → fact φ j (slot a oj) u
 closed : ∀ (j : Nat) (oj : Oper), ops[j]? = some oj → seen.getD j false = true → ∀ k, aft oj k = true → seen.getD k false = true
theorem aft_lt {ops : Array Oper} {size i k : Nat} {oi : Oper} (h : flowOk ops size = true) (hi : ops[i]? = some oi) (hk : aft oi k = true) : k < i := by
 unfold aft at hk
 obtain ⟨e, he, hb⟩ := Array.any_eq_true'.1 hk
 simp only [Bool.and_eq_true, beq_iff_eq] at hb
 rw [← hb.2]
 exact (flowOk_at h hi).1 e he hb.1
section
variable {P : Program} {ops : Array Oper} {Q : Exit → Act → World → Prop} {φ : List (Value → World → Prop)} {a0 : Act} {w0 : World}
def held (ops : Array Oper) (a : Act) (j : Nat) : Value := match ops[j]? with | some oj => slot a oj | none => undef
theorem look_same {seen : Array Bool} {a : Act} {u : World} (hok : flowOk ops a0.tmps.size = true) (hI : Inv ops φ a0 w0 seen a u) {i : Nat} {oi : Oper} (hi : ops[i]? = some oi) (hn : seen.getD i false = false)
    {t : Nat} (ht : t ∈ oi.looksAt ops) : a.tmps[t]? = (puts (held ops a) 0 (ops.toList.take i) a0).tmps[t]? := by
 by_cases hsz : t < a0.tmps.size
 · have hlen : i < ops.toList.length := by simpa using (zAg.1 hi).1
   have conv : ∀ (j : Nat) (o : Oper), (ops.toList.take i)[j]? = some o → j < i ∧ ops[j]? = some o := fun j o h => by
    rw [List.getElem?_take] at h
    split at h
    · rename_i hj; exact ⟨hj, by rw [← Array.getElem?_toList]; exact h⟩
    · cases h
   have huniq : ∀ (x y : Nat) (ox oy : Oper), (ops.toList.take i)[x]? = some ox → (ops.toList.take i)[y]? = some oy → ox.dst = some t → oy.dst = some t → x = y := fun x y ox oy hx hy h1 h2 => by
    rcases Nat.decEq x y with hne | he
    · exact absurd h1 (((flowOk_at hok (conv x ox hx).2).2.2.2 y oy t (conv y oy hy).2 h2).1 (fun e => hne e.symm))
    · exact he
   obtain ⟨h1, h2⟩ := puts_get (held ops a) (ops.toList.take i) 0 a0 t hsz huniq
   by_cases hex : ∃ (j : Nat) (oj : Oper), (ops.toList.take i)[j]? = some oj ∧ oj.dst = some t
   · obtain ⟨j, oj, hj, hd⟩ := hex
     rw [h2 j oj hj hd, Nat.zero_add]
     have hj' := (conv j oj hj).2
     have hlt := (conv j oj hj).1
     simp only [held, hj', slot, hd]
     have hts : t < a.tmps.size := by rw [hI.tsz]; exact hsz
     simp [Array.getD, hts]
   · have hex' : ∀ (j : Nat) (o : Oper), (ops.toList.take i)[j]? = some o → o.dst ≠ some t := fun j o hj hd => hex ⟨j, o, hj, hd⟩
     rw [h1 hex']
     refine hI.old t fun j oj hj hsj hd => ?_
     rcases ((flowOk_at hok hi).2.2.2 j oj t hj hd).2 ht with h | h
     · have hlt := aft_lt hok hi h
       refine hex' j oj ?_ hd
       rw [List.getElem?_take, if_pos hlt, Array.getElem?_toList]; exact hj
     · have := hI.closed j oj hj hsj i h
       rw [hn] at this; cases this
 · have e1 : a.tmps[t]? = none := Array.getElem?_eq_none (by rw [hI.tsz]; omega)
   have e2 : (puts (held ops a) 0 (ops.toList.take i) a0).tmps[t]? = none := Array.getElem?_eq_none (by rw [puts_size]; omega)
   rw [e1, e2]
theorem set_getD (seen : Array Bool) (i j : Nat) : (seen.setIfInBounds i true).getD j false = if i = j ∧ j < seen.size then true else seen.getD j false := by
 by_cases h : i = j
 · subst h
   by_cases h2 : i < seen.size <;> simp [Array.getD, h2]
 · rw [if_neg (fun e => h e.1), Array.getD_eq_getD_getElem?, Array.getD_eq_getD_getElem?, Array.getElem?_setIfInBounds_ne h]
theorem Inv.next {seen : Array Bool} {a : Act} {u u' : World} (hok : flowOk ops a0.tmps.size = true) (hmono : ∀ p ∈ φ, Mono p) (hI : Inv ops φ a0 w0 seen a u) {i : Nat} {oi : Oper} (hi : ops[i]? = some oi)
    (hs : ∀ k, aft oi k = true → seen.getD k false = true) {v : Value} (hu : Ext u u') (hf : fact φ i (kept oi v) u') : Inv ops φ a0 w0 (seen.setIfInBounds i true) (a.put oi.dst v) u' := by
 refine ⟨hI.ext.trans hu, by simp [hI.size], by rw [put_defers']; exact hI.defs, by rw [put_size]; exact hI.tsz, fun s h => ?_, fun j oj hj hsj => ?_, fun j oj hj hsj k hk => ?_⟩
 · have hlt : i < seen.size := by rw [hI.size]; exact (zAg.1 hi).1
   have hne : oi.dst ≠ some s := h i oi hi (by rw [set_getD, if_pos ⟨rfl, hlt⟩])
   rw [put_get, if_neg (fun h => hne h.1)]
   refine hI.old s fun j oj hj hsj => h j oj hj ?_
   rw [set_getD]
   split
   · rfl
   · exact hsj
 · rw [set_getD] at hsj
   by_cases hij : i = j
   · subst hij
     rw [hi] at hj
     injection hj with hj
     subst hj
     have e : slot (a.put oi.dst v) oi = kept oi v := by
      unfold slot kept
      cases hd : oi.dst with
      | none => rfl
      | some d =>
       have hds := (flowOk_at hok hi).2.2.1 d hd
       have hd2 : d < a.tmps.size := by rw [hI.tsz]; exact hds
       simp [Act.put, Array.getD, hd2]
     rw [e]; exact hf
   · rw [if_neg (fun h => hij h.1)] at hsj
     have e : slot (a.put oi.dst v) oj = slot a oj := by
      unfold slot
      cases hd : oj.dst with
      | none => rfl
      | some d =>
       have hne := ((flowOk_at hok hi).2.2.2 j oj d hj hd).1 (fun e => hij e.symm)
       have := put_get a oi.dst v d
       rw [if_neg (fun h => hne h.1)] at this
       show (a.put oi.dst v).tmps.getD d undef = a.tmps.getD d undef
       rw [Array.getD_eq_getD_getElem?, this, ← Array.getD_eq_getD_getElem?]
     rw [e]
     exact fact_mono hmono j (hI.facts j oj hj hsj) hu
 · rw [set_getD] at hsj ⊢
   split
   · rfl
   · rename_i hk2
     by_cases hij : i = j
     · subst hij
       rw [hi] at hj
       injection hj with hj
       subst hj
       exact hs k hk
     · rw [if_neg (fun h => hij h.1)] at hsj
       exact hI.closed j oj hj hsj k hk
theorem getD_both (seen : Array Bool) {i : Nat} (h : i < seen.size) : seen.getD i true = seen.getD i false := by simp [Array.getD, h]
theorem gives_wp {o : Oper} {a : Act} {u : World} {R : Value → World → Prop} {K : Act → World → Prop} (h : GivesR P ((execOp a.eval o).run P u) R) (hK : ∀ v u', R v u' → K (a.put o.dst v) u') : o.wp P a u K Q := by
 unfold Oper.wp
 generalize (execOp a.eval o).run P u = r at h
 cases r with
 | ok n w' =>
  cases n <;> simp only [GivesR, Oper.upon] at h ⊢ <;> first | exact hK _ _ h | exact h.elim | exact Calls.mono h (fun e w'' he => by obtain ⟨v, rfl, hv⟩ := he; exact hK _ _ hv)
 | halt x w' => exact h.elim
theorem flow_step {seen : Array Bool} {a : Act} {u : World} {m : Nat} (hok : flowOk ops a0.tmps.size = true) (hsel : Region.noSelect ops = true) (hmono : ∀ p ∈ φ, Mono p) (hobl : ∀ f, Obls P ops φ w0 f 0 (ops.toList.take m) a0)
    (hI : Inv ops φ a0 w0 seen a u) {i : Nat} (him : i < m) (hr : i ∈ Region.ready .any ops seen) : wpOp P ops Q i (fun b u' => Inv ops φ a0 w0 (seen.setIfInBounds i true) b u') a u := by
 obtain ⟨hun, oi, hi, hall⟩ := mem_ready.1 hr
 have hlt : i < ops.size := (zAg.1 hi).1
 have hn : seen.getD i false = false := by rw [← getD_both seen (by rw [hI.size]; exact hlt)]; simpa using hun
 have hs : ∀ k, aft oi k = true → seen.getD k false = true := fun k hk => by
  unfold aft at hk
  obtain ⟨e, he, hb⟩ := Array.any_eq_true'.1 hk
  simp only [Bool.and_eq_true, beq_iff_eq] at hb
  rw [← hb.2]
  exact hall e he hb.1
 have hlook := fun {t : Nat} (ht : t ∈ oi.looksAt ops) => look_same hok hI hi hn ht
 have hfacts : ∀ j, aft oi j = true → fact φ j (held ops a j) u := fun j hj => by
  have hjl := aft_lt hok hi hj
  have hoj : ops[j]? = some ops[j] := Array.getElem?_eq_getElem (by omega)
  have := hI.facts j _ hoj (hs j hj)
  simp only [held, hoj]
  exact this
 have hO := Obls.at (ops.toList.take m) 0 a0 (hobl (held ops a)) i oi (by rw [List.getElem?_take, if_pos him, Array.getElem?_toList]; exact hi) u hI.ext hfacts
 rw [Nat.zero_add, List.take_take, Nat.min_eq_left (Nat.le_of_lt him)] at hO
 have hex : execOp (puts (held ops a) 0 (ops.toList.take i) a0).eval oi = execOp a.eval oi := by
  refine execOp_congr oi (fun cs b => Region.noSelect_spec hsel i oi cs b hi) fun x hx => ?_
  cases x with
  | tmp t =>
   have ht : t ∈ oi.looksAt ops := by
    unfold Oper.looksAt
    refine List.mem_append_left _ (List.mem_filterMap.2 ⟨.tmp t, by simpa using hx, rfl⟩)
   show Array.getD _ t undef = Array.getD _ t undef
   rw [Array.getD_eq_getD_getElem?, Array.getD_eq_getD_getElem?, hlook ht]
  | _ => rfl
 have hwt : Region.wanted oi (yielded ops (puts (held ops a) 0 (ops.toList.take i) a0).tmps) = Region.wanted oi (yielded ops a.tmps) := by
  unfold Region.wanted
  cases hg : oi.guard with
  | none => rfl
  | some gb =>
   obtain ⟨g, b⟩ := gb
   have e : yielded ops (puts (held ops a) 0 (ops.toList.take i) a0).tmps g = yielded ops a.tmps g := by
    unfold yielded
    cases hd : (ops[g]?).bind (·.dst) with
    | none => rfl
    | some d =>
     have ht : d ∈ oi.looksAt ops := by
      unfold Oper.looksAt
      rw [hg]
      refine List.mem_append_right _ ?_
      simp only [hd]
      simp
     show (match (puts (held ops a) 0 (ops.toList.take i) a0).tmps[d]? with | some (Value.bool b) => some b | _ => none) = _
     rw [← hlook ht]
     rfl
   simp only [e]
 rw [hex, hwt] at hO
 unfold wpOp
 simp only [hi]
 split
 · rename_i hw
   rw [if_pos hw] at hO
   exact .inl (gives_wp hO fun v u' h => hI.next hok hmono hi hs h.1 h.2)
 · rename_i hw
   rw [if_neg hw] at hO
   refine hI.next hok hmono hi hs (Ext.refl u) ?_
   have : kept oi undef = undef := by unfold kept; cases oi.dst <;> rfl
   rw [this]; exact hO
def left (ops : Array Oper) (seen : Array Bool) : Nat := (List.range ops.size).countP fun i => !seen.getD i false
theorem left_next {seen : Array Bool} (hs : seen.size = ops.size) {i : Nat} (hi : i < ops.size) (hn : seen.getD i false = false) : left ops (seen.setIfInBounds i true) + 1 = left ops seen := by
 unfold left
 have key : ∀ n, i < n → n ≤ ops.size → (List.range n).countP (fun j => !(seen.setIfInBounds i true).getD j false) + 1 = (List.range n).countP fun j => !seen.getD j false := by
  intro n
  induction n with
  | zero => intro h; omega
  | succ n ih =>
   intro h1 h2
   rw [List.range_succ, List.countP_append, List.countP_append]
   by_cases h : i = n
   · subst h
     have e : (List.range i).countP (fun j => !(seen.setIfInBounds i true).getD j false) = (List.range i).countP fun j => !seen.getD j false := by
      apply List.countP_congr
      intro j hj
      rw [set_getD, if_neg (by simp at hj; omega)]
     rw [e]
     have e2 : (seen.setIfInBounds i true).getD i false = true := by rw [set_getD, if_pos ⟨rfl, by omega⟩]
     simp only [List.countP_cons, List.countP_nil, e2, hn]
     simp
   · have := ih (by omega) (by omega)
     have e : (!(seen.setIfInBounds i true).getD n false) = !seen.getD n false := by rw [set_getD, if_neg (by omega)]
     simp only [List.countP_cons, List.countP_nil, e]
     omega
 exact key ops.size hi (zNr _)
theorem all_seen {seen : Array Bool} {a : Act} {u : World} (hok : flowOk ops a0.tmps.size = true) (hI : Inv ops φ a0 w0 seen a u) (hr : Region.ready .any ops seen = []) : ∀ i, i < ops.size → seen.getD i false = true := by
 intro i
 induction i using Nat.strongRecOn with
 | ind i ih =>
  intro hlt
  rcases h : seen.getD i false with _ | _
  · have hi : ops[i]? = some ops[i] := Array.getElem?_eq_getElem hlt
    have : i ∈ Region.ready .any ops seen := mem_ready.2 ⟨by rw [getD_both seen (by rw [hI.size]; exact hlt)]; exact h, ops[i], hi, fun e he hb => by
     have := (flowOk_at hok hi).1 e he hb
     exact ih e.on this (by omega)⟩
    rw [hr] at this; cases this
  · rfl
theorem act_is {seen : Array Bool} {a : Act} {u : World} (hok : flowOk ops a0.tmps.size = true) (hI : Inv ops φ a0 w0 seen a u) : a = puts (held ops a) 0 ops.toList a0 := by
 have hd : a.defers = (puts (held ops a) 0 ops.toList a0).defers := by rw [puts_defers]; exact hI.defs
 have ht : a.tmps = (puts (held ops a) 0 ops.toList a0).tmps := by
  apply Array.ext_getElem?
  intro t
  by_cases hsz : t < a0.tmps.size
  · have conv : ∀ (j : Nat) (o : Oper), ops.toList[j]? = some o → ops[j]? = some o := fun j o h => by rw [← Array.getElem?_toList]; exact h
    have huniq : ∀ (x y : Nat) (ox oy : Oper), ops.toList[x]? = some ox → ops.toList[y]? = some oy → ox.dst = some t → oy.dst = some t → x = y := fun x y ox oy hx hy h1 h2 => by
     rcases Nat.decEq x y with hne | he
     · exact absurd h1 (((flowOk_at hok (conv x ox hx)).2.2.2 y oy t (conv y oy hy) h2).1 (fun e => hne e.symm))
     · exact he
    obtain ⟨h1, h2⟩ := puts_get (held ops a) ops.toList 0 a0 t hsz huniq
    by_cases hex : ∃ (j : Nat) (oj : Oper), ops.toList[j]? = some oj ∧ oj.dst = some t
    · obtain ⟨j, oj, hj, hd⟩ := hex
      rw [h2 j oj hj hd, Nat.zero_add]
      simp only [held, conv j oj hj, slot, hd]
      have hts : t < a.tmps.size := by rw [hI.tsz]; exact hsz
      simp [Array.getD, hts]
    · have hex' : ∀ (j : Nat) (o : Oper), ops.toList[j]? = some o → o.dst ≠ some t := fun j o hj hd => hex ⟨j, o, hj, hd⟩
      rw [h1 hex']
      exact hI.old t fun j oj hj _ => hex' j oj (by rw [Array.getElem?_toList]; exact hj)
  · rw [Array.getElem?_eq_none (by rw [hI.tsz]; omega), Array.getElem?_eq_none (by rw [puts_size]; omega)]
 have ext : ∀ x y : Act, x.tmps = y.tmps → x.defers = y.defers → x = y := by rintro ⟨_, _⟩ ⟨_, _⟩ rfl rfl; rfl
 exact ext _ _ ht hd
theorem flow_any (hok : flowOk ops a0.tmps.size = true) (hsel : Region.noSelect ops = true) (hmono : ∀ p ∈ φ, Mono p) (hobl : ∀ f, Obls P ops φ w0 f 0 ops.toList a0)
    (hfin : ∀ (g : Nat → Value) u, Ext w0 u → (∀ j, j < ops.size → fact φ j (g j) u) → Q .normal (puts g 0 ops.toList a0) u) :
    ∀ (n : Nat) (seen : Array Bool) (a : Act) (u : World), Inv ops φ a0 w0 seen a u → left ops seen = n → wpAny P .any ops Q n seen a u := by
 have done : ∀ (seen : Array Bool) (a : Act) (u : World), Inv ops φ a0 w0 seen a u → (∀ i, i < ops.size → seen.getD i false = true) → Q .normal a u := fun seen a u hI hall => by
  rw [act_is hok hI]
  refine hfin _ _ hI.ext fun j hj => ?_
  have hoj : ops[j]? = some ops[j] := Array.getElem?_eq_getElem hj
  simp only [held, hoj]
  exact hI.facts j _ hoj (hall j hj)
 intro n
 induction n with
 | zero =>
  intro seen a u hI hl
  have hall : ∀ i, i < ops.size → seen.getD i false = true := fun i hi => by
   have := List.countP_eq_zero.1 hl i (List.mem_range.2 hi)
   simpa using this
  refine ⟨?_, done seen a u hI hall⟩
  refine List.eq_nil_iff_forall_not_mem.2 fun i hi => ?_
  obtain ⟨hun, oi, hio, _⟩ := mem_ready.1 hi
  have hlt := (zAg.1 hio).1
  rw [getD_both seen (by rw [hI.size]; exact hlt), hall i hlt] at hun
  cases hun
 | succ n ih =>
  intro seen a u hI hl
  refine ⟨fun hr => done seen a u hI (all_seen hok hI hr), fun i hi => ?_⟩
  refine wpOp_mono (fun b u' hb => ih _ b u' hb ?_) (flow_step (m := ops.size) hok hsel hmono (fun f => by rw [List.take_of_length_le (by simp)]; exact hobl f) hI (zAg.1 (mem_ready.1 hi).2.choose_spec.1).1 hi)
  obtain ⟨hun, oi, hio, _⟩ := mem_ready.1 hi
  have hlt := (zAg.1 hio).1
  rw [getD_both seen (by rw [hI.size]; exact hlt)] at hun
  have := left_next hI.size hlt hun
  omega
theorem flow {id : Nat} {w : World} (hm : P.follows .mixedOrders = true) (φ : List (Value → World → Prop)) (hok : flowOk ops a0.tmps.size = true) (hsel : Region.noSelect ops = true) (hmono : ∀ p ∈ φ, Mono p)
    (hobl : ∀ f, Obls P ops φ w.drew f 0 ops.toList a0)
    (hfin : ∀ (g : Nat → Value) u, Ext w.drew u → (∀ j, j < ops.size → fact φ j (g j) u) → Q .normal (puts g 0 ops.toList a0) u) : (Code.region id ops true).wp P Q a0 w := by
 refine wp_region_any hm (flow_any hok hsel hmono hobl hfin _ _ _ _ ⟨Ext.refl _, by simp, rfl, rfl, fun _ _ => rfl, fun j oj hj hs => ?_, fun j oj hj hs => ?_⟩ ?_)
 · have hlt := (zAg.1 hj).1
   simp [Array.getD, hlt] at hs
 · have hlt := (zAg.1 hj).1
   simp [Array.getD, hlt] at hs
 · unfold left
   rw [List.countP_eq_length.2]
   · simp
   · intro i hi
     have hlt := List.mem_range.1 hi
     simp [Array.getD, hlt]
theorem inv_start {w : World} : Inv ops φ a0 w (Array.replicate ops.size false) a0 w := by
 refine ⟨Ext.refl _, by simp, rfl, rfl, fun _ _ => rfl, fun j oj hj hs => ?_, fun j oj hj hs => ?_⟩
 · have hlt := (zAg.1 hj).1
   simp [Array.getD, hlt] at hs
 · have hlt := (zAg.1 hj).1
   simp [Array.getD, hlt] at hs
theorem left_start : left ops (Array.replicate ops.size false) = ops.size := by
 unfold left
 rw [List.countP_eq_length.2]
 · simp
 · intro i hi
   have hlt := List.mem_range.1 hi
   simp [Array.getD, hlt]
end
end Go.Proofs.YtkdidghfcfcpfaaGreat
namespace Go.Proofs.YtkdidghfcfcpfaaGreat
open Go.ChangeShapes Go.WideShapes Go.ChangeAt Go.RowKit
theorem below_new (w : World) (o : Obj) : Below w.heap.size w (w.alloc o) := (Below.refl _ _).alloc (zNr _) o
theorem rows_lit (w : World) (vs : List Value) (ls : List (List Nat)) (hlen : vs.length = ls.length) (h : ∀ (i : Nat) (v : Value) (l : List Nat), vs[i]? = some v → ls[i]? = some l → ∃ lo hi, Bs w lo hi v l ∧ hi ≤ w.heap.size) :
    Rows2 (w.alloc (.cells vs.toArray 22)) 0 (w.heap.size + 1) (some ⟨w.heap.size, 0, none⟩) vs ls := by
 refine ⟨.inr ⟨w.heap.size, 0, rfl, Nat.zero_le _, by omega, fun i u hu => ?_⟩, hlen, fun i u r hu hr => ?_⟩
 · rw [World.cell?_alloc_at _ _ _ _ rfl, Nat.zero_add]
   simpa using hu
 · obtain ⟨lo, hi, hb, hh⟩ := h i u r hu hr
   exact (hb.alloc hh _).wide (Nat.zero_le _) (by omega)
def Rws (n : Nat) (ls : List (List Nat)) (v : Value) (u : World) : Prop := ls.length = n ∧ ∃ g h, v = .slice (some ⟨g, 0, none⟩) n n ∧ h ≤ u.heap.size ∧ ∃ vs, Rows2 u 0 h (some ⟨g, 0, none⟩) vs ls
theorem Mono.rws (n : Nat) (ls : List (List Nat)) : Mono (Rws n ls) := fun _ _ _ ⟨hn, g, h, e, hh, x, hr⟩ hu => ⟨hn, g, h, e, zNt hh hu.size, x, hr.below hu hh⟩
theorem rws_lit (w : World) (vs : List Value) (ls : List (List Nat)) (n : Nat) (hn : ls.length = n) (hlen : vs.length = ls.length) (h : ∀ (i : Nat) (v : Value) (l : List Nat), vs[i]? = some v → ls[i]? = some l → ∃ lo hi, Bs w lo hi v l ∧ hi ≤ w.heap.size) :
    Rws n ls (.slice (some ⟨w.heap.size, 0, none⟩) n n) (w.alloc (.cells vs.toArray 22)) := ⟨hn, w.heap.size, w.heap.size + 1, rfl, by simp, vs, rows_lit w vs ls hlen h⟩
theorem Bs.len {w : World} {lo hi : Nat} {A : Option Addr} {n c : Nat} {l : List Nat} (h : Bs w lo hi (.slice A n c) l) : l.length = n ∧ n ≤ c ∧ c ≤ maxLen := by
 obtain ⟨A', c', he, a1, a2, _, _⟩ := h
 injection he with x1 x2 x3
 subst x2 x3
 exact ⟨rfl, a1, a2⟩
theorem cut_run (A : Option Addr) (n c k j : Nat) (hkj : k ≤ j) (hjn : j ≤ n) (hc : n ≤ c) : ∃ A2, (∀ (W : World) (lo hi : Nat) (l : List Nat), Bs W lo hi (.slice A n c) l → Bs W lo hi (.slice A2 (j - k) (c - k)) ((l.drop k).take (j - k))) ∧
    (∀ w, (Instr.slice 22 (.slice A n c) (some (.int .i64 (k : Int))) (some (.int .i64 (j : Int))) none).run Tryz.prog w = .ok (.slice A2 (j - k) (c - k)) w) ∧
    (j = n → ∀ w, (Instr.slice 22 (.slice A n c) (some (.int .i64 (k : Int))) none none).run Tryz.prog w = .ok (.slice A2 (j - k) (c - k)) w) := by
 obtain ⟨i0, hi, _, hz1, _⟩ := info_parts t5info
 have he : Tryz.prog.underlying 22 = some (.slice (Tryz.prog.elem 22)) := by kernel_rfl
 have hs : ∀ w, (sizeOf (Tryz.prog.elem 22)).run Tryz.prog w = .ok 1 w := fun w => by
  have e : Tryz.prog.elem 22 = 5 := by kernel_rfl
  rw [e]
  simp [Go.sizeOf, typeInfo, hi, hz1]
 refine ⟨if c = k then A else A.map (·.add k), fun W lo hi' l h => ?_, fun w => ?_, fun hj w => ?_⟩
 · obtain ⟨A', c', he, a1, a2, a3, a4⟩ := h
   injection he with x1 x2 x3
   subst x1 x2 x3
   have h2 := By.drop (k := k) (cap := c) a4 (by omega) (by omega)
   have hl : ((l.drop k).take (j - k)).length = j - k := by simp; omega
   refine ⟨(if c = k then A else A.map (·.add k)), c - k, by rw [hl], by rw [hl]; omega, by omega, fun hn => ?_, ?_⟩
   · split at hn
     · have := a3 hn; omega
     · cases A with
       | none => have := a3 rfl; omega
       | some a => simp at hn
   · unfold By
     rw [bv_take]
     exact Sl.take h2 _
 · rw [run_slice_lh w 22 A n c he .i64 .i64 (k : Int) (j : Int) (by omega) (by omega) (by omega), hs]
   simp [Result.andThen, sliced]
 · subst hj
   rw [run_slice_l w 22 A j c he .i64 (k : Int) (by omega) (by omega), hs]
   simp [Result.andThen, sliced]
structure Hd where
 kA : Option Addr
 kc : Nat
 vA : Option Addr
 vc : Nat
def Ent.at_ (e : Ent) (h : Hd) : Value := .agg #[.slice h.kA e.key.length h.kc, .int .i64 e.seq, .int .i64 e.kind, .slice h.vA e.val.length h.vc]
structure Em (w : World) (lo hi : Nat) (e : Ent) (h : Hd) : Prop where
 k : Bs w lo hi (.slice h.kA e.key.length h.kc) e.key
 v : Bs w lo hi (.slice h.vA e.val.length h.vc) e.val
 bk : ∀ x ∈ e.key, x < 256
 bv : ∀ x ∈ e.val, x < 256
 s1 : -9223372036854775808 ≤ e.seq
 s2 : e.seq ≤ 9223372036854775807
 d1 : -9223372036854775808 ≤ e.kind
 d2 : e.kind ≤ 9223372036854775807
theorem Em.below {w w' : World} {lo hi B : Nat} {e : Ent} {h : Hd} (m : Em w lo hi e h) (hb : Below B w w') (hB : hi ≤ B) : Em w' lo hi e h := ⟨m.k.below hb hB, m.v.below hb hB, m.bk, m.bv, m.s1, m.s2, m.d1, m.d2⟩
theorem Em.wide {w : World} {lo hi lo' hi' : Nat} {e : Ent} {h : Hd} (m : Em w lo hi e h) (h1 : lo' ≤ lo) (h2 : hi ≤ hi') : Em w lo' hi' e h := ⟨m.k.wide h1 h2, m.v.wide h1 h2, m.bk, m.bv, m.s1, m.s2, m.d1, m.d2⟩
set_option maxHeartbeats 1000000 in
theorem may_any (kA vA : Option Addr) (kn kc vn vc : Nat) (s d : Int) (w : World) : Calls Tryz.prog 139 #[.agg #[.slice kA kn kc, .int .i64 s, .int .i64 d, .slice vA vn vc]] w fun e w' => e = .returned (.bool (mayN kn s d vn)) ∧ Below w.heap.size w w' := by
 obtain ⟨m, hm⟩ : ∃ m, m = mayN kn s d vn := ⟨_, rfl⟩
 rw [← hm]
 have HX : Hid (Ext w (w.alloc (.cells #[.slice kA kn kc, .int .i64 s, .int .i64 d, .slice vA vn vc] 50))) := ext_alloc _ _
 by_cases h1 : kn < 1
 · obtain rfl : m = false := by rw [hm]; simp [mayN]; omega
   have d1 : decide ((kn : Int) < 1) = true := by simp; omega
   clear hm
   go_enter Tryz.func139, Tryz.ntmps139
   go_wp2_with fail
   go_ret
   exact ⟨rfl, HX.out⟩
 have d1 : decide ((kn : Int) < 1) = false := by simp; omega
 by_cases h2 : 32 < kn
 · obtain rfl : m = false := by rw [hm]; simp [mayN]; omega
   have d2 : decide ((32 : Int) < (kn : Int)) = true := by simp; omega
   clear hm
   go_enter Tryz.func139, Tryz.ntmps139
   go_wp2_with fail
   go_ret
   exact ⟨rfl, HX.out⟩
 have d2 : decide ((32 : Int) < (kn : Int)) = false := by simp; omega
 by_cases h3 : s < 1
 · obtain rfl : m = false := by rw [hm]; simp [mayN]; omega
   have d3 : decide (s < 1) = true := by simp; omega
   clear hm
   go_enter Tryz.func139, Tryz.ntmps139
   go_wp2_with fail
   go_ret
   exact ⟨rfl, HX.out⟩
 have d3 : decide (s < 1) = false := by simp; omega
 by_cases h4 : 2147483647 < s
 · obtain rfl : m = false := by rw [hm]; simp [mayN]; omega
   have d4 : decide ((2147483647 : Int) < s) = true := by simp; omega
   clear hm
   go_enter Tryz.func139, Tryz.ntmps139
   go_wp2_with fail
   go_ret
   exact ⟨rfl, HX.out⟩
 have d4 : decide ((2147483647 : Int) < s) = false := by simp; omega
 by_cases h5 : d = 1
 · subst h5
   obtain rfl : m = decide ((vn : Int) ≤ 65536) := by
    rw [hm, Bool.eq_iff_iff, mayN_iff, decide_eq_true_eq]; omega
   clear hm h1 h2 h3 h4
   go_enter Tryz.func139, Tryz.ntmps139
   go_wp2_with fail
   go_ret
   exact ⟨rfl, HX.out⟩
 have d5 : (d == 1) = false := by simpa using h5
 by_cases h6 : d = 2
 · subst h6
   obtain rfl : m = ((vn : Int) == 0) := by
    rw [hm, Bool.eq_iff_iff, mayN_iff, beq_iff_eq]; omega
   clear hm h1 h2 h3 h4
   go_enter Tryz.func139, Tryz.ntmps139
   go_wp2_with fail
   go_ret
   exact ⟨rfl, HX.out⟩
 have d6 : (d == 2) = false := by simpa using h6
 obtain rfl : m = false := by
  rw [hm, Bool.eq_false_iff, ne_eq, mayN_iff]; omega
 clear hm h1 h2 h3 h4
 go_enter Tryz.func139, Tryz.ntmps139
 go_wp2_with fail
 go_ret
 exact ⟨rfl, HX.out⟩
theorem cmpL_is (a b : List Nat) (ha : ∀ x ∈ a, x < 256) (hb : ∀ x ∈ b, x < 256) : Lib.compareBytes (a.map fun n => UInt8.ofNat n) (b.map fun n => UInt8.ofNat n) = cmpK a b := by
 induction a generalizing b with
 | nil => cases b <;> simp [Lib.compareBytes, cmpK]
 | cons x l ih =>
  cases b with
  | nil => simp [Lib.compareBytes, cmpK]
  | cons y r =>
   have hx := ha x (by simp)
   have hy := hb y (by simp)
   have h1 := ih r (fun z hz => ha z (by simp [hz])) (fun z hz => hb z (by simp [hz]))
   simp only [List.map_cons, Lib.compareBytes, cmpK, h1]
   have e1 : (UInt8.ofNat x < UInt8.ofNat y) ↔ x < y := by rw [UInt8.lt_iff_toNat_lt]; simp [Nat.mod_eq_of_lt hx, Nat.mod_eq_of_lt hy]
   have e2 : (UInt8.ofNat y < UInt8.ofNat x) ↔ y < x := by rw [UInt8.lt_iff_toNat_lt]; simp [Nat.mod_eq_of_lt hx, Nat.mod_eq_of_lt hy]
   simp [e1, e2]
theorem run_bytesOf {w : World} {lo hi : Nat} {v : Value} {l : List Nat} (h : Bs w lo hi v l) : (Extern.Bytes.bytesOf v).run Tryz.prog w = .ok ⟨(l.map fun n => UInt8.ofNat n).toArray⟩ w := by
 obtain ⟨A, c, rfl, _, _, hnil, hby⟩ := h
 cases A with
 | none =>
  have hl : l = [] := by
   rcases hby with h | ⟨b, o, he, _⟩
   · simpa [bv] using h
   · cases he
  subst hl
  simp [Extern.Bytes.bytesOf]; rfl
 | some a =>
  have hl := Lib.run_loadBytesX (P := Tryz.prog) (w := w) (l.map fun n : Nat => (n : Int)) a .empty (fun j x hj => by
   rcases hby with h | ⟨b, o, he, _, _, hc⟩
   · have : l = [] := by simpa [bv] using h
     subst this; simp at hj
   · injection he with he
     subst he
     rw [addr_add]
     exact hc j _ (by unfold bv; rw [List.getElem?_map] at hj ⊢; cases hq : l[j]? with
      | none => rw [hq] at hj; simp at hj
      | some y => rw [hq] at hj; simp at hj; subst hj; rfl))
  simp only [Extern.Bytes.bytesOf]
  rw [List.length_map] at hl
  rw [hl]
  simp [Lib.bytesOf]
theorem run_keys {w : World} {lo hi lo2 hi2 : Nat} {u v : Value} {a b : List Nat} (hu : Bs w lo hi u a) (hv : Bs w lo2 hi2 v b) (ha : ∀ x ∈ a, x < 256) (hb : ∀ x ∈ b, x < 256) :
    (Extern.BytealgCompare.compare #[u, v]).run Tryz.prog w = .ok (.int .i64 (cmpK a b)) w := by
 change Sem.run Tryz.prog (do pure (goInt (Extern.BytealgCompare.cmp (← Extern.Bytes.bytesOf u) (← Extern.Bytes.bytesOf v)))) w = _
 simp only [Sem.run_bind, run_bytesOf hu, run_bytesOf hv, Sem.run_pure, Result.andThen]
 rw [Lib.cmp_eq]
 rw [cmpL_is a b ha hb]
 rfl
theorem bcmp_any {w : World} {lo hi lo2 hi2 : Nat} {u v : Value} {a b : List Nat} (hu : Bs w lo hi u a) (hv : Bs w lo2 hi2 v b) (ha : ∀ x ∈ a, x < 256) (hb : ∀ x ∈ b, x < 256) :
    Calls Tryz.prog 112 #[u, v] w fun e w' => e = .returned (.int .i64 (cmpK a b)) ∧ w' = w := by
 have hcf : (callFunc 137 #[u, v]).run Tryz.prog w = .ok (.value (.int .i64 (cmpK a b))) w := by
  rw [run_callFunc_extern Tryz.func137 (by kernel_rfl) (by kernel_rfl) (by kernel_rfl) (e := Extern.BytealgCompare.compare) (by kernel_rfl), run_keys hu hv ha hb]
  rfl
 clear hu hv ha hb
 go_enter Tryz.func112, Tryz.ntmps112
 go_wp2_with fail
 go_ret
 exact ⟨rfl, rfl⟩
theorem keys_any {w : World} {lo hi lo2 hi2 : Nat} {u v : Value} {a b : List Nat} (hu : Bs w lo hi u a) (hv : Bs w lo2 hi2 v b) (ha : ∀ x ∈ a, x < 256) (hb : ∀ x ∈ b, x < 256) :
    Calls Tryz.prog 84 #[u, v] w fun e w' => e = .returned (.int .i64 (cmpK a b)) ∧ w' = w := by
 have HR := zHd (bcmp_any hu hv ha hb)
 clear hu hv ha hb
 go_enter Tryz.func84, Tryz.ntmps84
 go_wp2_with fail
 refine Calls.mono HR.out ?_
 rintro e w' ⟨rfl, rfl⟩
 go_wp2
 go_ret
 exact ⟨rfl, rfl⟩
theorem nan_any (s : Int) (w : World) : Calls Tryz.prog 133 #[.int .i64 s] w fun e w' => e = .returned (.bool false) ∧ w' = w := by
 have d : (s != s) = false := by simp
 go_enter Tryz.func133, Tryz.ntmps133
 go_wp2
 go_ret
 exact ⟨rfl, rfl⟩
theorem icmp_any (s t : Int) (w : World) : Calls Tryz.prog 109 #[.int .i64 s, .int .i64 t] w fun e w' => e = .returned (.int .i64 (cmpS t s)) ∧ w' = w := by
 obtain ⟨c, hc⟩ : ∃ c, c = cmpS t s := ⟨_, rfl⟩
 rw [← hc]
 rcases Int.lt_trichotomy s t with h | h | h
 · obtain rfl : c = -1 := by rw [hc]; unfold cmpS; rw [if_pos h]
   have d : decide (s < t) = true := by simp [h]
   clear hc h
   go_enter Tryz.func109, Tryz.ntmps109
   go_wp2_with (go_at_call 133; refine (nan_any _ _).mono ?_; rintro e w' ⟨rfl, rfl⟩)
   go_ret
   exact ⟨rfl, rfl⟩
 · subst h
   obtain rfl : c = 0 := by rw [hc]; unfold cmpS; rw [if_neg (by omega), if_neg (by omega)]
   have d : decide (s < s) = false := by simp
   clear hc
   go_enter Tryz.func109, Tryz.ntmps109
   go_wp2_with (go_at_call 133; refine (nan_any _ _).mono ?_; rintro e w' ⟨rfl, rfl⟩)
   go_ret
   exact ⟨rfl, rfl⟩
 · obtain rfl : c = 1 := by rw [hc]; unfold cmpS; rw [if_neg (by omega), if_pos h]
   have d : decide (s < t) = false := by simp; omega
   have d2 : decide (t < s) = true := by simp [h]
   clear hc h
   go_enter Tryz.func109, Tryz.ntmps109
   go_wp2_with (go_at_call 133; refine (nan_any _ _).mono ?_; rintro e w' ⟨rfl, rfl⟩)
   go_ret
   exact ⟨rfl, rfl⟩
theorem tx_same {a b : List Nat} (ha : ∀ x ∈ a, x < 256) (hb : ∀ x ∈ b, x < 256) : ((tx a).toList == (tx b).toList) = decide (a = b) := by
 by_cases h : a = b
 · subst h; simp
 · rw [decide_eq_false h]
   have hne : tx a ≠ tx b := fun he => h (tx_inj ha hb he)
   rw [Bool.eq_false_iff]
   intro he
   rw [beq_iff_eq, ByteArray.toList_eq, ByteArray.toList_eq] at he
   exact hne (by
    have h1 : (tx a).data = (tx b).data := Array.ext' he
    cases h2 : tx a; cases h3 : tx b
    rw [h2, h3] at h1
    simp at h1; rw [h1])
set_option maxHeartbeats 1000000 in
theorem compare_any {w : World} {lo hi lo2 hi2 : Nat} {a b : Ent} {g h : Hd} (hu : Em w lo hi a g) (hv : Em w lo2 hi2 b h) (h1 : hi ≤ w.heap.size) (h2 : hi2 ≤ w.heap.size) :
    Calls Tryz.prog 79 #[a.at_ g, b.at_ h] w fun e w' => e = .returned (.int .i64 (cmpE a b)) ∧ Ext w w' := by
 obtain ⟨z, hz⟩ : ∃ z, z = cmpE a b := ⟨_, rfl⟩
 rw [← hz]
 unfold Ent.at_
 obtain ⟨w1, hw1⟩ : ∃ w1, w1 = (w.alloc (.cells #[.slice g.kA a.key.length g.kc, .int .i64 a.seq, .int .i64 a.kind, .slice g.vA a.val.length g.vc] 50)).alloc (.cells #[.slice h.kA b.key.length h.kc, .int .i64 b.seq, .int .i64 b.kind, .slice h.vA b.val.length h.vc] 50) := ⟨_, rfl⟩
 have HX : Hid (Ext w w1) := by rw [hw1]; exact zEt (ext_alloc _ _) (ext_alloc _ _)
 have HK := zHd (keys_any (hu.k.below HX.out h1) (hv.k.below HX.out h2) hu.bk hv.bk)
 have HS := zHd (icmp_any b.seq a.seq)
 have HR := zHd (cmpK_range a.key b.key)
 clear hu hv h1 h2
 obtain ⟨k, hk⟩ : ∃ k, k = cmpK a.key b.key := ⟨_, rfl⟩
 have hz2 : z = if k = 0 then cmpS a.seq b.seq else k := by rw [hz, hk]; rfl
 clear hz
 rw [← hk] at HK
 by_cases h0 : k = 0
 · rw [if_pos h0] at hz2
   have d : (k != 0) = false := by simp [h0]
   subst hw1
   clear hk h0
   go_enter Tryz.func79, Tryz.ntmps79
   go_wp2_with fail
   refine Calls.mono HK.out ?_
   rintro e w' ⟨rfl, rfl⟩
   go_wp2_with fail
   refine (HS.out _).mono ?_
   rintro e w' ⟨rfl, rfl⟩
   go_wp2_with fail
   go_ret
   subst hz2
   exact ⟨rfl, HX.out⟩
 · rw [if_neg h0] at hz2
   have d : (k != 0) = true := by simp [h0]
   subst hw1
   clear hk h0
   go_enter Tryz.func79, Tryz.ntmps79
   go_wp2_with fail
   refine Calls.mono HK.out ?_
   rintro e w' ⟨rfl, rfl⟩
   go_wp2_with fail
   go_ret
   subst hz2
   exact ⟨rfl, HX.out⟩
theorem Ent.ext {a b : Ent} (h1 : a.key = b.key) (h2 : a.seq = b.seq) (h3 : a.kind = b.kind) (h4 : a.val = b.val) : a = b := by cases a; cases b; simp_all
def Own (B : Nat) (l : List Nat) (v : Value) (u : World) : Prop := u.ownsRow B 5 1 v l.length (bv l)
theorem Mono.own (B : Nat) (l : List Nat) : Mono (Own B l) := fun _ _ _ h hu => own_below h hu (zNr _)
theorem Own.below {B : Nat} {l : List Nat} {v : Value} {u u' : World} (h : Own B l v u) (hu : Ext u u') : Own B l v u' := own_below h hu (zNr _)
theorem Own.bs {B : Nat} {l : List Nat} {v : Value} {u : World} (h : Own B l v u) : Bs u 0 u.heap.size v l := (Bs.of_own h).wide (Nat.zero_le _) (zNr _)
theorem Own.slice {B : Nat} {l : List Nat} {v : Value} {u : World} (h : Own B l v u) : ∃ A c, v = .slice A l.length c := by
 obtain ⟨A, c, e, _⟩ := h.bs
 exact ⟨A, c, e⟩
theorem Own.base {B B' : Nat} {l : List Nat} {v : Value} {u : World} (h : Own B l v u) (hB : B' ≤ B) : Own B' l v u := ownsRow_base h hB
theorem wpList_addbytes {ops : Array Oper} {rest : List Oper} {o : Oper} {a : Act} {Q : Exit → Act → World → Prop} {wr : World} (hgd : o.guard = none) (s x : Operand)
    (ho : o.op = .call { callee := .builtin .append, args := #[s, x], argTypes := #[22, 22] }) (B : Nat) (v : Value) (l : List Nat) (hs : a.eval s = v) (hown : Own B l v wr)
    (lo hi : Nat) (u : Value) (r : List Nat) (hx : a.eval x = u) (hu : Bs wr lo hi u r) (hlen : l.length + r.length ≤ 1099511627776) (hB : B ≤ wr.heap.size)
    (h : ∀ A' c' w', Own B (l ++ r) (.slice A' (l ++ r).length c') w' → (∀ w0, Below B w0 wr → Below B w0 w') → wpList Tryz.prog ops Q rest (a.put o.dst (.slice A' (l ++ r).length c')) w') :
    wpList Tryz.prog ops Q (o :: rest) a wr := by
 obtain ⟨i0, hi0, ix0, ix1, ix2⟩ := info_parts t5info
 obtain ⟨A, c, rfl, h1, h2, hnil, hby⟩ := hu
 refine wpList_addall hgd s x 22 ho B 5 i0 (.int .u8 0) 1 Tryz.underlying22 hi0 ix0 ix1 ix2 rfl v l.length (bv l) hs hown lo hi A r.length c (bv r) hx hnil (by rw [bv_length]) hby (bv_one r) (by unfold maxLen; omega) (by omega) hB (fun v' w' ho' hb => ?_)
 have hown' : Own B (l ++ r) v' w' := by unfold Own; rw [List.length_append, bv_append]; exact ho'
 obtain ⟨A', c', rfl⟩ := hown'.slice
 exact h A' c' w' hown' hb
theorem own_grown {w w' : World} {B : Nat} {e : TypeId} {v : Value} {n : Nat} {xs : List Value} {r : Nat} (h : w.ownsRow B e 1 v n xs) (hg : w.grownBy w' (some r)) (hr : r < B) : w'.ownsRow B e 1 v n xs := by
 refine h.kept hg ?_
 cases hb : v.ownBlock with
 | none => exact .inl rfl
 | some k =>
  right
  have := (h.lt k hb).1
  intro he
  injection he with he
  omega
theorem grownBy_trans {a b c : World} {r : Nat} (h : a.grownBy b (some r)) (k : b.grownBy c (some r)) : a.grownBy c (some r) :=
 ⟨k.os.trans h.os, k.tape.trans h.tape, k.output.trans h.output, zNt h.size k.size, fun i hi hne => (k.block i (Nat.lt_of_lt_of_le hi h.size) hne).trans (h.block i hi hne)⟩
theorem grownBy_below {a b c : World} {r : Nat} (h : a.grownBy b (some r)) (k : Below a.heap.size b c) : a.grownBy c (some r) :=
 ⟨k.os.trans h.os, k.tape.trans h.tape, k.output.trans h.output, zNt h.size k.size, fun i hi hne => (k.block i hi).trans (h.block i hi hne)⟩
theorem wq {m : Nat} (h : U64 m) : IntKind.u64.wrap ((m : Int) / 128) = (m : Int) / 128 := by have := h.lt; rw [IntKind.wrap_u64]; omega
theorem wr128 (m : Nat) : IntKind.u64.wrap ((m : Int) % 128) = (m : Int) % 128 := by rw [IntKind.wrap_u64]; omega
theorem form_pos (n : Nat) : 0 < (form n).length := by
 by_cases h : n < 128
 · rw [form_lo h]; simp
 · rw [form_hi h]; simp
set_option maxHeartbeats 400000 in
theorem digits_any (n : Nat) (h1 : U64 n) (w : World) : Calls Tryz.prog 97 #[.int .u64 n] w fun e w' => e = .returned (.int .i64 ((form n).length : Int)) ∧ w = w' := by
 have h10 := form_len64 h1
 obtain ⟨F, hF⟩ : ∃ F, F = (form n).length := ⟨_, rfl⟩
 rw [← hF] at h10 ⊢
 have HF := zHd hF
 clear hF
 go_enter Tryz.func97, Tryz.ntmps97
 go_wp2_with fail
 go_loop [0, 3] (fun x c => ∃ (m k : Nat), U64 m ∧ x = .int .u64 (m : Int) ∧ c = .int .i64 (k : Int) ∧ k + (form m).length = F + 1) (fun x _ => (intOf x).toNat)
 case atStart => exact ⟨n, 1, h1, rfl, rfl, by rw [HF.out]; omega⟩
 case round =>
  obtain ⟨m, k, hm64, rfl, rfl, hk⟩ := hrel
  have hq := wq hm64
  have hp := form_pos m
  have HK := zHd hk
  have hk10 : (k : Int) ≤ 10 := by omega
  clear hk
  by_cases hlt : m < 128
  · have hd : decide ((0 : Int) < (m : Int) / 128) = false := by simp; omega
    have hd2 : decide (0 < m / 128) = false := by simp; omega
    have hfin : (k : Int) = (F : Int) := by have := HK.out; rw [form_lo hlt] at this; simp at this; omega
    have HN := zHd hfin
    clear hfin hp hlt
    go_wp2_with fail
    go_ret
    exact ⟨by rw [HN.out]; rfl, rfl⟩
  · have hd : decide ((0 : Int) < (m : Int) / 128) = true := by simp; omega
    have hd2 : decide (0 < m / 128) = true := by simp; omega
    have hrel : k + 1 + (form (m / 128)).length = F + 1 := by have := HK.out; rw [form_hi hlt] at this; simp at this; omega
    have HN := zHd hrel
    clear hrel hp
    go_wp2_with fail
    go_round
    case rel => exact ⟨m / 128, k + 1, hm64.div _, by go_num, by go_num, HN.out⟩
    case measure => simp [intOf]; omega
theorem drop_form (n : Nat) : ∀ (k m : Nat), k < (form n).length → (form n).drop k = form m → (form n)[k]? = some (if m < 128 then m else m % 128 + 128) ∧ (¬ m < 128 → (form n).drop (k + 1) = form (m / 128)) ∧ (m < 128 ↔ k + 1 = (form n).length) := by
 intro k m hk h
 have h0 : ((form n).drop k)[0]? = (form n)[k]? := by rw [List.getElem?_drop]; simp
 have hl : ((form n).drop k).length = (form n).length - k := by simp
 have hd : (form n).drop (k + 1) = ((form n).drop k).drop 1 := by rw [List.drop_drop]
 by_cases hm : m < 128
 · rw [h, form_lo hm] at h0 hl
   refine ⟨by rw [← h0, if_pos hm]; rfl, fun h => absurd hm h, fun _ => ?_, fun _ => hm⟩
   simp at hl; omega
 · have hp := form_pos (m / 128)
   rw [h, form_hi hm] at h0 hl hd
   refine ⟨by rw [← h0, if_neg hm]; rfl, fun _ => by rw [hd]; rfl, fun h => absurd h hm, fun h => ?_⟩
   simp at hl; omega
theorem take_set {xs : List Value} {L : List Nat} {k u : Nat} (hk : k < L.length) (hx : k < xs.length) (ht : xs.take k = bv (L.take k)) (hg : L[k]? = some u) {v : Value} (hv : v = .int .u8 (u : Int) := by rfl) :
    (xs.set k v).take (k + 1) = bv (L.take (k + 1)) := by
 subst hv
 rw [List.getElem?_eq_getElem hk] at hg
 injection hg with hg
 rw [List.take_succ_eq_append_getElem (by simpa using hx), List.take_succ_eq_append_getElem hk, bv_append, ← ht, hg, List.take_set, List.set_eq_of_length_le (by simp; omega)]
 simp [bv]
set_option maxHeartbeats 1000000 in
theorem rnumber_any (n : Nat) (h1 : U64 n) (w : World) : Calls Tryz.prog 62 #[.int .u64 n] w (NewBy w (form n)) := by
 obtain ⟨i0, hi0, hz0, hz1, hz2⟩ := info_parts t5info
 have h10 := form_len64 h1
 have HD := zHd (digits_any n h1 w)
 have HDF := zHd (drop_form n)
 have hstart : (form n).drop 0 = form n := by simp
 obtain ⟨w1, hrun, hown, hg⟩ := run_make_full (P := Tryz.prog) w w.heap.size 22 5 i0 (.int .u8 0) 1 Tryz.underlying22 hi0 hz0 hz1 .i64 .i64 (form n).length (by rw [hz2]; omega) (by unfold maxLen; omega) (zNr _)
 have hb1 : Below w.heap.size w w1 := (Below.refl _ _).grown hg (zNr _) (by intro k hk; cases hk)
 obtain ⟨L, hL⟩ : ∃ L, L = form n := ⟨_, rfl⟩
 rw [← hL] at HD HDF hrun hown h10 hstart ⊢
 have HS := zHd (show L.drop 0 = form n by rw [hL]; simp)
 have hx0 : ∃ xs : List Value, w1.ownsRow w.heap.size 5 1 (.slice (some ⟨w.heap.size, 0, none⟩) L.length L.length) L.length xs ∧ xs.take 0 = bv (L.take 0) := ⟨_, hown, by simp [bv]⟩
 have HX := zHd hx0
 have HB1 := zHd hb1
 have H1 := zHd h1
 have h10I : (L.length : Int) ≤ 10 := by omega
 clear hL hown hg hx0 hb1 hi0 hz0 hz1 hz2 hstart h10
 go_enter Tryz.func62, Tryz.ntmps62
 go_wp2_with fail
 refine Calls.mono HD.out ?_
 rintro e w2 ⟨rfl, rfl⟩
 go_wp2_with fail
 go_loopw [0, 4] (fun x i wr => ∃ (m k : Nat) (xs : List Value), U64 m ∧ k ≤ L.length ∧ x = .int .u64 (m : Int) ∧ i = .int .i64 (k : Int) ∧ (k < L.length → L.drop k = form m) ∧ wr.ownsRow w.heap.size 5 1 (.slice (some ⟨w.heap.size, 0, none⟩) L.length L.length) L.length xs ∧ xs.take k = bv (L.take k) ∧ Below w.heap.size w wr) (fun _ i _ => L.length - (intOf i).toNat)
 case atStart =>
  obtain ⟨xs, h1, h2⟩ := HX.out
  exact ⟨n, 0, xs, H1.out, Nat.zero_le _, rfl, rfl, fun _ => HS.out, h1, h2, HB1.out⟩
 case round =>
  obtain ⟨m, k, xs, hm64, hk, rfl, rfl, hdr, hown, htk, hb⟩ := hrel
  have hq := wq hm64
  by_cases hlt : k < L.length
  · obtain ⟨hget, hnext, hlast⟩ := HDF.out k m hlt (hdr hlt)
    have hd : decide (k < L.length) = true := by simp [hlt]
    have hxl : xs.length = L.length := by have := hown.1; omega
    have hk1 : k < xs.length := by omega
    have hcell : wr.cell? ⟨w.heap.size, k, none⟩ = some xs[k] := by rw [hown.cellAt k (by omega), List.getElem?_eq_getElem hk1]
    have hfz := hown.frozenAt k
    have hm3 := wr128 m
    generalize xs[k] = x0 at hcell
    have HO := zHd hown
    have HT := zHd htk
    have HB := zHd hb
    have HG := zHd hget
    have HN := zHd hnext
    clear hown htk hb hget hnext hdr
    by_cases hm : m < 128
    · have hkl := hlast.1 hm
      have HKL := zHd hkl
      have hd2 : decide ((k : Int) < (L.length : Int) - 1) = false := by simp; omega
      clear hlast hkl
      have hst := (HO.out.stored k (.int .u8 ((m : Int) % 128))).1
      have hrel : (wr.setCell ⟨w.heap.size, k, none⟩ (.int .u8 ((m : Int) % 128))).ownsRow w.heap.size 5 1 (.slice (some ⟨w.heap.size, 0, none⟩) L.length L.length) L.length (xs.set k (.int .u8 ((m : Int) % 128))) ∧ (xs.set k (.int .u8 ((m : Int) % 128))).take (k + 1) = bv (L.take (k + 1)) ∧ Below w.heap.size w (wr.setCell ⟨w.heap.size, k, none⟩ (.int .u8 ((m : Int) % 128))) := by
       refine ⟨hst, ?_, HB.out.setCell (zNr _) _⟩
       have hg := HG.out
       rw [if_pos hm] at hg
       exact take_set hlt hk1 HT.out hg (by rw [show (m : Int) % 128 = (m : Int) by omega])
      have HR := zHd hrel
      clear hst hrel
      go_wp2_with fail
      refine ⟨⟨m / 128, k + 1, _, hm64.div _, by omega, by go_num, by go_num, fun h => by have := HKL.out; omega, HR.out⟩, by simp [intOf]; omega⟩
    · have hkl : k + 1 < L.length := by
        rcases Nat.lt_or_ge (k + 1) L.length with h | h
        · exact h
        · exact absurd (hlast.2 (by omega)) hm
      have hd2 : decide ((k : Int) < (L.length : Int) - 1) = true := by simp; omega
      have hst := (((HO.out.stored k (.int .u8 ((m : Int) % 128))).1).stored k (.int .u8 ((m : Int) % 128 + 128))).1
      have hrel : ((wr.setCell ⟨w.heap.size, k, none⟩ (.int .u8 ((m : Int) % 128))).setCell ⟨w.heap.size, k, none⟩ (.int .u8 ((m : Int) % 128 + 128))).ownsRow w.heap.size 5 1 (.slice (some ⟨w.heap.size, 0, none⟩) L.length L.length) L.length (xs.set k (.int .u8 ((m : Int) % 128 + 128))) ∧ (xs.set k (.int .u8 ((m : Int) % 128 + 128))).take (k + 1) = bv (L.take (k + 1)) ∧
          Below w.heap.size w ((wr.setCell ⟨w.heap.size, k, none⟩ (.int .u8 ((m : Int) % 128))).setCell ⟨w.heap.size, k, none⟩ (.int .u8 ((m : Int) % 128 + 128))) := by
       refine ⟨by simpa using hst, ?_, (HB.out.setCell (zNr _) _).setCell (zNr _) _⟩
       have hg := HG.out
       rw [if_neg hm] at hg
       exact take_set hlt hk1 HT.out hg
      have HR := zHd hrel
      clear hst hrel hlast
      go_wp2_with fail
      refine ⟨⟨m / 128, k + 1, _, hm64.div _, by omega, by go_num, by go_num, fun _ => HN.out hm, HR.out⟩, by simp [intOf]; omega⟩
  · obtain rfl : k = L.length := by omega
    have hd : decide (L.length < L.length) = false := by simp
    have hxs : xs = bv L := by
     have h1 := hown.1
     rw [List.take_length, List.take_of_length_le (by omega)] at htk
     exact htk
    subst hxs
    have HR : Hid (NewBy w L (.returned (.slice (some ⟨w.heap.size, 0, none⟩) L.length L.length)) wr) := ⟨_, rfl, hown, hb⟩
    clear hown htk hdr hb
    go_wp2_with fail
    go_ret
    exact HR.out
set_option maxHeartbeats 400000 in
theorem rbytes_any (v : Value) (lo hi : Nat) (l : List Nat) (w : World) (h : Bs w lo hi v l) (hhi : hi ≤ w.heap.size) (hl : l.length ≤ 1000000000000) :
    Calls Tryz.prog 63 #[v] w (NewBy w (bytesForm l)) := by
 obtain ⟨i0, hi0, hz0, hz1, hz2⟩ := info_parts t5info
 have HI := zHd hi0
 have h64 : U64 l.length := ⟨by omega⟩
 have hf := form_len64 h64
 have HL := zHd hl
 have H := zHd h
 have hlI : ((l.length : Nat) : Int) ≤ 1000000000000 := by omega
 obtain ⟨A, c, rfl, h1, h2, hnil, hby⟩ := h
 have HN := zHd hnil
 clear hl h1 h2 hby hi0 hnil
 go_enter Tryz.func63, Tryz.ntmps63
 go_wp2_with fail
 refine (rnumber_any _ h64 _).mono ?_
 rintro e w1 ⟨v1, rfl, hown, hb⟩
 have hz := hb.size
 have g2 := zHd (show Bs w1 lo hi (.slice A l.length c) l from H.out.below hb hhi)
 go_wp2_with (at_builtin; refine wpList_addall rfl (.tmp 6) (.tmp 7) 22 rfl w.heap.size 5 i0 (.int .u8 0) 1 Tryz.underlying22 HI.out hz0 hz1 hz2 rfl _ _ _ rfl hown lo hi A l.length c (bv l) rfl HN.out ?c2 ?c3 (bv_one l) ?c4 ?c5 ?c6 ?_)
 case c2 => exact bv_length l
 case c3 =>
  obtain ⟨A', c', he, _, _, _, h4⟩ := g2.out
  injection he with he1
  subst he1
  exact h4
 case c4 => have := HL.out; unfold maxLen; omega
 case c5 => have := HL.out; omega
 case c6 => exact hz
 intro v2 w2 hown2 hb2
 have HF : Hid (NewBy w (bytesForm l) (.returned v2) w2) := ⟨v2, rfl, by rw [bytesForm, bv_append, List.length_append]; exact hown2, hb2 _ hb⟩
 clear hown hown2 hb2
 go_wp2
 go_ret
 exact HF.out
end Go.Proofs.YtkdidghfcfcpfaaGreat
