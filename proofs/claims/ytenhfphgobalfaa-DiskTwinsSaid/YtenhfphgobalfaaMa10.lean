/- Flowj Dargs Ddeep Dmuch Dargs2, joined. -/
import Derived.Test.YtenhfphgobalfaaMa9
import Derived.Test.YtenhfphgobalfaaMa8
import Derived.ProofKit
import Derived.OpenShut
import Derived.ShutString
import Derived.ChangeOld
import Derived.Deep.DeepCutAuto
import Derived.Deep.Strs

/- A region that draws its order and holds two calls that change memory, the second behind the first; all others say what they say whatever these do (under J, which the calls keep): facts for all, then what the two make (no function of the program). -/
namespace Go.Proofs.Ytenhfphgobalfaa.Sj
open Go.RowKit

/-- Each operation gives its fact. The s-th changes memory, then the t-th does; those of T say the same whatever these did. -/
def Obls (P : Program) (ops : Array Oper) (φ : List (Value → World → Prop)) (w0 : World) (s t : Nat) (J : World → Prop) (S S' : Value → World → Prop) (f : Nat → Value) : Nat → List Oper → Act → Prop
  | _, [], _ => True
  | k, o :: rest, a => (if k = s then (∀ u, Ext w0 u → (∀ j, aft o j = true → fact φ j (f j) u) → if Region.wanted o (yielded ops a.tmps) = true then GivesR P ((execOp a.eval o).run P u) (fun v u' => S (kept o v) u') else S undef u)
    else if k = t then (∀ u1 u2, Ext w0 u1 → (∀ j, aft o j = true → fact φ j (f j) u1) → S (f s) u2 → if Region.wanted o (yielded ops a.tmps) = true then GivesR P ((execOp a.eval o).run P u2) (fun v u' => S' (kept o v) u') else S' undef u2)
    else (∀ u u', Ext w0 u → J u' → (∀ j, aft o j = true → fact φ j (f j) u) → if Region.wanted o (yielded ops a.tmps) = true then GivesR P ((execOp a.eval o).run P u') (fun v u2 => u2 = u' ∧ fact φ k (kept o v) u) else fact φ k undef u)) ∧ Obls P ops φ w0 s t J S S' f (k + 1) rest (a.put o.dst (f k))

/-- The second waits for the first. -/
def okj (ops : Array Oper) (s t : Nat) : Bool := decide (s < ops.size) && decide (t < ops.size) && decide (s ≠ t) && reachB ops ops.size t s
structure SInv (ops : Array Oper) (φ : List (Value → World → Prop)) (w0 : World) (s t : Nat) (J : World → Prop) (S S' : Value → World → Prop) (seen : Nat → Bool) (f : Nat → Value) (u : World) : Prop where
  closed : ∀ j oj, ops[j]? = some oj → seen j = true → ∀ k, aft oj k = true → seen k = true
  j : J u
  holds : (seen s = false ∧ seen t = false ∧ u = w0 ∧ ∀ j, seen j = true → fact φ j (f j) w0) ∨
    (seen s = true ∧ (∀ j, seen j = true → fact φ j (f j) w0) ∧ ((seen t = false ∧ S (f s) u) ∨ (seen t = true ∧ S' (f t) u)))

section
variable {P : Program} {ops : Array Oper} {Q : Exit → Act → World → Prop} {φ : List (Value → World → Prop)} {a0 : Act} {w0 : World} {s t : Nat} {J : World → Prop} {S S' : Value → World → Prop}

theorem to_fi (hok : okj ops s t = true) (hS : ∀ v u, S v u → J u ∧ ∀ z, fact φ s v z) (hS' : ∀ v u, S' v u → J u ∧ ∀ z, fact φ t v z) (f : Nat → Value) :
    ∀ (l : List Oper) (k : Nat) (a : Act), (∀ i o, l[i]? = some o → ops[k + i]? = some o) → Obls P ops φ w0 s t J S S' f k l a → Fi.Obls P ops (SInv ops φ w0 s t J S S') f k l a := by
  unfold okj at hok
  simp only [Bool.and_eq_true, decide_eq_true_eq] at hok
  obtain ⟨⟨⟨hss, htt⟩, hne⟩, hat⟩ := hok
  intro l
  induction l with
  | nil => intro k a _ _; trivial
  | cons o l ih =>
    intro k a hops h
    refine ⟨fun seen u hI hn hd => ?_, ih (k + 1) _ (fun i o h => by rw [show k + 1 + i = k + (i + 1) by omega]; exact hops (i + 1) o (by simpa using h)) h.2⟩
    have hk : ops[k]? = some o := by have := hops 0 o rfl; simpa using this
    have hlt : k < ops.size := (Array.getElem?_eq_some_iff.1 hk).1
    have hcl := St.closed_upd hI.closed hk hd
    have h0 := h.1
    have sees : ∀ j, reachB ops ops.size k j = true → seen j = true := fun j h4 => by
      revert h4
      cases hn2 : ops.size with
      | zero => omega
      | succ n =>
        intro h4
        simp only [reachB, hk] at h4
        rcases Bool.or_eq_true_iff.1 h4 with h4 | h4
        · exact hd j h4
        · obtain ⟨k', _, h5⟩ := List.any_eq_true.1 h4
          simp only [Bool.and_eq_true] at h5
          exact St.reach_seen hI.closed n k' j (hd k' h5.1) h5.2
    have apart : ∀ {α : Type} (g : Nat → α) (v : α) (j : Nat), j ≠ k → Fi.upd g k v j = g j := fun g v j hj => Fi.upd_ne g v hj
    have more : ∀ v, (∀ j, seen j = true → fact φ j (f j) w0) → fact φ k v w0 → ∀ j, Fi.upd seen k true j = true → fact φ j (Fi.upd f k v j) w0 := fun v h3 hv j hs => by
      by_cases e : j = k
      · subst e; rw [Fi.upd_at]; exact hv
      · rw [apart _ _ _ e] at hs ⊢; exact h3 j hs
    by_cases hks : k = s
    · subst hks
      rw [if_pos rfl] at h0
      rcases hI.holds with ⟨h1, h1', h2, h3⟩ | ⟨h1, _⟩
      · subst h2
        have h5 := h0 u (Ext.refl _) fun j hj => h3 j (hd j hj)
        have keep : ∀ v u', S v u' → SInv ops φ u k t J S S' (Fi.upd seen k true) (Fi.upd f k v) u' := fun v u' hv =>
          ⟨hcl, (hS v u' hv).1, .inr ⟨Fi.upd_at _ _ _, more v h3 ((hS v u' hv).2 _), .inl ⟨by rw [apart _ _ _ (Ne.symm hne)]; exact h1', by rw [Fi.upd_at]; exact hv⟩⟩⟩
        split
        · rename_i hw
          rw [if_pos hw] at h5
          exact St.GivesR.mono h5 fun v u' hv => keep _ _ hv
        · rename_i hw
          rw [if_neg hw] at h5
          exact keep _ _ h5
      · rw [h1] at hn; cases hn
    · rw [if_neg hks] at h0
      have hsk : s ≠ k := fun e => hks e.symm
      by_cases hkt : k = t
      · subst hkt
        rw [if_pos rfl] at h0
        have hs : seen s = true := sees s hat
        rcases hI.holds with ⟨h1, _⟩ | ⟨h1, h3, h4⟩
        · rw [hs] at h1; cases h1
        · rcases h4 with ⟨h4, h5⟩ | ⟨h4, _⟩
          · have h6 := h0 w0 u (Ext.refl _) (fun j hj => h3 j (hd j hj)) h5
            have keep : ∀ v u', S' v u' → SInv ops φ w0 s k J S S' (Fi.upd seen k true) (Fi.upd f k v) u' := fun v u' hv =>
              ⟨hcl, (hS' v u' hv).1, .inr ⟨by rw [apart _ _ _ hsk]; exact h1, more v h3 ((hS' v u' hv).2 _), .inr ⟨Fi.upd_at _ _ _, by rw [Fi.upd_at]; exact hv⟩⟩⟩
            split
            · rename_i hw
              rw [if_pos hw] at h6
              exact St.GivesR.mono h6 fun v u' hv => keep _ _ hv
            · rename_i hw
              rw [if_neg hw] at h6
              exact keep _ _ h6
          · rw [h4] at hn; cases hn
      · rw [if_neg hkt] at h0
        have htk : t ≠ k := fun e => hkt e.symm
        have h3 : ∀ j, seen j = true → fact φ j (f j) w0 := by
          rcases hI.holds with ⟨_, _, _, h3⟩ | ⟨_, h3, _⟩ <;> exact h3
        have h5 := h0 w0 u (Ext.refl _) hI.j fun j hj => h3 j (hd j hj)
        have keep : ∀ v, fact φ k v w0 → SInv ops φ w0 s t J S S' (Fi.upd seen k true) (Fi.upd f k v) u := fun v hv => by
          refine ⟨hcl, hI.j, ?_⟩
          rcases hI.holds with ⟨h1, h1', h2, _⟩ | ⟨h1, _, h4⟩
          · exact .inl ⟨by rw [apart _ _ _ hsk]; exact h1, by rw [apart _ _ _ htk]; exact h1', h2, more v h3 hv⟩
          · exact .inr ⟨by rw [apart _ _ _ hsk]; exact h1, more v h3 hv, by rw [apart _ _ _ htk, apart _ _ _ hsk, apart _ _ _ htk]; exact h4⟩
        split
        · rename_i hw
          rw [if_pos hw] at h5
          refine St.GivesR.mono h5 fun v u' hv => ?_
          rw [hv.1]
          exact keep _ hv.2
        · rename_i hw
          rw [if_neg hw] at h5
          exact keep _ h5

/-- A region that draws its order, with two calls that change memory. -/
theorem flow {id : Nat} {w : World} (hm : P.follows .mixedOrders = true) (φ : List (Value → World → Prop)) (s t : Nat) (J : World → Prop) (S S' : Value → World → Prop) (hok : flowOk ops a0.tmps.size = true) (hsel : Region.noSelect ops = true)
    (hst : okj ops s t = true) (hJ : J w.drew) (hS : ∀ v u, S v u → J u ∧ ∀ z, fact φ s v z) (hS' : ∀ v u, S' v u → J u ∧ ∀ z, fact φ t v z)
    (hobl : ∀ f, Obls P ops φ w.drew s t J S S' f 0 ops.toList a0)
    (hfin : ∀ (g : Nat → Value) u, (∀ j, j < ops.size → fact φ j (g j) w.drew) → S' (g t) u → Q .normal (puts g 0 ops.toList a0) u) : (Code.region id ops true).wp P Q a0 w := by
  have h9 := hst
  unfold okj at h9
  simp only [Bool.and_eq_true, decide_eq_true_eq] at h9
  refine Fi.flow hm (SInv ops φ w.drew s t J S S') hok hsel (fun f => ⟨fun j oj _ h => (by cases h), hJ, .inl ⟨rfl, rfl, rfl, fun j h => (by cases h)⟩⟩) (fun f => to_fi hst hS hS' f _ _ _ (fun i o h => by rw [Nat.zero_add, ← Array.getElem?_toList]; exact h) (hobl f)) fun g seen u hall hI => ?_
  rcases hI.holds with ⟨h1, _⟩ | ⟨_, h3, h4⟩
  · rw [hall s h9.1.1.1] at h1; cases h1
  · rcases h4 with ⟨h4, _⟩ | ⟨_, h4⟩
    · rw [hall t h9.1.1.2] at h4; cases h4
    · exact hfin g u (fun j hj => h3 j (hall j hj)) h4
end
end Go.Proofs.Ytenhfphgobalfaa.Sj

/- From a law's argument to what its walk is told. -/
namespace Go.Proofs.Ytenhfphgobalfaa
open Go.ChangeShapes Go.WideShapes Go.ChangeAt Go.RowKit

theorem own : ownKnob Try.prog.godebug = none := by kernel_rfl
theorem laidOut : laidOutB Try.prog = true := by kernel_rfl

theorem u8_wf {n : Int} (h : (Lit.int .u8 n).wf = true) : 0 ≤ n ∧ n < 256 := by
  have : 0 ≤ n ∧ n ≤ 255 := by simpa [Lit.wf, IntKind.min, IntKind.max, IntKind.signed, IntKind.bits] using h
  omega
theorem i64_wf {n : Int} (h : (Lit.int .i64 n).wf = true) : -9223372036854775808 ≤ n ∧ n ≤ 9223372036854775807 := by
  simpa [Lit.wf, IntKind.min, IntKind.max, IntKind.signed, IntKind.bits] using h

/-- A slice of bytes that came in. -/
theorem bs_cells {W : World} {x : Addr} {len cap : Nat} {zs : List Int} (hl : len ≤ cap) (hm : cap ≤ maxLen) (hz : zs.length = cap)
    (hcell : ∀ i, i < zs.length → W.cell? (x.add i) = some (.int .u8 (zs.getD i 0))) (hwz : ∀ n ∈ zs, (Lit.int .u8 n).wf = true) :
    ∃ l : List Nat, l.length = len ∧ (∀ b ∈ l, b < 256) ∧ Bs W 0 W.heap.size (.slice (some x) len cap) l := by
  have hlen : ((zs.take len).map Int.toNat).length = len := by simp; omega
  refine ⟨(zs.take len).map Int.toNat, hlen, fun b hb => ?_, some x, cap, by rw [hlen], by rw [hlen]; exact hl, hm, (fun h => by cases h), ?_⟩
  · simp only [List.mem_map] at hb
    obtain ⟨n, hn, rfl⟩ := hb
    have := u8_wf (hwz n (List.mem_of_mem_take hn))
    omega
  · by_cases h0 : len = 0
    · subst h0
      exact .inl (by simp [bv])
    · obtain ⟨b, o, spot⟩ := x
      have hc0 := hcell 0 (by omega)
      have hspot : spot = none := by simpa [Addr.add] using World.cell?_spot hc0
      subst hspot
      refine .inr ⟨b, o, rfl, Nat.zero_le _, World.block_lt_of_cell? W ((⟨b, o, none⟩ : Addr).add 0) hc0 |> fun h => by rw [addr_add] at h; exact h, fun i u hu => ?_⟩
      have hi : i < len := by
        rcases Nat.lt_or_ge i len with h | h
        · exact h
        · rw [List.getElem?_eq_none (by rw [bv_length, hlen]; exact h)] at hu; cases hu
      have hz1 : i < zs.length := by omega
      have hw := u8_wf (hwz zs[i] (List.getElem_mem hz1))
      have h2 := hcell i hz1
      rw [addr_add] at h2
      rw [h2, ← hu]
      simp [bv, List.getD, hi, List.getElem?_eq_getElem hz1]
      omega

set_option maxRecDepth 100000 in
theorem open_bytes {H : Type} {enc : TypeId × Value → H} {W : World} {v : Value} {d : DataW H} {p : List MemPlace} {b0 : Nat}
    (hv : Value.okWide Try.prog W .any b0 35 v) (h : DataW.Trod enc Try.prog W 0 (fun _ => true) true 35 v d p) :
    ∃ l : List Nat, (∀ b ∈ l, b < 256) ∧ Bs W 0 W.heap.size v l := by
  obtain ⟨a0, len0, cap0, rfl⟩ := okWide_slice Try.underlying35 hv
  obtain ⟨fuel, hf⟩ := h
  rcases open_ints Try.underlying35 Try.underlying5 (by kernel_rfl) hf with ⟨hcs, _⟩ | ⟨x, l, c, zs, hcs, _, hl, hm, hz, _, hcell, hwz⟩
  · simp [Value.cells] at hcs
    obtain ⟨rfl, rfl, rfl⟩ := hcs
    exact ⟨[], by simp, Bs.nil _ _ _⟩
  · simp [Value.cells] at hcs
    obtain ⟨rfl, rfl, rfl⟩ := hcs
    obtain ⟨l', h1, h2, h3⟩ := bs_cells hl hm (by simpa using hz) hcell hwz
    exact ⟨l', h2, h3⟩
end Go.Proofs.Ytenhfphgobalfaa

/- What holds whatever becomes of newer memory; a step of the law's, as it lies there. -/
namespace Go.Proofs.Ytenhfphgobalfaa
open Go.RowKit Go.Maps

/-- P holds, whatever becomes of the blocks from n on. -/
def Deep (n : Nat) (P : World → Prop) (u : World) : Prop := ∀ u', Chg (fun k => n ≤ k) u u' → P u'
theorem Deep.here {n : Nat} {P : World → Prop} {u : World} (h : Deep n P u) : P u := h u (Chg.refl _ _)
theorem Deep.chg {n : Nat} {P : World → Prop} {u u' : World} {S : Nat → Prop} (h : Deep n P u) (hc : Chg S u u') (hS : ∀ k, S k → n ≤ k) : Deep n P u' := fun u2 h2 => h u2 ((hc.mono fun k _ hk => hS k hk).trans h2)
theorem Lives.deep {B : Nat} {L : List Dk} {P : World → Prop} {w : World} (h : Lives B L P w) : Lives B L (Deep w.heap.size P) w := by
  obtain ⟨S, hm, hP⟩ := h
  refine ⟨S, hm, fun w' hc u' hc2 => hP u' ?_⟩
  exact hc.trans_new hc2 fun i hi hk => by omega
/-- A block of another kind than the reference's disks. -/
theorem Stab.cells {r b : Nat} {cs : Array Value} {t : TypeId} (ht : t ≠ 66) : Stab r (fun u => u.heap[b]? = some (.cells cs t (0, 0))) := fun u u' ⟨c, hb⟩ hp hc =>
  (hc.block b (Array.getElem?_eq_some_iff.1 hp).1 fun e => by
    rw [e, hb] at hp
    injection hp with hp
    injection hp with _ hp
    exact ht hp.symm).trans hp
theorem Stab.own {r B : Nat} {l : List Nat} {v : Value} : Stab r (Own B l v) := fun u u' ⟨c, hb⟩ hp hc =>
  hp.kept fun g hg => hc.block g (hp.lt hg).2 fun e => by
    obtain ⟨cur, h1⟩ := row_not hp hg
    rw [e, hb] at h1
    injection h1 with h1
    injection h1 with _ h1
    exact absurd h1 (by decide)
theorem Stab.imp {r : Nat} {P Q : World → Prop} (h : Stab r P) (e : ∀ u, P u ↔ Q u) : Stab r Q := fun u u' hb hp hc => (e u').1 (h u u' hb ((e u).2 hp) hc)

/-- A step of the law's, as it lies there. -/
structure Stp where
  kind : Int
  a : ByteArray
  b : ByteArray
  dat : List UInt8
  dA : Option Addr
  dc : Nat
  keep : List (ByteArray × Int)
  kA : Option Addr
  kc : Nat
def Stp.cells (x : Stp) : List Value := [.int .i64 x.kind, .string x.a, .string x.b, .slice x.dA x.dat.length x.dc, .slice x.kA x.keep.length x.kc]
def Stp.val (x : Stp) : Value := .agg x.cells.toArray
structure StpOk (w : World) (x : Stp) : Prop where
  a : x.a.size ≤ maxLen
  b : x.b.size ≤ maxLen
  dat : Bs w 0 w.heap.size (.slice x.dA x.dat.length x.dc) (nat8 x.dat)
  keep : Kepts w x.kA x.keep
theorem StpOk.ext {w w' : World} {x : Stp} (h : StpOk w x) (hx : Ext w w') : StpOk w' x := ⟨h.a, h.b, (h.dat.below hx (Nat.le_refl _)).wide (Nat.le_refl _) hx.size, h.keep.ext hx⟩
/-- What a step makes of the files. -/
def stepF (room : Nat) (x : Stp) (F : List Fl) : List Fl :=
  if x.kind = 1 then iff0 (appN F room x.dat.length x.a.data.toList) (app F x.a.data.toList (nat8 x.dat)) F
  else if x.kind = 2 then iff0 (seekN F x.a.data.toList) (syn F x.a.data.toList) F
  else if x.kind = 3 then iff0 (seek2 F x.a.data.toList x.b.data.toList) (ren F x.a.data.toList x.b.data.toList) F
  else if x.kind = 4 then iff0 (seekN F x.a.data.toList) (del F x.a.data.toList) F
  else if x.kind = 5 then iff0 (crashN F x.keep) (F.map (crashed x.keep)) F
  else F
/-- What the law's do answers, and what is there then. -/
def DoThen (w0 : World) (r room : Nat) (F' : List Fl) (L : List Dk) (P : World → Prop) (n : Nat) (e : Ending) (w' : World) : Prop :=
  ∃ d' r' G', e = .returned (.tuple #[.pointer (some ⟨d', 0, none⟩), .pointer (some ⟨r', 0, none⟩), .bool true]) ∧ Bo w0 d' r' room F' G' L P w' ∧ (r' = r ∨ n ≤ r')
/-- 'append(s, x...)': bytes to bytes. -/
theorem wpList_addbytes {ops : Array Oper} {rest : List Oper} {o : Oper} {a : Act} {Q : Exit → Act → World → Prop} {wr : World} (hgd : o.guard = none) (s x : Operand)
    (ho : o.op = .call { callee := .builtin .append, args := #[s, x], argTypes := #[35, 35] }) (B : Nat) (v : Value) (l : List Nat) (hs : a.eval s = v) (hown : Own B l v wr)
    (lo hi : Nat) (u : Value) (r : List Nat) (hx : a.eval x = u) (hu : Bs wr lo hi u r) (hlen : l.length + r.length ≤ 1099511627776) (hB : B ≤ wr.heap.size)
    (h : ∀ A' c' w', Own B (l ++ r) (.slice A' (l ++ r).length c') w' → (∀ w0, Below B w0 wr → Below B w0 w') → wpList Try.prog ops Q rest (a.put o.dst (.slice A' (l ++ r).length c')) w') :
    wpList Try.prog ops Q (o :: rest) a wr := by
  obtain ⟨i0, hi0, ix0, ix1, ix2⟩ := info_parts t5info
  obtain ⟨A, c, rfl, h1, h2, hnil, hby⟩ := hu
  refine wpList_addall hgd s x 35 ho B 5 i0 (.int .u8 0) 1 Try.underlying35 hi0 ix0 ix1 ix2 rfl v l.length (bv l) hs hown lo hi A r.length c (bv r) hx hnil (by rw [bv_length]) hby (bv_one r) (by unfold maxLen; omega) (by omega) hB (fun v' w' ho' hb => ?_)
  have hown' : Own B (l ++ r) v' w' := by unfold Own; rw [List.length_append, bv_append]; exact ho'
  obtain ⟨A', c', rfl⟩ := hown'.slice
  exact h A' c' w' hown' hb
theorem Own.nil (B : Nat) (w : World) : Own B [] (.slice none 0 0) w := World.ownsRow_nil _ _ _ _
end Go.Proofs.Ytenhfphgobalfaa

/- The law's much: what is known of steps that are not. -/
namespace Go.Proofs.Ytenhfphgobalfaa
open Go.RowKit Go.Maps
attribute [local go_sem] Oper.semAt_some

/-- What is kept, as it came in: how many isn't known yet. -/
structure KeptsI (w : World) (A : Option Addr) (ks : List (ByteArray × Int)) : Prop where
  ex : ks = [] ∨ ∃ b o, A = some ⟨b, o, none⟩ ∧ b < w.heap.size ∧ ∀ i s z, ks[i]? = some (s, z) → w.cell? ⟨b, o + i * 2, none⟩ = some (.string s) ∧ w.cell? ⟨b, o + i * 2 + 1, none⟩ = some (.int .i64 z)
  sz : ∀ x ∈ ks, x.1.size ≤ maxLen
  wf : ∀ x ∈ ks, -9223372036854775808 ≤ x.2 ∧ x.2 ≤ 9223372036854775807
  len : ks.length ≤ maxLen
theorem KeptsI.kepts {w : World} {A : Option Addr} {ks : List (ByteArray × Int)} (h : KeptsI w A ks) (hl : ks.length ≤ 3000) : Kepts w A ks := ⟨h.ex, h.sz, h.wf, by omega⟩
theorem KeptsI.at_ {w : World} {A : Option Addr} {ks : List (ByteArray × Int)} (h : KeptsI w A ks) {i : Nat} (hi : i < ks.length) :
    ∃ b o, A = some ⟨b, o, none⟩ ∧ b < w.heap.size ∧ w.cell? ⟨b, o + i * 2, none⟩ = some (.string ks[i].1) ∧ w.cell? ⟨b, o + i * 2 + 1, none⟩ = some (.int .i64 ks[i].2) := by
  rcases h.ex with rfl | ⟨b, o, e, hb, hc⟩
  · simp at hi
  · obtain ⟨h1, h2⟩ := hc i _ _ (List.getElem?_eq_getElem hi)
    exact ⟨b, o, e, hb, h1, h2⟩
structure StpIn (w : World) (x : Stp) : Prop where
  a : x.a.size ≤ maxLen
  b : x.b.size ≤ maxLen
  dat : Bs w 0 w.heap.size (.slice x.dA x.dat.length x.dc) (nat8 x.dat)
  keep : KeptsI w x.kA x.keep
/-- Steps, as they came in. -/
structure StpsI (w : World) (A : Option Addr) (X : List Stp) : Prop where
  at_ : ∀ (k : Nat) (hk : k < X.length), ∃ b o, A = some ⟨b, o, none⟩ ∧ b < w.heap.size ∧ ∀ (j : Nat) (q : Value), (X[k].cells)[j]? = some q → w.cell? ⟨b, o + k * 5 + j, none⟩ = some q
  each : ∀ x ∈ X, StpIn w x
/-- Steps of which more is known. -/
structure Stps (w : World) (A : Option Addr) (X : List Stp) : Prop where
  at_ : ∀ (k : Nat) (hk : k < X.length), ∃ b o, A = some ⟨b, o, none⟩ ∧ b < w.heap.size ∧ ∀ (j : Nat) (q : Value), (X[k].cells)[j]? = some q → w.cell? ⟨b, o + k * 5 + j, none⟩ = some q
  each : ∀ x ∈ X, StpOk w x
theorem Stps.ext {w w' : World} {A : Option Addr} {X : List Stp} (h : Stps w A X) (hx : Ext w w') : Stps w' A X := by
  refine ⟨fun k hk => ?_, fun x hm => (h.each x hm).ext hx⟩
  obtain ⟨b, o, h1, h2, h3⟩ := h.at_ k hk
  exact ⟨b, o, h1, Nat.lt_of_lt_of_le h2 hx.size, fun j q hq => ext_cell hx (h3 j q hq)⟩
theorem StpIn.ok {w : World} {x : Stp} (h : StpIn w x) (hl : x.keep.length ≤ 3000) : StpOk w x := ⟨h.a, h.b, h.dat, h.keep.kepts hl⟩
theorem StpsI.stps {w : World} {A : Option Addr} {X : List Stp} (h : StpsI w A X) (hl : ∀ x ∈ X, x.keep.length ≤ 3000) : Stps w A X := ⟨h.at_, fun x hx => (h.each x hx).ok (hl x hx)⟩
theorem mwrap {a b t : Nat} (h : t = a + b) (hb : t < 5000000) : IntKind.i64.wrap ((a : Int) + (b : Int)) = (t : Int) := by rw [IntKind.wrap_i64]; omega
theorem mwrap64 {a b t : Nat} (h : t = a + b) (hb : t < 5000000) : wrap64 ((a : Int) + (b : Int)) = (t : Int) := by unfold wrap64; omega
theorem mb2 {s2 md u1 u2 t3 n : Nat} (h : s2 ≤ 300000) (h1 : u1 = s2 + 100) (h2 : u2 = u1 + md) (h3 : md = min n 300001) {k : Nat} (h4 : t3 + 100 * k ≤ s2) : u1 < 5000000 ∧ u2 < 5000000 ∧ t3 + 100 * (k + 1) ≤ u2 ∧ u2 ≤ 1600000 := by omega
theorem kwrap {k n : Nat} (h : k < n) (hn : n ≤ maxLen) : wrap64 ((k : Int) + 1) = ((k + 1 : Nat) : Int) := by unfold maxLen at hn; unfold wrap64; omega
theorem kpos (k : Nat) : (0 : Int) ≤ (k : Int) := by omega
theorem klt {k n : Nat} (h : k < n) : (k : Int) < (n : Int) := by omega
theorem minI {n m x : Nat} (h : x = min n m) : min (n : Int) (m : Int) = (x : Int) := by omega
/-- What is known of steps that are not much. -/
def NotMuch (X : List Stp) (most : Nat) (z : Bool) : Prop := z = false → X.length ≤ most ∧ ∀ x ∈ X, x.dat.length ≤ 300000 ∧ x.keep.length ≤ 3000

set_option maxRecDepth 100000 in
set_option maxHeartbeats 8000000 in
theorem dmuch_any {w : World} {A : Option Addr} {c : Nat} {X : List Stp} (h : StpsI w A X) (most : Nat) (hmost : most ≤ 100) :
    Calls Try.prog 9 #[.slice A X.length c, .int .i64 (most : Int)] w fun e w' => ∃ z : Bool, NotMuch X most z ∧ e = .returned (.bool z) ∧ Ext w w' := by
  have HE := Lib.hid h
  have HMO := Lib.hid hmost
  obtain ⟨N, hN⟩ : ∃ N, N = X.length := ⟨_, rfl⟩
  have HN := Lib.hid hN
  rw [← hN]
  clear h hmost hN
  go_enter Try.func9, Try.ntmps9
  go_wp2_with fail
  go_loopw [5, 6, 7] (fun a b _ wr => ∃ s i : Nat, a = .int .i64 (s : Int) ∧ b = .int .i64 (i : Int) ∧ i ≤ N ∧ i ≤ most + 1 ∧ Hid (s ≤ 1600000) ∧ Hid (s ≤ 300000 → ∀ x ∈ X.take i, x.dat.length ≤ 300000 ∧ x.keep.length ≤ 3000) ∧ Hid (Ext w wr)) (fun _ b _ _ => most + 2 - (intOf b).toNat)
  case atStart => exact ⟨0, 0, rfl, rfl, by omega, by omega, (by unfold Hid; omega), Lib.hid (fun _ => by simp), Lib.hid (Ext.refl _)⟩
  case round =>
    obtain ⟨s, i, rfl, rfl, hm, hi, HS, HR, HX⟩ := hrel
    by_cases hend : i < N ∧ i ≤ most ∧ s ≤ 300000
    rotate_left
    · obtain ⟨z1, oz1⟩ : ∃ z, z = decide ((300000 : Int) < (s : Int)) := ⟨_, rfl⟩
      obtain ⟨z2, oz2⟩ : ∃ z, z = decide ((most : Int) < (N : Int)) := ⟨_, rfl⟩
      have hz1n : decide (300000 < s) = z1 := by rw [oz1]; exact decide_eq_decide.2 (by omega)
      have hz2n : decide (most < N) = z2 := by rw [oz2]; exact decide_eq_decide.2 (by omega)
      have hz1 := oz1.symm
      have hz2 := oz2.symm
      have HFIN : Hid (z1 = false → z2 = false → NotMuch X most false) := fun h1 h2 _ => by
        rw [h1] at oz1
        rw [h2] at oz2
        have h3 := of_decide_eq_false oz1.symm
        have h4 := of_decide_eq_false oz2.symm
        have h5 : i = N := by omega
        have h6 := HR.out (by omega)
        rw [h5, HN.out, List.take_length] at h6
        exact ⟨by rw [← HN.out]; omega, h6⟩
      have HFT : Hid (NotMuch X most true) := fun h => by cases h
      have e3 : decide ((s : Int) ≤ 300000) = !z1 := by rw [oz1, ← decide_not]; exact decide_eq_decide.2 (by omega)
      have e3n : decide (s ≤ 300000) = !z1 := by rw [oz1, ← decide_not]; exact decide_eq_decide.2 (by omega)
      obtain ⟨b1, ob1⟩ : ∃ z, z = decide ((i : Int) < (N : Int)) := ⟨_, rfl⟩
      obtain ⟨b2, ob2⟩ : ∃ z, z = decide ((i : Int) ≤ (most : Int)) := ⟨_, rfl⟩
      have hb1n : decide (i < N) = b1 := by rw [ob1]; exact decide_eq_decide.2 (by omega)
      have hb2n : decide (i ≤ most) = b2 := by rw [ob2]; exact decide_eq_decide.2 (by omega)
      have hb1 := ob1.symm
      have hb2 := ob2.symm
      have hok : (b1 && b2 && !z1) = false := by
        rw [ob1, ob2, oz1]
        simp
        omega
      clear oz1 oz2 ob1 ob2 hend hm hi
      cases b1 <;> cases b2 <;> cases z1 <;> cases z2 <;> simp only [Bool.not_true, Bool.not_false] at e3 e3n <;> (try (simp at hok; done)) <;> clear hok <;>
        (go_wp2_with fail) <;> go_ret <;> first | exact ⟨false, HFIN.out (by first | rfl | trivial) (by first | rfl | trivial), rfl, HX.out⟩ | exact ⟨true, HFT.out, rfl, HX.out⟩ | exact Or.inl ⟨HFIN.out (by first | rfl | trivial) (by first | rfl | trivial), HX.out⟩ | exact Or.inr ⟨HFT.out, HX.out⟩ | exact Or.inr ⟨HFT.out, rfl, HX.out⟩ | exact Or.inl ⟨HFIN.out (by first | rfl | trivial) (by first | rfl | trivial), rfl, HX.out⟩
    · obtain ⟨hlt, hlm, hs3⟩ := hend
      have d1 : decide ((i : Int) < (N : Int)) = true := decide_eq_true (by omega)
      have d1n : decide (i < N) = true := decide_eq_true hlt
      have d2 : decide ((i : Int) ≤ (most : Int)) = true := decide_eq_true (by omega)
      have d2n : decide (i ≤ most) = true := decide_eq_true hlm
      have d3 : decide ((s : Int) ≤ 300000) = true := decide_eq_true (by omega)
      have d3n : decide (s ≤ 300000) = true := decide_eq_true hs3
      have hiX : i < X.length := by rw [← HN.out]; exact hlt
      obtain ⟨x, hx⟩ : ∃ x, x = X[i]'hiX := ⟨_, rfl⟩
      obtain ⟨b, oo, rfl, hbl, hcells⟩ := HE.out.at_ i hiX
      have HXM : Hid (X.take (i + 1) = X.take i ++ [x]) := by rw [hx]; exact Lib.hid (List.take_succ_eq_append_getElem hiX)
      have HKP : Hid (KeptsI w x.kA x.keep) := (HE.out.each x (by rw [hx]; exact List.getElem_mem hiX)).keep
      rw [← hx] at hcells
      have c1 := ext_cell HX.out (hcells 1 _ rfl)
      have c2 := ext_cell HX.out (hcells 2 _ rfl)
      have c3 := ext_cell HX.out (hcells 3 _ rfl)
      have HC4 := Lib.hid (hcells 4 _ rfl)
      have n1 : (0 : Int) ≤ (i : Int) := by omega
      have n2 : (i : Int) < (N : Int) := by omega
      obtain ⟨ma, hma⟩ : ∃ m, m = min x.dat.length 300001 := ⟨_, rfl⟩
      obtain ⟨mb, hmb⟩ : ∃ m, m = min x.a.size 300001 := ⟨_, rfl⟩
      obtain ⟨mc, hmc⟩ : ∃ m, m = min x.b.size 300001 := ⟨_, rfl⟩
      have HMA : Hid (min (x.dat.length : Int) 300001 = (ma : Int)) := minI hma
      have HMB : Hid (min (x.a.size : Int) 300001 = (mb : Int)) := minI hmb
      have HMC : Hid (min (x.b.size : Int) 300001 = (mc : Int)) := minI hmc
      obtain ⟨t1, ht1⟩ : ∃ t, t = s + ma := ⟨_, rfl⟩
      obtain ⟨t2, ht2⟩ : ∃ t, t = t1 + mb := ⟨_, rfl⟩
      obtain ⟨t3, ht3⟩ : ∃ t, t = t2 + mc := ⟨_, rfl⟩
      have HW1 : Hid (IntKind.i64.wrap ((s : Int) + (ma : Int)) = (t1 : Int)) := mwrap ht1 (by omega)
      have HW2 : Hid (IntKind.i64.wrap ((t1 : Int) + (mb : Int)) = (t2 : Int)) := mwrap ht2 (by omega)
      have HW3 : Hid (IntKind.i64.wrap ((t2 : Int) + (mc : Int)) = (t3 : Int)) := mwrap ht3 (by omega)
      have HT : Hid (t3 ≤ 1200003 ∧ (t3 ≤ 300000 → x.dat.length ≤ 300000)) := ⟨by omega, fun h => by omega⟩
      have HII := Lib.hid (And.intro hlt (And.intro hlm hs3))
      clear hma hmb hmc ht1 ht2 ht3 hx hbl hcells hiX hs3 hlt hlm hm hi
      go_upto_region 5 with (fail)
      refine flow (by kernel_rfl) [Is (.int .i64 (s : Int)), Is (.slice (some ⟨b, oo, none⟩) N c), Is (.int .i64 (i : Int)), Is (.pointer (some ⟨b, oo + i * 5, none⟩)), Is (.pointer (some ⟨b, oo + i * 5 + 3, none⟩)), Is (.slice x.dA x.dat.length x.dc), Is (.int .i64 (x.dat.length : Int)), Is (.int .i64 (ma : Int)), Is (.int .i64 (t1 : Int)), Is (.slice (some ⟨b, oo, none⟩) N c), Is (.int .i64 (i : Int)), Is (.pointer (some ⟨b, oo + i * 5, none⟩)), Is (.pointer (some ⟨b, oo + i * 5 + 1, none⟩)), Is (.string x.a), Is (.int .i64 (x.a.size : Int)), Is (.int .i64 (mb : Int)), Is (.int .i64 (t2 : Int)), Is (.slice (some ⟨b, oo, none⟩) N c), Is (.int .i64 (i : Int)), Is (.pointer (some ⟨b, oo + i * 5, none⟩)), Is (.pointer (some ⟨b, oo + i * 5 + 2, none⟩)), Is (.string x.b), Is (.int .i64 (x.b.size : Int)), Is (.int .i64 (mc : Int)), Is (.int .i64 (t3 : Int)), Is (.int .i64 (t3 : Int))] (by kernel_rfl) (by kernel_rfl) ?mono (fun f1 => ?obl) ?fin
      case mono =>
        simp only [List.forall_mem_cons, List.not_mem_nil, false_imp_iff, implies_true, and_true]
        exact ⟨.is _, .is _, .is _, .is _, .is _, .is _, .is _, .is _, .is _, .is _, .is _, .is _, .is _, .is _, .is _, .is _, .is _, .is _, .is _, .is _, .is _, .is _, .is _, .is _, .is _, .is _⟩
      case fin =>
        intro g1 u hu hg
        simp only [puts, Act.put, List.setIfInBounds_toArray, List.set_cons_zero, List.set_cons_succ]
        have e25 : g1 25 = .int .i64 (t3 : Int) := hg 25 (by decide)
        rw [e25]
        have HXU : Hid (Ext w u) := Ext.trans HX.out (Ext.trans (Ext.drew wr) hu)
        clear e25 hg hu c1 c2 c3 d1 d1n d2 d2n d3 d3n
        go_wp2_with fail
        go_loopw [5, 7] (fun a b wr2 => ∃ s2 k : Nat, a = .int .i64 (s2 : Int) ∧ b = .int .i64 (k : Int) ∧ k ≤ x.keep.length ∧ Hid (t3 + 100 * k ≤ s2 ∧ s2 ≤ 1600000) ∧ Hid (Ext w wr2)) (fun _ b _ => x.keep.length - (intOf b).toNat)
        case atStart => exact ⟨t3, 0, rfl, rfl, Nat.zero_le _, Lib.hid ⟨by omega, by have := HT.out; omega⟩, HXU⟩
        case round =>
          obtain ⟨s2, k, rfl, rfl, hk, HS2, HX2⟩ := hrel
          have c4 := ext_cell HX2.out HC4.out
          by_cases hk2 : k < x.keep.length
          rotate_left
          · have f1 : decide ((k : Int) < (x.keep.length : Int)) = false := decide_eq_false (by omega)
            have f1n : decide (k < x.keep.length) = false := decide_eq_false hk2
            have hw : wrap64 ((i : Int) + 1) = ((i + 1 : Nat) : Int) := by have := HII.out; have := HMO.out; unfold wrap64; omega
            obtain ⟨i2, hi2⟩ : ∃ i2, i2 = i + 1 := ⟨_, rfl⟩
            rw [← hi2] at hw
            have HI2 := Lib.hid hi2
            have HKL : Hid (x.keep.length = k) := by unfold Hid; omega
            clear hi2 hk hk2
            go_wp2_with fail
            go_roundw
            case rel => exact ⟨s2, i2, rfl, by rw [hw], by have := HII.out; have := HI2.out; omega, by have := HII.out; have := HI2.out; omega, HS2.out.2, Lib.hid (fun h => by rw [HI2.out, HXM.out]; intro q hq; rcases List.mem_append.1 hq with hq | hq; exact HR.out HII.out.2.2 q hq; rw [List.mem_singleton.1 hq]; exact ⟨HT.out.2 (by have := HS2.out.1; omega), by have := HS2.out.1; have := HKL.out; omega⟩), HX2⟩
            case measure => rw [hw]; have := HII.out; have := HI2.out; simp [intOf]; omega
          · have f1 : decide ((k : Int) < (x.keep.length : Int)) = true := decide_eq_true (by omega)
            have f1n : decide (k < x.keep.length) = true := decide_eq_true hk2
            by_cases hs2 : s2 ≤ 300000
            rotate_left
            · have f2 : decide ((s2 : Int) ≤ 300000) = false := decide_eq_false (by omega)
              have f2n : decide (s2 ≤ 300000) = false := decide_eq_false hs2
              have hw : wrap64 ((i : Int) + 1) = ((i + 1 : Nat) : Int) := by have := HII.out; have := HMO.out; unfold wrap64; omega
              obtain ⟨i2, hi2⟩ : ∃ i2, i2 = i + 1 := ⟨_, rfl⟩
              rw [← hi2] at hw
              have HI2 := Lib.hid hi2
              have HS3 := Lib.hid hs2
              clear hi2 hk hk2 hs2
              go_wp2_with fail
              go_roundw
              case rel => exact ⟨s2, i2, rfl, by rw [hw], by have := HII.out; have := HI2.out; omega, by have := HII.out; have := HI2.out; omega, HS2.out.2, Lib.hid (fun h => absurd h HS3.out), HX2⟩
              case measure => rw [hw]; have := HII.out; have := HI2.out; simp [intOf]; omega
            · have f2 : decide ((s2 : Int) ≤ 300000) = true := decide_eq_true (by omega)
              have f2n : decide (s2 ≤ 300000) = true := decide_eq_true hs2
              obtain ⟨kb, ko, hkA, hkl, hkc, hkz⟩ := HKP.out.at_ hk2
              have HKA := Lib.hid hkA
              rw [hkA] at c4
              have k0 := ext_cell HX2.out hkc
              obtain ⟨nm, hnm⟩ : ∃ nm, nm = (x.keep[k]'hk2).1 := ⟨_, rfl⟩
              rw [← hnm] at k0
              obtain ⟨md, hmd⟩ : ∃ m, m = min nm.size 300001 := ⟨_, rfl⟩
              have hmd2 : min (nm.size : Int) 300001 = (md : Int) := minI hmd
              obtain ⟨u1, hu1⟩ : ∃ t, t = s2 + 100 := ⟨_, rfl⟩
              obtain ⟨u2, hu2⟩ : ∃ t, t = u1 + md := ⟨_, rfl⟩
              have hbb := mb2 hs2 hu1 hu2 hmd HS2.out.1
              have w1 : wrap64 ((s2 : Int) + 100) = (u1 : Int) := mwrap64 hu1 hbb.1
              have w2 : wrap64 ((u1 : Int) + (md : Int)) = (u2 : Int) := mwrap64 hu2 hbb.2.1
              have w3 : wrap64 ((k : Int) + 1) = ((k + 1 : Nat) : Int) := kwrap hk2 HKP.out.len
              obtain ⟨k9, hk9⟩ : ∃ k9, k9 = k + 1 := ⟨_, rfl⟩
              rw [← hk9] at w3
              have HU : Hid (t3 + 100 * (k + 1) ≤ u2 ∧ u2 ≤ 1600000) := hbb.2.2
              have HK9 : Hid (k9 = k + 1 ∧ k < x.keep.length) := ⟨hk9, hk2⟩
              have m1 : (0 : Int) ≤ (k : Int) := kpos k
              have m2 : (k : Int) < (x.keep.length : Int) := klt hk2
              clear hkz hkl hkc hbb hnm hk hk2 hs2 hkA hmd hu1 hu2 hk9
              go_wp2_with fail
              go_roundw
              case rel => exact ⟨u2, k9, by first | rfl | rw [w2] | rw [w1, w2], by rw [w3], by have := HK9.out; omega, by rw [HK9.out.1]; exact HU, HX2⟩
              case measure => rw [w3]; have := HK9.out; simp [intOf]; omega
      case obl =>
        refine ⟨fun u hu hd => ?_, ?_⟩
        · go_simp
          exact ⟨Ext.refl _, rfl⟩
        refine ⟨fun u hu hd => ?_, ?_⟩
        · simp only [Act.put, List.setIfInBounds_toArray, List.set_cons_zero, List.set_cons_succ]
          go_simp
          exact ⟨Ext.refl _, rfl⟩
        refine ⟨fun u hu hd => ?_, ?_⟩
        · simp only [Act.put, List.setIfInBounds_toArray, List.set_cons_zero, List.set_cons_succ]
          go_simp
          exact ⟨Ext.refl _, rfl⟩
        refine ⟨fun u hu hd => ?_, ?_⟩
        · simp only [Act.put, List.setIfInBounds_toArray, List.set_cons_zero, List.set_cons_succ]
          have e1 : f1 1 = .slice (some ⟨b, oo, none⟩) N c := hd 1 (by kernel_rfl)
          have e2 : f1 2 = .int .i64 (i : Int) := hd 2 (by kernel_rfl)
          go_simp
          exact ⟨Ext.refl _, rfl⟩
        refine ⟨fun u hu hd => ?_, ?_⟩
        · simp only [Act.put, List.setIfInBounds_toArray, List.set_cons_zero, List.set_cons_succ]
          have e3 : f1 3 = .pointer (some ⟨b, oo + i * 5, none⟩) := hd 3 (by kernel_rfl)
          go_simp
          exact ⟨Ext.refl _, rfl⟩
        refine ⟨fun u hu hd => ?_, ?_⟩
        · simp only [Act.put, List.setIfInBounds_toArray, List.set_cons_zero, List.set_cons_succ]
          have e4 : f1 4 = .pointer (some ⟨b, oo + i * 5 + 3, none⟩) := hd 4 (by kernel_rfl)
          have hu2 := Ext.trans (Ext.drew wr) hu
          have q0 := ext_cell hu2 c3
          go_simp
          exact ⟨Ext.refl _, rfl⟩
        refine ⟨fun u hu hd => ?_, ?_⟩
        · simp only [Act.put, List.setIfInBounds_toArray, List.set_cons_zero, List.set_cons_succ]
          have e5 : f1 5 = .slice x.dA x.dat.length x.dc := hd 5 (by kernel_rfl)
          go_simp
          exact ⟨Ext.refl _, rfl⟩
        refine ⟨fun u hu hd => ?_, ?_⟩
        · simp only [Act.put, List.setIfInBounds_toArray, List.set_cons_zero, List.set_cons_succ]
          have e6 : f1 6 = .int .i64 (x.dat.length : Int) := hd 6 (by kernel_rfl)
          have q9 := HMA.out
          clear hd
          go_simp
          exact ⟨Ext.refl _, rfl⟩
        refine ⟨fun u hu hd => ?_, ?_⟩
        · simp only [Act.put, List.setIfInBounds_toArray, List.set_cons_zero, List.set_cons_succ]
          have e0 : f1 0 = .int .i64 (s : Int) := hd 0 (by kernel_rfl)
          have e7 : f1 7 = .int .i64 (ma : Int) := hd 7 (by kernel_rfl)
          have q9 := HW1.out
          clear hd
          go_simp
          exact ⟨Ext.refl _, rfl⟩
        refine ⟨fun u hu hd => ?_, ?_⟩
        · simp only [Act.put, List.setIfInBounds_toArray, List.set_cons_zero, List.set_cons_succ]
          go_simp
          exact ⟨Ext.refl _, rfl⟩
        refine ⟨fun u hu hd => ?_, ?_⟩
        · simp only [Act.put, List.setIfInBounds_toArray, List.set_cons_zero, List.set_cons_succ]
          go_simp
          exact ⟨Ext.refl _, rfl⟩
        refine ⟨fun u hu hd => ?_, ?_⟩
        · simp only [Act.put, List.setIfInBounds_toArray, List.set_cons_zero, List.set_cons_succ]
          have e9 : f1 9 = .slice (some ⟨b, oo, none⟩) N c := hd 9 (by kernel_rfl)
          have e10 : f1 10 = .int .i64 (i : Int) := hd 10 (by kernel_rfl)
          go_simp
          exact ⟨Ext.refl _, rfl⟩
        refine ⟨fun u hu hd => ?_, ?_⟩
        · simp only [Act.put, List.setIfInBounds_toArray, List.set_cons_zero, List.set_cons_succ]
          have e11 : f1 11 = .pointer (some ⟨b, oo + i * 5, none⟩) := hd 11 (by kernel_rfl)
          go_simp
          exact ⟨Ext.refl _, rfl⟩
        refine ⟨fun u hu hd => ?_, ?_⟩
        · simp only [Act.put, List.setIfInBounds_toArray, List.set_cons_zero, List.set_cons_succ]
          have e12 : f1 12 = .pointer (some ⟨b, oo + i * 5 + 1, none⟩) := hd 12 (by kernel_rfl)
          have hu2 := Ext.trans (Ext.drew wr) hu
          have q0 := ext_cell hu2 c1
          go_simp
          exact ⟨Ext.refl _, rfl⟩
        refine ⟨fun u hu hd => ?_, ?_⟩
        · simp only [Act.put, List.setIfInBounds_toArray, List.set_cons_zero, List.set_cons_succ]
          have e13 : f1 13 = .string x.a := hd 13 (by kernel_rfl)
          clear hd
          go_simp
          exact ⟨Ext.refl _, rfl⟩
        refine ⟨fun u hu hd => ?_, ?_⟩
        · simp only [Act.put, List.setIfInBounds_toArray, List.set_cons_zero, List.set_cons_succ]
          have e14 : f1 14 = .int .i64 (x.a.size : Int) := hd 14 (by kernel_rfl)
          have q9 := HMB.out
          clear hd
          go_simp
          exact ⟨Ext.refl _, rfl⟩
        refine ⟨fun u hu hd => ?_, ?_⟩
        · simp only [Act.put, List.setIfInBounds_toArray, List.set_cons_zero, List.set_cons_succ]
          have e8 : f1 8 = .int .i64 (t1 : Int) := hd 8 (by kernel_rfl)
          have e15 : f1 15 = .int .i64 (mb : Int) := hd 15 (by kernel_rfl)
          have q9 := HW2.out
          clear hd
          go_simp
          exact ⟨Ext.refl _, rfl⟩
        refine ⟨fun u hu hd => ?_, ?_⟩
        · simp only [Act.put, List.setIfInBounds_toArray, List.set_cons_zero, List.set_cons_succ]
          go_simp
          exact ⟨Ext.refl _, rfl⟩
        refine ⟨fun u hu hd => ?_, ?_⟩
        · simp only [Act.put, List.setIfInBounds_toArray, List.set_cons_zero, List.set_cons_succ]
          go_simp
          exact ⟨Ext.refl _, rfl⟩
        refine ⟨fun u hu hd => ?_, ?_⟩
        · simp only [Act.put, List.setIfInBounds_toArray, List.set_cons_zero, List.set_cons_succ]
          have e17 : f1 17 = .slice (some ⟨b, oo, none⟩) N c := hd 17 (by kernel_rfl)
          have e18 : f1 18 = .int .i64 (i : Int) := hd 18 (by kernel_rfl)
          go_simp
          exact ⟨Ext.refl _, rfl⟩
        refine ⟨fun u hu hd => ?_, ?_⟩
        · simp only [Act.put, List.setIfInBounds_toArray, List.set_cons_zero, List.set_cons_succ]
          have e19 : f1 19 = .pointer (some ⟨b, oo + i * 5, none⟩) := hd 19 (by kernel_rfl)
          go_simp
          exact ⟨Ext.refl _, rfl⟩
        refine ⟨fun u hu hd => ?_, ?_⟩
        · simp only [Act.put, List.setIfInBounds_toArray, List.set_cons_zero, List.set_cons_succ]
          have e20 : f1 20 = .pointer (some ⟨b, oo + i * 5 + 2, none⟩) := hd 20 (by kernel_rfl)
          have hu2 := Ext.trans (Ext.drew wr) hu
          have q0 := ext_cell hu2 c2
          go_simp
          exact ⟨Ext.refl _, rfl⟩
        refine ⟨fun u hu hd => ?_, ?_⟩
        · simp only [Act.put, List.setIfInBounds_toArray, List.set_cons_zero, List.set_cons_succ]
          have e21 : f1 21 = .string x.b := hd 21 (by kernel_rfl)
          clear hd
          go_simp
          exact ⟨Ext.refl _, rfl⟩
        refine ⟨fun u hu hd => ?_, ?_⟩
        · simp only [Act.put, List.setIfInBounds_toArray, List.set_cons_zero, List.set_cons_succ]
          have e22 : f1 22 = .int .i64 (x.b.size : Int) := hd 22 (by kernel_rfl)
          have q9 := HMC.out
          clear hd
          go_simp
          exact ⟨Ext.refl _, rfl⟩
        refine ⟨fun u hu hd => ?_, ?_⟩
        · simp only [Act.put, List.setIfInBounds_toArray, List.set_cons_zero, List.set_cons_succ]
          have e16 : f1 16 = .int .i64 (t2 : Int) := hd 16 (by kernel_rfl)
          have e23 : f1 23 = .int .i64 (mc : Int) := hd 23 (by kernel_rfl)
          have q9 := HW3.out
          clear hd
          go_simp
          exact ⟨Ext.refl _, rfl⟩
        refine ⟨fun u hu hd => ?_, ?_⟩
        · simp only [Act.put, List.setIfInBounds_toArray, List.set_cons_zero, List.set_cons_succ]
          have e24 : f1 24 = .int .i64 (t3 : Int) := hd 24 (by kernel_rfl)
          go_simp
          exact ⟨Ext.refl _, rfl⟩
        trivial
end Go.Proofs.Ytenhfphgobalfaa

/- Names, steps and pairs of numbers that came in, opened. -/
namespace Go.Proofs.Ytenhfphgobalfaa
open Go.ChangeShapes Go.WideShapes Go.ChangeAt Go.RowKit Go.Joins

section
variable {H : Type} {enc : TypeId × Value → H} {W : World}

theorem list_nat8 {l : List Nat} (h : ∀ b ∈ l, b < 256) : ∃ d : List UInt8, nat8 d = l := by
  refine ⟨l.map UInt8.ofNat, ?_⟩
  unfold nat8
  rw [List.map_map]
  conv => rhs; rw [← List.map_id l]
  refine List.map_congr_left fun b hb => ?_
  have := h b hb
  simp
  omega

set_option maxRecDepth 100000 in
/-- A field of bytes. -/
theorem cell_dat {fuel : Nat} {cs : List Value} {y : DataW H × List MemPlace} (h : DataW.trod enc Try.prog W 0 (fun _ => true) true fuel 35 cs = some y) :
    ∃ (A : Option Addr) (c : Nat) (d : List UInt8), cs = [.slice A d.length c] ∧ Bs W 0 W.heap.size (.slice A d.length c) (nat8 d) := by
  rcases open_ints Try.underlying35 Try.underlying5 (by kernel_rfl) h with ⟨hcs, _⟩ | ⟨x, l, c, zs, hcs, _, hl, hm, hz, _, hcell, hwz⟩
  · exact ⟨none, 0, [], hcs, Bs.nil _ _ _⟩
  · obtain ⟨l', h1, h2, h3⟩ := bs_cells hl hm (by simpa using hz) hcell hwz
    obtain ⟨d, rfl⟩ := list_nat8 h2
    rw [nat8_len] at h1
    subst h1
    exact ⟨some x, c, d, hcs, h3⟩

set_option maxRecDepth 100000 in
/-- One that is kept. -/
theorem cells_kept {fuel : Nat} {cs : List Value} {y : DataW H × List MemPlace} (h : DataW.trod enc Try.prog W 0 (fun _ => true) true fuel 47 cs = some y) :
    ∃ (s : ByteArray) (z : Int), cs = [.string s, .int .i64 z] ∧ s.size ≤ maxLen ∧ -9223372036854775808 ≤ z ∧ z ≤ 9223372036854775807 := by
  obtain ⟨xs, n, _, hx, hl, hlen, hfl⟩ := DataW.trod_struct Try.underlying47 h
  obtain ⟨y0, y1, rfl⟩ : ∃ y0 y1, xs = [y0, y1] := by
    match xs, hlen with
    | [y0, y1], _ => exact ⟨y0, y1, rfl⟩
  have h0 : DataW.trod enc Try.prog W 0 (fun _ => true) true n 9 ((cs.drop 0).take (Try.prog.cellsOf 9)) = some y0 := hfl 0 _ rfl
  have h1 : DataW.trod enc Try.prog W 0 (fun _ => true) true n 3 ((cs.drop 1).take (Try.prog.cellsOf 3)) = some y1 := hfl 1 _ rfl
  have hC : Try.prog.cellsOf 47 = 2 := by kernel_rfl
  have hC0 : Try.prog.cellsOf 9 = 1 := by kernel_rfl
  have hC1 : Try.prog.cellsOf 3 = 1 := by kernel_rfl
  rw [hC] at hl
  obtain ⟨a, b, rfl⟩ : ∃ a b, cs = [a, b] := by
    match cs, hl with
    | [a, b], _ => exact ⟨a, b, rfl⟩
  simp only [hC0, hC1, List.drop_zero, List.take_succ_cons, List.take_zero, List.drop_succ_cons] at h0 h1
  obtain ⟨s, e0, _, hs⟩ := DataW.trod_string Try.underlying9 h0
  obtain ⟨z, e1, _, wz⟩ := DataW.trod_int Try.underlying3 h1
  injection e0 with e0
  injection e1 with e1
  subst e0 e1
  exact ⟨s, z, rfl, hs, i64_wf wz⟩

set_option maxRecDepth 100000 in
/-- A field that is a row of what is kept. -/
theorem cells_kepts {fuel : Nat} {cs : List Value} {y : DataW H × List MemPlace} (h : DataW.trod enc Try.prog W 0 (fun _ => true) true fuel 36 cs = some y) :
    ∃ (A : Option Addr) (c : Nat) (ks : List (ByteArray × Int)), cs = [.slice A ks.length c] ∧ KeptsI W A ks := by
  have hC : Try.prog.cellsOf 47 = 2 := by kernel_rfl
  rcases Go.Deep.open_slice Try.underlying36 h with ⟨hcs, _⟩ | ⟨a, len0, cap0, m, n, D, Pl, hcs, _, hl, hm, hmm, hdd, hx⟩
  · exact ⟨none, 0, [], hcs, .inl rfl, by simp, by simp, by simp⟩
  · have hmc : m = cap0 := by rw [hmm]; simp
    have each : ∀ i : Nat, ∃ t : ByteArray × Int, i < len0 → (W.cell? ((a.add (i * 2)).add 0) = some (.string t.1) ∧ W.cell? ((a.add (i * 2)).add 1) = some (.int .i64 t.2)) ∧ t.1.size ≤ maxLen ∧ -9223372036854775808 ≤ t.2 ∧ t.2 ≤ 9223372036854775807 := by
      intro i
      by_cases hi : i < len0
      · obtain ⟨cs', hc', ht'⟩ := hx i (by omega)
        rw [hC] at hc'
        obtain ⟨_, hcl, hat⟩ := World.cells?_some hc'
        obtain ⟨s, z, hcc, hs, hz⟩ := cells_kept ht'
        exact ⟨(s, z), fun _ => ⟨⟨by rw [hat 0 (by omega), hcc]; rfl, by rw [hat 1 (by omega), hcc]; rfl⟩, hs, hz⟩⟩
      · exact ⟨(⟨#[]⟩, 0), fun h => absurd h hi⟩
    obtain ⟨F, hF⟩ := Classical.axiomOfChoice each
    have hg : ∀ i s z, ((List.range len0).map F)[i]? = some (s, z) → i < len0 ∧ F i = (s, z) := fun i s z hi => by
      rw [List.getElem?_map] at hi
      by_cases h : i < len0
      · rw [List.getElem?_range h] at hi
        simp at hi
        exact ⟨h, hi⟩
      · rw [List.getElem?_eq_none (by simpa using h)] at hi
        simp at hi
    refine ⟨some a, cap0, (List.range len0).map F, by rw [hcs]; simp, ?_, fun x hx => ?_, fun x hx => ?_, by simp; unfold maxLen at *; omega⟩
    · by_cases h0 : len0 = 0
      · subst h0; exact .inl (by simp)
      · obtain ⟨b, o, sp⟩ := a
        have hc0 := (hF 0 (by omega)).1.1
        have hs : sp = none := by
          have := World.cell?_spot hc0
          simpa [Addr.add] using this
        subst hs
        refine .inr ⟨b, o, rfl, ?_, fun i s z hi => ?_⟩
        · have := World.block_lt_of_cell? W _ hc0
          simpa [Addr.add] using this
        · obtain ⟨h1, h2⟩ := hg i s z hi
          have h3 := (hF i h1).1
          rw [h2] at h3
          simp only [addr_add] at h3
          exact ⟨by simpa using h3.1, h3.2⟩
    · obtain ⟨i, hi, rfl⟩ := List.mem_map.1 hx
      exact (hF i (List.mem_range.1 hi)).2.1
    · obtain ⟨i, hi, rfl⟩ := List.mem_map.1 hx
      exact (hF i (List.mem_range.1 hi)).2.2

set_option maxRecDepth 100000 in
/-- A step. -/
theorem cells_step {fuel : Nat} {cs : List Value} {y : DataW H × List MemPlace} (h : DataW.trod enc Try.prog W 0 (fun _ => true) true fuel 38 cs = some y) : ∃ x : Stp, cs = x.cells ∧ StpIn W x := by
  obtain ⟨xs, n, _, hx, hl, hlen, hfl⟩ := DataW.trod_struct Try.underlying38 h
  obtain ⟨y0, y1, y2, y3, y4, rfl⟩ : ∃ y0 y1 y2 y3 y4, xs = [y0, y1, y2, y3, y4] := by
    match xs, hlen with
    | [y0, y1, y2, y3, y4], _ => exact ⟨y0, y1, y2, y3, y4, rfl⟩
  have h0 : DataW.trod enc Try.prog W 0 (fun _ => true) true n 3 ((cs.drop 0).take (Try.prog.cellsOf 3)) = some y0 := hfl 0 _ rfl
  have h1 : DataW.trod enc Try.prog W 0 (fun _ => true) true n 9 ((cs.drop 1).take (Try.prog.cellsOf 9)) = some y1 := hfl 1 _ rfl
  have h2 : DataW.trod enc Try.prog W 0 (fun _ => true) true n 9 ((cs.drop 2).take (Try.prog.cellsOf 9)) = some y2 := hfl 2 _ rfl
  have h3 : DataW.trod enc Try.prog W 0 (fun _ => true) true n 35 ((cs.drop 3).take (Try.prog.cellsOf 35)) = some y3 := hfl 3 _ rfl
  have h4 : DataW.trod enc Try.prog W 0 (fun _ => true) true n 36 ((cs.drop 4).take (Try.prog.cellsOf 36)) = some y4 := hfl 4 _ rfl
  have hC : Try.prog.cellsOf 38 = 5 := by kernel_rfl
  have hC0 : Try.prog.cellsOf 9 = 1 := by kernel_rfl
  have hC1 : Try.prog.cellsOf 3 = 1 := by kernel_rfl
  have hC2 : Try.prog.cellsOf 35 = 1 := by kernel_rfl
  have hC3 : Try.prog.cellsOf 36 = 1 := by kernel_rfl
  rw [hC] at hl
  obtain ⟨a, b, c, d, e, rfl⟩ : ∃ a b c d e, cs = [a, b, c, d, e] := by
    match cs, hl with
    | [a, b, c, d, e], _ => exact ⟨a, b, c, d, e, rfl⟩
  simp only [hC0, hC1, hC2, hC3, List.drop_zero, List.take_succ_cons, List.take_zero, List.drop_succ_cons] at h0 h1 h2 h3 h4
  obtain ⟨k, e0, _, wk⟩ := DataW.trod_int Try.underlying3 h0
  obtain ⟨s, e1, _, hs⟩ := DataW.trod_string Try.underlying9 h1
  obtain ⟨t, e2, _, ht⟩ := DataW.trod_string Try.underlying9 h2
  obtain ⟨dA, dc, dd, e3, hd⟩ := cell_dat h3
  obtain ⟨kA, kc, ks, e4, hk⟩ := cells_kepts h4
  injection e0 with e0
  injection e1 with e1
  injection e2 with e2
  injection e3 with e3
  injection e4 with e4
  subst e0 e1 e2 e3 e4
  exact ⟨⟨k, s, t, dd, dA, dc, ks, kA, kc⟩, rfl, hs, ht, hd, hk⟩

set_option maxRecDepth 100000 in
/-- A step that came in, by value. -/
theorem open_step {v : Value} {d : DataW H} {p : List MemPlace} {b0 : Nat} (hv : Value.okWide Try.prog W .any b0 38 v) (h : DataW.Trod enc Try.prog W 0 (fun _ => true) true 38 v d p) : ∃ x : Stp, v = x.val ∧ StpIn W x := by
  obtain ⟨cs, rfl, hs⟩ := okWide_struct Try.underlying38 hv
  obtain ⟨fuel, hf⟩ := h
  obtain ⟨x, hc, hm⟩ := cells_step hf
  refine ⟨x, ?_, hm⟩
  have hcs : cs.toList = x.cells := by simpa [Value.cells] using hc
  unfold Stp.val
  rw [← hcs]

set_option maxRecDepth 100000 in
/-- Steps that came in. -/
theorem open_steps {v : Value} {d : DataW H} {p : List MemPlace} {b0 : Nat} (hv : Value.okWide Try.prog W .any b0 22 v) (h : DataW.Trod enc Try.prog W 0 (fun _ => true) true 22 v d p) :
    ∃ (A : Option Addr) (c : Nat) (X : List Stp), v = .slice A X.length c ∧ StpsI W A X := by
  obtain ⟨a0, len0, cap0, rfl⟩ := okWide_slice Try.underlying22 hv
  obtain ⟨fuel, hf⟩ := h
  have hC : Try.prog.cellsOf 38 = 5 := by kernel_rfl
  rcases Go.Deep.open_slice Try.underlying22 hf with ⟨hcs, _⟩ | ⟨a, len, cap, m, n, D, Pl, hcs, _, hl, hm, hmm, hdd, hx⟩
  · simp [Value.cells] at hcs
    obtain ⟨rfl, rfl, rfl⟩ := hcs
    exact ⟨none, 0, [], rfl, fun k hk => by simp at hk, by simp⟩
  · simp [Value.cells] at hcs
    obtain ⟨rfl, rfl, rfl⟩ := hcs
    have each : ∀ i : Nat, ∃ x : Stp, i < len0 → (∀ (j : Nat) (q : Value), j < 5 → x.cells[j]? = some q → W.cell? ((a.add (i * 5)).add j) = some q) ∧ StpIn W x := by
      intro i
      by_cases hi : i < len0
      · obtain ⟨cs', hc', ht'⟩ := hx i (by have : m = cap0 := by rw [hmm]; simp
                                           omega)
        rw [hC] at hc'
        obtain ⟨_, hcl, hat⟩ := World.cells?_some hc'
        obtain ⟨x, hcc, hin⟩ := cells_step ht'
        exact ⟨x, fun _ => ⟨fun j q hj hq => by rw [hat j hj, hcc]; exact hq, hin⟩⟩
      · exact ⟨⟨0, ⟨#[]⟩, ⟨#[]⟩, [], none, 0, [], none, 0⟩, fun h => absurd h hi⟩
    obtain ⟨F, hF⟩ := Classical.axiomOfChoice each
    have hL : ((List.range len0).map F).length = len0 := by simp
    refine ⟨some a, cap0, (List.range len0).map F, by rw [hL], fun k hk => ?_, fun x hx => ?_⟩
    · rw [hL] at hk
      obtain ⟨b, o, sp⟩ := a
      have hc0 := (hF 0 (by omega)).1 0 _ (by decide) rfl
      have hs : sp = none := by
        have := World.cell?_spot hc0
        simpa [Addr.add] using this
      subst hs
      refine ⟨b, o, rfl, ?_, fun j q hq => ?_⟩
      · have := World.block_lt_of_cell? W _ hc0
        simpa [Addr.add] using this
      · simp only [List.getElem_map, List.getElem_range] at hq
        have hj : j < 5 := (List.getElem?_eq_some_iff.1 hq).1
        have h3 := (hF k hk).1 j q hj hq
        simpa only [addr_add] using h3
    · obtain ⟨i, hi, rfl⟩ := List.mem_map.1 hx
      exact (hF i (List.mem_range.1 hi)).2

set_option maxRecDepth 100000 in
/-- Names that came in. -/
theorem open_names {v : Value} {d : DataW H} {p : List MemPlace} {b0 : Nat} (hv : Value.okWide Try.prog W .any b0 73 v) (h : DataW.Trod enc Try.prog W 0 (fun _ => true) true 73 v d p) :
    ∃ (A : Option Addr) (c : Nat) (ns : List ByteArray), v = .slice A ns.length c ∧ Sl W 0 W.heap.size A (ns.map Value.string) ∧ (∀ s ∈ ns, s.size ≤ maxLen) ∧ ns.length ≤ maxLen := by
  obtain ⟨a0, len0, cap0, rfl⟩ := okWide_slice Try.underlying73 hv
  obtain ⟨fuel, hf⟩ := h
  have hC : Try.prog.cellsOf 9 = 1 := by kernel_rfl
  rcases Go.Deep.open_slice Try.underlying73 hf with ⟨hcs, _⟩ | ⟨a, len, cap, m, n, D, Pl, hcs, _, hl, hm, hmm, hdd, hx⟩
  · simp [Value.cells] at hcs
    obtain ⟨rfl, rfl, rfl⟩ := hcs
    exact ⟨none, 0, [], rfl, Sl.nil _ _ _ _, by simp, by simp⟩
  · simp [Value.cells] at hcs
    obtain ⟨rfl, rfl, rfl⟩ := hcs
    have each : ∀ i : Nat, ∃ s : ByteArray, i < len0 → W.cell? ((a.add (i * 1)).add 0) = some (.string s) ∧ s.size ≤ maxLen := by
      intro i
      by_cases hi : i < len0
      · obtain ⟨cs', hc', ht'⟩ := hx i (by have : m = cap0 := by rw [hmm]; simp
                                           omega)
        rw [hC] at hc'
        obtain ⟨_, hcl, hat⟩ := World.cells?_some hc'
        obtain ⟨s, hcc, _, hs⟩ := DataW.trod_string Try.underlying9 ht'
        exact ⟨s, fun _ => ⟨by rw [hat 0 (by omega), hcc]; rfl, hs⟩⟩
      · exact ⟨⟨#[]⟩, fun h => absurd h hi⟩
    obtain ⟨F, hF⟩ := Classical.axiomOfChoice each
    have hL : ((List.range len0).map F).length = len0 := by simp
    refine ⟨some a, cap0, (List.range len0).map F, by rw [hL], ?_, fun x hx => ?_, by rw [hL]; unfold maxLen at *; omega⟩
    · by_cases h0 : len0 = 0
      · subst h0; exact .inl (by simp)
      · obtain ⟨b, o, sp⟩ := a
        have hc0 := (hF 0 (by omega)).1
        have hs : sp = none := by
          have := World.cell?_spot hc0
          simpa [Addr.add] using this
        subst hs
        refine .inr ⟨b, o, rfl, Nat.zero_le _, ?_, fun i u hu => ?_⟩
        · have := World.block_lt_of_cell? W _ hc0
          simpa [Addr.add] using this
        · have hi : i < len0 := by
            have := (List.getElem?_eq_some_iff.1 hu).1
            simpa using this
          have h3 := (hF i hi).1
          simp only [List.getElem?_map, List.getElem?_range hi, Option.map_some] at hu
          injection hu with hu
          rw [← hu]
          simpa [addr_add] using h3
    · obtain ⟨i, hi, rfl⟩ := List.mem_map.1 hx
      exact (hF i (List.mem_range.1 hi)).2
end
end Go.Proofs.Ytenhfphgobalfaa
