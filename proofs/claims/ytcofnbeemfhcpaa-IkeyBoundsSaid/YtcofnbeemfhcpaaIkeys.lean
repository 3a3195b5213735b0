/- Going over the pieces of a row of entries that have one key each. -/
import Derived.Test.YtcofnbeemfhcpaaIrise
import Derived.Test.YtcofnbeemfhcpaaFlowin
import Derived.Laws.EntriesVeiled
namespace Go.Proofs.Ytcofnbeemfhcpaa
open Go.RowKit Go.Shelf
attribute [local go_sem] Oper.semAt_some

theorem Em.keep {w w' : World} {lo hi : Nat} {e : Ent} {g : Hd} (m : Em w lo hi e g) (hk : ∀ p : Addr, lo ≤ p.block → p.block < hi → w'.cell? p = w.cell? p) : Em w' lo hi e g := ⟨m.k.of fun _ h => h.keep hk, m.v.of fun _ h => h.keep hk, m.bk, m.bv, m.s1, m.s2, m.d1, m.d2⟩
theorem Es.keep {w w' : World} {lo hi : Nat} {A : Option Addr} {L : List (Ent × Hd)} (h : Es w lo hi A L) (hk : ∀ p : Addr, lo ≤ p.block → p.block < hi → w'.cell? p = w.cell? p) : Es w' lo hi A L := ⟨h.outer.keep hk, fun p hp => (h.each p hp).keep hk⟩
theorem einfo : (Try.prog.info? 25).map (fun i => (i.zero, i.size, i.bytes)) = some (some (.agg #[.slice none 0 0, .int .i64 0, .int .i64 0, .slice none 0 0]), 4, 64) := by kernel_rfl
theorem esize (w : World) : (sizeOf (Try.prog.elem 26)).run Try.prog w = .ok 4 w := by
  obtain ⟨i0, hi, _, hz1, _⟩ := info_parts einfo
  have e : Try.prog.elem 26 = 25 := by kernel_rfl
  rw [e]
  simp [Go.sizeOf, typeInfo, hi, hz1]
/-- A piece of a row of entries. -/
theorem eslice_run (A : Option Addr) (n c k j : Nat) (hkj : k ≤ j) (hjn : j ≤ n) (hc : n ≤ c) (w : World) :
    (Instr.slice 26 (.slice A n c) (some (.int .i64 (k : Int))) (some (.int .i64 (j : Int))) none).run Try.prog w = .ok (.slice (if c = k then A else A.map (·.add (k * 4))) (j - k) (c - k)) w := by
  have he : Try.prog.underlying 26 = some (.slice (Try.prog.elem 26)) := by kernel_rfl
  rw [run_slice_lh w 26 A n c he .i64 .i64 (k : Int) (j : Int) (by omega) (by omega) (by omega), esize w]
  simp [Result.andThen, sliced]
theorem eslice_run0 (A : Option Addr) (n c j : Nat) (hjn : j ≤ n) (hc : n ≤ c) (w : World) :
    (Instr.slice 26 (.slice A n c) none (some (.int .i64 (j : Int))) none).run Try.prog w = .ok (.slice A j c) w := by
  have he : Try.prog.underlying 26 = some (.slice (Try.prog.elem 26)) := by kernel_rfl
  rw [run_slice_h w 26 A n c he .i64 (j : Int) (by omega) (by omega), esize w]
  by_cases h : c = 0
  · subst h; simp [Result.andThen, sliced]
  · have : ¬ c = 0 := h
    cases A <;> simp [Result.andThen, sliced, Addr.add]
theorem erow_drop (L : List (Ent × Hd)) (k : Nat) (hk : k ≤ L.length) : erow (L.drop k) = (erow L).drop (k * 4) := by
  have h := erow_append (L.take k) (L.drop k)
  rw [List.take_append_drop] at h
  have hl : (erow (L.take k)).length = k * 4 := by rw [erow_length, List.length_take, Nat.min_eq_left hk]
  rw [h, ← hl, List.drop_left]
theorem erow_take (L : List (Ent × Hd)) (k : Nat) (hk : k ≤ L.length) : erow (L.take k) = (erow L).take (k * 4) := by
  have h := erow_append (L.take k) (L.drop k)
  rw [List.take_append_drop] at h
  have hl : (erow (L.take k)).length = k * 4 := by rw [erow_length, List.length_take, Nat.min_eq_left hk]
  rw [h, ← hl, List.take_left]
theorem Es.drop {w : World} {lo hi c : Nat} {A : Option Addr} {L : List (Ent × Hd)} (h : Es w lo hi A L) {k : Nat} (hk : k ≤ L.length) (hc : L.length ≤ c) : Es w lo hi (if c = k then A else A.map (·.add (k * 4))) (L.drop k) := by
  refine ⟨?_, fun p hp => h.each p (List.mem_of_mem_drop hp)⟩
  rw [erow_drop L k hk]
  have h2 := Sl.drop (k := k * 4) (cap := c * 4) h.outer (by rw [erow_length]; omega) (by rw [erow_length]; omega)
  by_cases e : c = k
  · rw [if_pos e]; rw [if_pos (by omega)] at h2; exact h2
  · rw [if_neg e]; rw [if_neg (by omega)] at h2; exact h2
theorem Es.take {w : World} {lo hi : Nat} {A : Option Addr} {L : List (Ent × Hd)} (h : Es w lo hi A L) {k : Nat} (hk : k ≤ L.length) : Es w lo hi A (L.take k) := by
  refine ⟨?_, fun p hp => h.each p (List.mem_of_mem_take hp)⟩
  rw [erow_take L k hk]
  exact Sl.take h.outer _

/-- Where the pieces begin and end, from i on, the piece that i is in having begun at f. -/
def cuts (L : List Ent) : Nat → Nat → Nat → List (Nat × Nat)
  | 0, _, _ => []
  | r + 1, f, i => match L[i]?, L[i + 1]? with
    | some a, some b => if a.key = b.key then cuts L r f (i + 1) else (f, i + 1) :: cuts L r (i + 1) (i + 1)
    | _, _ => (f, i + 1) :: cuts L r (i + 1) (i + 1)

theorem cuts_same {L : List Ent} {i f : Nat} {a b : Ent} (hi : i < L.length) (ha : L[i]? = some a) (hb : L[i + 1]? = some b) (h : a.key = b.key) : cuts L (L.length - i) f i = cuts L (L.length - (i + 1)) f (i + 1) := by
  have e : L.length - i = L.length - (i + 1) + 1 := by omega
  rw [e, cuts]
  simp only [ha, hb, h, if_true]
theorem cuts_other {L : List Ent} {i f : Nat} {a : Ent} (hi : i < L.length) (ha : L[i]? = some a) (h : ∀ b, L[i + 1]? = some b → a.key ≠ b.key) : cuts L (L.length - i) f i = (f, i + 1) :: cuts L (L.length - (i + 1)) (i + 1) (i + 1) := by
  have e : L.length - i = L.length - (i + 1) + 1 := by omega
  rw [e, cuts]
  cases hb : L[i + 1]? with
  | none => simp only [ha]
  | some b => simp only [ha, if_neg (h b hb)]
theorem drop_cons {α : Type} {l r : List α} {k : Nat} {x : α} (h : l.drop k = x :: r) : k < l.length ∧ l[k]? = some x ∧ l.drop (k + 1) = r := by
  have hk : k < l.length := by
    rcases Nat.lt_or_ge k l.length with h1 | h1
    · exact h1
    · rw [List.drop_of_length_le h1] at h; cases h
  rw [List.drop_eq_getElem_cons hk] at h
  injection h with h1 h2
  exact ⟨hk, by rw [List.getElem?_eq_getElem hk, h1], h2⟩

/-- byKeys makes a function over the row. -/
theorem byKeys_any (A : Option Addr) (n c : Nat) (w : World) : Calls Try.prog 39 #[.slice A n c] w fun x w' =>
    x = .returned (.func (.func 43) #[] #[.pointer (some ⟨w.heap.size, 0, none⟩)]) ∧ w' = w.alloc (.cells #[.slice A n c] 26) := by
  go_enter Try.func39, Try.ntmps39
  go_wp2_with fail
  go_ret
  exact ⟨rfl, rfl⟩
theorem enters_byKeys : ∀ args w, (callFunc 43 args).run Try.prog w = .ok (.enter 43 args) w := enters_of Try.func43 (by kernel_rfl) rfl

/-- The blocks that must stay. -/
def Kept (lo hi bd : Nat) (w A : World) : Prop := ∀ k, (lo ≤ k ∧ k < hi ∨ k = bd) → k < w.heap.size → A.heap[k]? = w.heap[k]?
theorem Kept.es {lo hi bd : Nat} {w A : World} {X : Option Addr} {L : List (Ent × Hd)} (h : Kept lo hi bd w A) (hhi : hi ≤ w.heap.size) (hE : Es w lo hi X L) : Es A lo hi X L := hE.keep fun p h1 h2 => World.cell?_of_block (h p.block (.inl ⟨h1, h2⟩) (Nat.lt_of_lt_of_le h2 hhi))
theorem Kept.box {lo hi bd : Nat} {w A : World} {v : Value} (h : Kept lo hi bd w A) (hb : w.cell? ⟨bd, 0, none⟩ = some v) : A.cell? ⟨bd, 0, none⟩ = some v := by
  rw [World.cell?_of_block (w := w) (a := ⟨bd, 0, none⟩) (h bd (.inr rfl) (World.block_lt_of_cell? w _ hb))]; exact hb

/-- The k-th piece, as a value. -/
def PieceOk (L : List (Ent × Hd)) (A : Option Addr) (c : Nat) (_n₁ k : Nat) (x : Option Addr × Nat × Nat) (_w : World) : Prop :=
  ∃ f t, (cuts (L.map Prod.fst) L.length 0 0)[k]? = some (f, t) ∧ f < t ∧ t ≤ L.length ∧ x = ((if c = f then A else A.map (·.add (f * 4))), t - f, c - f)
def pieceV (x : Option Addr × Nat × Nat) : Array Value := #[.slice x.1 x.2.1 x.2.2]

set_option maxRecDepth 100000 in
set_option maxHeartbeats 8000000 in
theorem byKeys_iter {w : World} {lo hi bd c : Nat} {A : Option Addr} {L : List (Ent × Hd)} (h : Es w lo hi A L) (hhi : hi ≤ w.heap.size) (hc : L.length ≤ c) (hcm : c ≤ maxLen) (hl : L.length ≤ 1000000000000) (hbd : w.cell? ⟨bd, 0, none⟩ = some (.slice A L.length c)) :
    Iter Try.prog 43 #[.pointer (some ⟨bd, 0, none⟩)] (cuts (L.map Prod.fst) L.length 0 0).length pieceV (PieceOk L A c) (Kept lo hi bd w) w := by
  intro mm l J Jx W hx hC hJ hJx h0 hY
  have HE := Lib.hid h
  have HHI := Lib.hid hhi
  have HCC := Lib.hid (And.intro hc hcm)
  have HL := Lib.hid hl
  have HBD := Lib.hid hbd
  have HXW := Lib.hid hx.size
  have HC := Lib.hid hC
  have HJ := Lib.hid hJ
  have HJX := Lib.hid hJx
  have HJ0 := Lib.hid (h0 W (Ext.refl _))
  have HY := Lib.hid hY
  clear h hhi hc hcm hl hbd hC hJ hJx h0 hY hx
  refine (callsIn_wide (n := 6)).1 ?_
  refine callsIn_of_wp Try.func43 rfl trivial ?_ rfl
  simp only [Try.ntmps43, List.size_toArray, List.length_cons, List.length_nil, Nat.reduceAdd, Nat.reduceSub, Array.replicate_succ, Array.replicate_zero, List.push_toArray, List.append_toArray, List.nil_append, List.cons_append]
  have c1 := (HC.out _ _ _ HJ0.out).box HBD.out
  gi_wp2
  gi_loopw [3, 7] (fun a x wr => ∃ k f i : Nat, f ≤ i ∧ i ≤ L.length ∧ a = .int .i64 (f : Int) ∧ x = .int .i64 (i : Int) ∧ Hid (k ≤ (cuts (L.map Prod.fst) L.length 0 0).length ∧ (cuts (L.map Prod.fst) L.length 0 0).drop k = cuts (L.map Prod.fst) (L.length - i) f i) ∧ Hid (J W.heap.size k wr) ∧ Hid (Step W.heap.size W.heap.size W wr))
    (fun _ x _ => L.length - (intOf x).toNat)
  case atStart => exact ⟨0, 0, 0, Nat.le_refl _, Nat.zero_le _, rfl, rfl, ⟨Nat.zero_le _, rfl⟩, HJ0, Step.refl _ _ _⟩
  case round =>
    obtain ⟨k, f, i, hfi, hin, rfl, rfl, HU, HJK, HST⟩ := hrel
    have hkept := HC.out _ _ _ HJK.out
    have c1 := hkept.box HBD.out
    have HEr := Lib.hid (hkept.es HHI.out HE.out)
    clear hkept
    by_cases hlt : i < L.length
    · have d : decide ((i : Int) < (L.length : Int)) = true := by simp; omega
      obtain ⟨b, o, rfl⟩ := HE.out.base (by omega)
      obtain ⟨p, hp⟩ : ∃ p, L[i]? = some p := ⟨_, List.getElem?_eq_getElem hlt⟩
      obtain ⟨c2, _, _, _⟩ := HEr.out.get hp
      have hw : IntKind.i64.wrap ((i : Int) + 1) = ((i + 1 : Nat) : Int) := by have := HL.out; rw [IntKind.wrap_i64]; omega
      obtain ⟨j, hj⟩ : ∃ j, j = i + 1 := ⟨_, rfl⟩
      rw [← hj] at hw
      have HP := Lib.hid hp
      have HJ1 := Lib.hid hj
      have HFI := Lib.hid (And.intro hfi hin)
      have HLT := Lib.hid hlt
      refine wpIn_wide.2 ?_
      by_cases hlt2 : j < L.length
      · obtain ⟨q, hq⟩ : ∃ q, L[j]? = some q := ⟨_, List.getElem?_eq_getElem hlt2⟩
        obtain ⟨c3, _, _, _⟩ := HEr.out.get hq
        have HQ := Lib.hid hq
        have HCK : Hid (∀ u, Ext wr u → Calls Try.prog 31 #[.slice p.2.kA p.1.key.length p.2.kc, .slice q.2.kA q.1.key.length q.2.kc] u fun x w' => x = .returned (.int .i64 (cmpK p.1.key q.1.key)) ∧ w' = u) := fun u hu => by
          have hsz := Nat.le_trans HHI.out (Nat.le_trans HXW.out HST.out.size)
          have hE := HEr.out.below hu hsz
          have h1 := hE.each p (List.mem_of_getElem? HP.out)
          have h2 := hE.each q (List.mem_of_getElem? HQ.out)
          exact keys_any h1.k h2.k h1.bk h2.bk
        have d2 : decide ((j : Int) < (L.length : Int)) = true := by simp; omega
        have n1 : (0 : Int) ≤ (i : Int) := by omega
        have n2 : (i : Int) < (L.length : Int) := by omega
        have n3 : (0 : Int) ≤ (j : Int) := by omega
        have n4 : (j : Int) < (L.length : Int) := by omega
        clear hp hq hlt hlt2 hj hfi hin
        go_upto_region 4 with (fail)
        refine flow (by kernel_rfl) [Is (.int .i64 (i : Int)), Is (.int .i64 (j : Int)), Is (.slice (some ⟨b, o, none⟩) L.length c), Is (.int .i64 (L.length : Int)), Is (.bool true), Is (.bool true), Is (.slice (some ⟨b, o, none⟩) L.length c), Is (.int .i64 (i : Int)), Is (.pointer (some ⟨b, o + i * 4, none⟩)), Is (.pointer (some ⟨b, o + i * 4, none⟩)), Is (.slice p.2.kA p.1.key.length p.2.kc), Is (.slice (some ⟨b, o, none⟩) L.length c), Is (.int .i64 (i : Int)), Is (.int .i64 (j : Int)), Is (.pointer (some ⟨b, o + j * 4, none⟩)), Is (.pointer (some ⟨b, o + j * 4, none⟩)), Is (.slice q.2.kA q.1.key.length q.2.kc), Is (.int .i64 (cmpK p.1.key q.1.key)), Is (.bool (cmpK p.1.key q.1.key == 0)), Is (.bool (cmpK p.1.key q.1.key == 0))] (by kernel_rfl) (by kernel_rfl) ?mono (fun f1 => ?obl) ?fin
        case mono =>
          simp only [List.forall_mem_cons, List.not_mem_nil, false_imp_iff, implies_true, and_true]
          exact ⟨.is _, .is _, .is _, .is _, .is _, .is _, .is _, .is _, .is _, .is _, .is _, .is _, .is _, .is _, .is _, .is _, .is _, .is _, .is _, .is _⟩
        case fin =>
          intro g1 u hu hg
          simp only [puts, Act.put, List.setIfInBounds_toArray, List.set_cons_zero, List.set_cons_succ]
          have h19 : g1 19 = .bool (cmpK p.1.key q.1.key == 0) := hg 19 (by decide)
          have h5 : g1 5 = .bool true := hg 5 (by decide)
          rw [h19]
          clear h19 h5 hg
          by_cases hk : p.1.key = q.1.key
          · have dk : (cmpK p.1.key q.1.key == 0) = true := by rw [hk, cmpK_self]; rfl
            have HXU : Hid (Ext wr u) := Ext.trans (Ext.drew wr) hu
            have HK2 := Lib.hid hk
            clear hk hu
            go_wp2_with fail
            refine ⟨⟨k, f, j, by have := HFI.out; have := HJ1.out; omega, by have := HLT.out; have := HJ1.out; omega, rfl, rfl, ⟨HU.out.1, HU.out.2.trans ?_⟩, HJ.out _ _ _ _ (Nat.le_refl _) HJK.out (Chg.of_ext HXU.out), HST.out.trans (Step.of_chg (S := fun _ => False) (Chg.of_ext HXU.out) HST.out.size (fun _ _ _ h => h))⟩, ?_⟩
            · have h1 := cuts_same (L := L.map Prod.fst) (i := i) (f := f) (a := p.1) (b := q.1) (by rw [List.length_map]; exact HLT.out) (by rw [List.getElem?_map, HP.out]; rfl) (by rw [← HJ1.out, List.getElem?_map, HQ.out]; rfl) HK2.out
              rw [List.length_map] at h1
              rw [h1, HJ1.out]
            · have := HLT.out; have := HJ1.out; simp [intOf]; omega
          · have hk0 : ¬ cmpK p.1.key q.1.key = 0 := fun h => hk (cmpK_zero h)
            have dk : (cmpK p.1.key q.1.key == 0) = false := by simpa using hk0
            have HCUT : Hid (cuts (L.map Prod.fst) (L.length - i) f i = (f, i + 1) :: cuts (L.map Prod.fst) (L.length - (i + 1)) (i + 1) (i + 1)) := by
              have h1 := cuts_other (L := L.map Prod.fst) (i := i) (f := f) (a := p.1) (by rw [List.length_map]; exact HLT.out) (by rw [List.getElem?_map, HP.out]; rfl) (fun b hb => by rw [← HJ1.out, List.getElem?_map, HQ.out] at hb; simp at hb; rw [← hb]; exact hk)
              rwa [List.length_map] at h1
            clear hk hk0
            rw [dk]
            go_upto_region 5 with (fail)
            have HXU : Hid (Ext wr u) := Ext.trans (Ext.drew wr) hu
            have HUU := Lib.hid (drop_cons (HU.out.2.trans HCUT.out))
            obtain ⟨X, hX⟩ : ∃ X, X = (if c = f then (some ⟨b, o, none⟩ : Option Addr) else (some (⟨b, o, none⟩ : Addr)).map (·.add (f * 4))) := ⟨_, rfl⟩
            have hsl : ∀ W, (Instr.slice 26 (.slice (some ⟨b, o, none⟩) L.length c) (some (.int .i64 (f : Int))) (some (.int .i64 (j : Int))) none).run Try.prog W = .ok (.slice X (j - f) (c - f)) W := fun W => by
              rw [hX]; exact eslice_run _ _ _ _ _ (by have := HFI.out; have := HJ1.out; omega) (by have := HLT.out; have := HJ1.out; omega) HCC.out.1 W
            have hsl2 : ∀ W, (Instr.slice 26 (.slice (some ⟨b, o, none⟩) L.length c) (some (.int .i64 (f : Int))) (some (.int .i64 ((i : Int) + 1))) none).run Try.prog W = .ok (.slice X (j - f) (c - f)) W := fun W => by
              have e : (i : Int) + 1 = (j : Int) := by have := HJ1.out; omega
              rw [e]; exact hsl W
            have q1 := ext_cell HXU.out c1
            have hw64 : wrap64 ((i : Int) + 1) = (j : Int) := by have := HL.out; have := HLT.out; have := HJ1.out; unfold wrap64; omega
            have hj1 := HJ.out _ _ _ _ (Nat.le_refl _) HJK.out (Chg.of_ext HXU.out)
            obtain ⟨fn, tmps, assign, body, hy, hR⟩ := HY.out W.heap.size k (X, j - f, c - f) u (Nat.le_refl _) (Nat.le_trans HST.out.size HXU.out.size) hj1 HUU.out.1 ⟨f, j, by rw [HJ1.out]; exact HUU.out.2.1, by have := HFI.out; have := HJ1.out; omega, by have := HLT.out; have := HJ1.out; omega, by rw [← hX]⟩
            dsimp only [pieceV] at hy
            have HR := Lib.hid (roundIn_any (m' := 5) hR)
            clear hR hj1 hX hu
            refine (wpIn_wide (n := 6)).1 ?_
            gi_wp2
            refine RoundIn.mono HR.out ?_
            rintro e W3 ⟨hst, (⟨rfl, hj⟩ | ⟨rfl, hjx⟩)⟩
            · have HST3 := Lib.hid ((HST.out.trans (Step.of_chg (S := fun _ => False) (Chg.of_ext HXU.out) HST.out.size (fun _ _ _ h => h))).trans hst)
              have HJ3 := Lib.hid hj
              clear hst hj hy
              gi_wp2
              go_wp2_with fail
              refine ⟨⟨k + 1, j, j, Nat.le_refl _, by have := HLT.out; have := HJ1.out; omega, rfl, rfl, ⟨HUU.out.1, by rw [HJ1.out]; exact HUU.out.2.2⟩, HJ3.out, HST3.out⟩, ?_⟩
              have := HLT.out; have := HJ1.out; simp [intOf]; omega
            · have HX3 := Lib.hid hjx
              clear hst hjx hy
              gi_wp2
              go_wp2_with fail
              refine bodyPost_ret (results_none rfl _ _ _) rfl ?_
              exact ⟨⟨_, rfl⟩, .inr HX3.out⟩
        case obl =>
          refine ⟨fun u hu hd => ?_, ?_⟩
          · go_simp
            exact ⟨Ext.refl _, rfl⟩
          refine ⟨fun u hu hd => ?_, ?_⟩
          · simp only [Act.put, List.setIfInBounds_toArray, List.set_cons_zero, List.set_cons_succ]
            have e0 : f1 0 = (.int .i64 (i : Int)) := hd 0 (by kernel_rfl)
            go_simp
            exact ⟨Ext.refl _, rfl⟩
          refine ⟨fun u hu hd => ?_, ?_⟩
          · simp only [Act.put, List.setIfInBounds_toArray, List.set_cons_zero, List.set_cons_succ]
            have hu2 := Ext.trans (Ext.drew wr) hu
            have q1 := ext_cell hu2 c1
            go_simp
            exact ⟨Ext.refl _, rfl⟩
          refine ⟨fun u hu hd => ?_, ?_⟩
          · simp only [Act.put, List.setIfInBounds_toArray, List.set_cons_zero, List.set_cons_succ]
            have e2 : f1 2 = (.slice (some ⟨b, o, none⟩) L.length c) := hd 2 (by kernel_rfl)
            go_simp
            exact ⟨Ext.refl _, rfl⟩
          refine ⟨fun u hu hd => ?_, ?_⟩
          · simp only [Act.put, List.setIfInBounds_toArray, List.set_cons_zero, List.set_cons_succ]
            have e1 : f1 1 = (.int .i64 (j : Int)) := hd 1 (by kernel_rfl)
            have e3 : f1 3 = (.int .i64 (L.length : Int)) := hd 3 (by kernel_rfl)
            go_simp
            exact ⟨Ext.refl _, rfl⟩
          refine ⟨fun u hu hd => ?_, ?_⟩
          · simp only [Act.put, List.setIfInBounds_toArray, List.set_cons_zero, List.set_cons_succ]
            have e4 : f1 4 = (.bool true) := hd 4 (by kernel_rfl)
            go_simp
            exact ⟨Ext.refl _, rfl⟩
          refine ⟨fun u hu hd => ?_, ?_⟩
          · simp only [Act.put, List.setIfInBounds_toArray, List.set_cons_zero, List.set_cons_succ]
            have e5 : f1 5 = .bool true := hd 5 (by kernel_rfl)
            have hu2 := Ext.trans (Ext.drew wr) hu
            have q1 := ext_cell hu2 c1
            go_simp
            exact ⟨Ext.refl _, rfl⟩
          refine ⟨fun u hu hd => ?_, ?_⟩
          · simp only [Act.put, List.setIfInBounds_toArray, List.set_cons_zero, List.set_cons_succ]
            have e5 : f1 5 = .bool true := hd 5 (by kernel_rfl)
            go_simp
            exact ⟨Ext.refl _, rfl⟩
          refine ⟨fun u hu hd => ?_, ?_⟩
          · simp only [Act.put, List.setIfInBounds_toArray, List.set_cons_zero, List.set_cons_succ]
            have e5 : f1 5 = .bool true := hd 5 (by kernel_rfl)
            have e6 : f1 6 = (.slice (some ⟨b, o, none⟩) L.length c) := hd 6 (by kernel_rfl)
            have e7 : f1 7 = (.int .i64 (i : Int)) := hd 7 (by kernel_rfl)
            go_simp
            exact ⟨Ext.refl _, rfl⟩
          refine ⟨fun u hu hd => ?_, ?_⟩
          · simp only [Act.put, List.setIfInBounds_toArray, List.set_cons_zero, List.set_cons_succ]
            have e5 : f1 5 = .bool true := hd 5 (by kernel_rfl)
            have e8 : f1 8 = (.pointer (some ⟨b, o + i * 4, none⟩)) := hd 8 (by kernel_rfl)
            go_simp
            exact ⟨Ext.refl _, rfl⟩
          refine ⟨fun u hu hd => ?_, ?_⟩
          · simp only [Act.put, List.setIfInBounds_toArray, List.set_cons_zero, List.set_cons_succ]
            have e5 : f1 5 = .bool true := hd 5 (by kernel_rfl)
            have e9 : f1 9 = (.pointer (some ⟨b, o + i * 4, none⟩)) := hd 9 (by kernel_rfl)
            have hu2 := Ext.trans (Ext.drew wr) hu
            have q1 := ext_cell hu2 c2
            go_simp
            exact ⟨Ext.refl _, rfl⟩
          refine ⟨fun u hu hd => ?_, ?_⟩
          · simp only [Act.put, List.setIfInBounds_toArray, List.set_cons_zero, List.set_cons_succ]
            have e5 : f1 5 = .bool true := hd 5 (by kernel_rfl)
            have hu2 := Ext.trans (Ext.drew wr) hu
            have q1 := ext_cell hu2 c1
            go_simp
            exact ⟨Ext.refl _, rfl⟩
          refine ⟨fun u hu hd => ?_, ?_⟩
          · simp only [Act.put, List.setIfInBounds_toArray, List.set_cons_zero, List.set_cons_succ]
            have e5 : f1 5 = .bool true := hd 5 (by kernel_rfl)
            go_simp
            exact ⟨Ext.refl _, rfl⟩
          refine ⟨fun u hu hd => ?_, ?_⟩
          · simp only [Act.put, List.setIfInBounds_toArray, List.set_cons_zero, List.set_cons_succ]
            have e5 : f1 5 = .bool true := hd 5 (by kernel_rfl)
            have e12 : f1 12 = (.int .i64 (i : Int)) := hd 12 (by kernel_rfl)
            go_simp
            exact ⟨Ext.refl _, rfl⟩
          refine ⟨fun u hu hd => ?_, ?_⟩
          · simp only [Act.put, List.setIfInBounds_toArray, List.set_cons_zero, List.set_cons_succ]
            have e5 : f1 5 = .bool true := hd 5 (by kernel_rfl)
            have e11 : f1 11 = (.slice (some ⟨b, o, none⟩) L.length c) := hd 11 (by kernel_rfl)
            have e13 : f1 13 = (.int .i64 (j : Int)) := hd 13 (by kernel_rfl)
            go_simp
            exact ⟨Ext.refl _, rfl⟩
          refine ⟨fun u hu hd => ?_, ?_⟩
          · simp only [Act.put, List.setIfInBounds_toArray, List.set_cons_zero, List.set_cons_succ]
            have e5 : f1 5 = .bool true := hd 5 (by kernel_rfl)
            have e14 : f1 14 = (.pointer (some ⟨b, o + j * 4, none⟩)) := hd 14 (by kernel_rfl)
            go_simp
            exact ⟨Ext.refl _, rfl⟩
          refine ⟨fun u hu hd => ?_, ?_⟩
          · simp only [Act.put, List.setIfInBounds_toArray, List.set_cons_zero, List.set_cons_succ]
            have e5 : f1 5 = .bool true := hd 5 (by kernel_rfl)
            have e15 : f1 15 = (.pointer (some ⟨b, o + j * 4, none⟩)) := hd 15 (by kernel_rfl)
            have hu2 := Ext.trans (Ext.drew wr) hu
            have q1 := ext_cell hu2 c3
            go_simp
            exact ⟨Ext.refl _, rfl⟩
          refine ⟨fun u hu hd => ?_, ?_⟩
          · simp only [Act.put, List.setIfInBounds_toArray, List.set_cons_zero, List.set_cons_succ]
            have e5 : f1 5 = .bool true := hd 5 (by kernel_rfl)
            have e10 : f1 10 = (.slice p.2.kA p.1.key.length p.2.kc) := hd 10 (by kernel_rfl)
            have e16 : f1 16 = (.slice q.2.kA q.1.key.length q.2.kc) := hd 16 (by kernel_rfl)
            have hu2 := Ext.trans (Ext.drew wr) hu
            go_simp
            refine (HCK.out u hu2).mono ?_
            rintro x w9 ⟨rfl, rfl⟩
            exact ⟨_, rfl, Ext.refl _, rfl⟩
          refine ⟨fun u hu hd => ?_, ?_⟩
          · simp only [Act.put, List.setIfInBounds_toArray, List.set_cons_zero, List.set_cons_succ]
            have e5 : f1 5 = .bool true := hd 5 (by kernel_rfl)
            have e17 : f1 17 = (.int .i64 (cmpK p.1.key q.1.key)) := hd 17 (by kernel_rfl)
            go_simp
            exact ⟨Ext.refl _, rfl⟩
          refine ⟨fun u hu hd => ?_, ?_⟩
          · simp only [Act.put, List.setIfInBounds_toArray, List.set_cons_zero, List.set_cons_succ]
            have e5 : f1 5 = .bool true := hd 5 (by kernel_rfl)
            have e18 : f1 18 = (.bool (cmpK p.1.key q.1.key == 0)) := hd 18 (by kernel_rfl)
            go_simp
            exact ⟨Ext.refl _, rfl⟩
          trivial
      · have d2 : decide ((j : Int) < (L.length : Int)) = false := by simp; omega
        have d2n : decide (j < L.length) = false := by simp; omega
        have HCUT : Hid (cuts (L.map Prod.fst) (L.length - i) f i = (f, i + 1) :: cuts (L.map Prod.fst) (L.length - (i + 1)) (i + 1) (i + 1)) := by
          have h1 := cuts_other (L := L.map Prod.fst) (i := i) (f := f) (a := p.1) (by rw [List.length_map]; exact HLT.out) (by rw [List.getElem?_map, HP.out]; rfl) (fun b hb => by rw [List.getElem?_map, List.getElem?_eq_none (by omega)] at hb; simp at hb)
          rwa [List.length_map] at h1
        clear hp hlt hlt2 hj hfi hin
        go_upto_region 4 with (fail)
        refine flow (by kernel_rfl) [Is (.int .i64 (i : Int)), Is (.int .i64 (j : Int)), Is (.slice (some ⟨b, o, none⟩) L.length c), Is (.int .i64 (L.length : Int)), Is (.bool false), Is (.bool false), Is undef, Is undef, Is undef, Is undef, Is undef, Is undef, Is undef, Is undef, Is undef, Is undef, Is undef, Is undef, Is undef, Is (.bool false)] (by kernel_rfl) (by kernel_rfl) ?mono (fun f1 => ?obl) ?fin
        case mono =>
          simp only [List.forall_mem_cons, List.not_mem_nil, false_imp_iff, implies_true, and_true]
          exact ⟨.is _, .is _, .is _, .is _, .is _, .is _, .is _, .is _, .is _, .is _, .is _, .is _, .is _, .is _, .is _, .is _, .is _, .is _, .is _, .is _⟩
        case fin =>
          intro g1 u hu hg
          simp only [puts, Act.put, List.setIfInBounds_toArray, List.set_cons_zero, List.set_cons_succ]
          have h19 : g1 19 = .bool false := hg 19 (by decide)
          rw [h19]
          clear h19 hg
          go_upto_region 5 with (fail)
          have HXU : Hid (Ext wr u) := Ext.trans (Ext.drew wr) hu
          have HUU := Lib.hid (drop_cons (HU.out.2.trans HCUT.out))
          obtain ⟨X, hX⟩ : ∃ X, X = (if c = f then (some ⟨b, o, none⟩ : Option Addr) else (some (⟨b, o, none⟩ : Addr)).map (·.add (f * 4))) := ⟨_, rfl⟩
          have hsl : ∀ W, (Instr.slice 26 (.slice (some ⟨b, o, none⟩) L.length c) (some (.int .i64 (f : Int))) (some (.int .i64 (j : Int))) none).run Try.prog W = .ok (.slice X (j - f) (c - f)) W := fun W => by
            rw [hX]; exact eslice_run _ _ _ _ _ (by have := HFI.out; have := HJ1.out; omega) (by have := HLT.out; have := HJ1.out; omega) HCC.out.1 W
          have hsl2 : ∀ W, (Instr.slice 26 (.slice (some ⟨b, o, none⟩) L.length c) (some (.int .i64 (f : Int))) (some (.int .i64 ((i : Int) + 1))) none).run Try.prog W = .ok (.slice X (j - f) (c - f)) W := fun W => by
            have e : (i : Int) + 1 = (j : Int) := by have := HJ1.out; omega
            rw [e]; exact hsl W
          have q1 := ext_cell HXU.out c1
          have hw64 : wrap64 ((i : Int) + 1) = (j : Int) := by have := HL.out; have := HLT.out; have := HJ1.out; unfold wrap64; omega
          have hj1 := HJ.out _ _ _ _ (Nat.le_refl _) HJK.out (Chg.of_ext HXU.out)
          obtain ⟨fn, tmps, assign, body, hy, hR⟩ := HY.out W.heap.size k (X, j - f, c - f) u (Nat.le_refl _) (Nat.le_trans HST.out.size HXU.out.size) hj1 HUU.out.1 ⟨f, j, by rw [HJ1.out]; exact HUU.out.2.1, by have := HFI.out; have := HJ1.out; omega, by have := HLT.out; have := HJ1.out; omega, by rw [← hX]⟩
          dsimp only [pieceV] at hy
          have HR := Lib.hid (roundIn_any (m' := 5) hR)
          clear hR hj1 hX hu
          refine (wpIn_wide (n := 6)).1 ?_
          gi_wp2
          refine RoundIn.mono HR.out ?_
          rintro e W3 ⟨hst, (⟨rfl, hj⟩ | ⟨rfl, hjx⟩)⟩
          · have HST3 := Lib.hid ((HST.out.trans (Step.of_chg (S := fun _ => False) (Chg.of_ext HXU.out) HST.out.size (fun _ _ _ h => h))).trans hst)
            have HJ3 := Lib.hid hj
            clear hst hj hy
            gi_wp2
            go_wp2_with fail
            refine ⟨⟨k + 1, j, j, Nat.le_refl _, by have := HLT.out; have := HJ1.out; omega, rfl, rfl, ⟨HUU.out.1, by rw [HJ1.out]; exact HUU.out.2.2⟩, HJ3.out, HST3.out⟩, ?_⟩
            have := HLT.out; have := HJ1.out; simp [intOf]; omega
          · have HX3 := Lib.hid hjx
            clear hst hjx hy
            gi_wp2
            go_wp2_with fail
            refine bodyPost_ret (results_none rfl _ _ _) rfl ?_
            exact ⟨⟨_, rfl⟩, .inr HX3.out⟩
        case obl =>
          refine ⟨fun u hu hd => ?_, ?_⟩
          · go_simp
            exact ⟨Ext.refl _, rfl⟩
          refine ⟨fun u hu hd => ?_, ?_⟩
          · simp only [Act.put, List.setIfInBounds_toArray, List.set_cons_zero, List.set_cons_succ]
            have e0 : f1 0 = (.int .i64 (i : Int)) := hd 0 (by kernel_rfl)
            go_simp
            exact ⟨Ext.refl _, rfl⟩
          refine ⟨fun u hu hd => ?_, ?_⟩
          · simp only [Act.put, List.setIfInBounds_toArray, List.set_cons_zero, List.set_cons_succ]
            have hu2 := Ext.trans (Ext.drew wr) hu
            have q1 := ext_cell hu2 c1
            go_simp
            exact ⟨Ext.refl _, rfl⟩
          refine ⟨fun u hu hd => ?_, ?_⟩
          · simp only [Act.put, List.setIfInBounds_toArray, List.set_cons_zero, List.set_cons_succ]
            have e2 : f1 2 = (.slice (some ⟨b, o, none⟩) L.length c) := hd 2 (by kernel_rfl)
            go_simp
            exact ⟨Ext.refl _, rfl⟩
          refine ⟨fun u hu hd => ?_, ?_⟩
          · simp only [Act.put, List.setIfInBounds_toArray, List.set_cons_zero, List.set_cons_succ]
            have e1 : f1 1 = (.int .i64 (j : Int)) := hd 1 (by kernel_rfl)
            have e3 : f1 3 = (.int .i64 (L.length : Int)) := hd 3 (by kernel_rfl)
            go_simp
            exact ⟨Ext.refl _, rfl⟩
          refine ⟨fun u hu hd => ?_, ?_⟩
          · simp only [Act.put, List.setIfInBounds_toArray, List.set_cons_zero, List.set_cons_succ]
            have e4 : f1 4 = (.bool false) := hd 4 (by kernel_rfl)
            go_simp
            exact ⟨Ext.refl _, rfl⟩
          refine ⟨fun u hu hd => ?_, ?_⟩
          · simp only [Act.put, List.setIfInBounds_toArray, List.set_cons_zero, List.set_cons_succ]
            have e5 : f1 5 = .bool false := hd 5 (by kernel_rfl)
            go_simp
            rfl
          refine ⟨fun u hu hd => ?_, ?_⟩
          · simp only [Act.put, List.setIfInBounds_toArray, List.set_cons_zero, List.set_cons_succ]
            have e5 : f1 5 = .bool false := hd 5 (by kernel_rfl)
            go_simp
            rfl
          refine ⟨fun u hu hd => ?_, ?_⟩
          · simp only [Act.put, List.setIfInBounds_toArray, List.set_cons_zero, List.set_cons_succ]
            have e5 : f1 5 = .bool false := hd 5 (by kernel_rfl)
            go_simp
            rfl
          refine ⟨fun u hu hd => ?_, ?_⟩
          · simp only [Act.put, List.setIfInBounds_toArray, List.set_cons_zero, List.set_cons_succ]
            have e5 : f1 5 = .bool false := hd 5 (by kernel_rfl)
            go_simp
            rfl
          refine ⟨fun u hu hd => ?_, ?_⟩
          · simp only [Act.put, List.setIfInBounds_toArray, List.set_cons_zero, List.set_cons_succ]
            have e5 : f1 5 = .bool false := hd 5 (by kernel_rfl)
            go_simp
            rfl
          refine ⟨fun u hu hd => ?_, ?_⟩
          · simp only [Act.put, List.setIfInBounds_toArray, List.set_cons_zero, List.set_cons_succ]
            have e5 : f1 5 = .bool false := hd 5 (by kernel_rfl)
            go_simp
            rfl
          refine ⟨fun u hu hd => ?_, ?_⟩
          · simp only [Act.put, List.setIfInBounds_toArray, List.set_cons_zero, List.set_cons_succ]
            have e5 : f1 5 = .bool false := hd 5 (by kernel_rfl)
            go_simp
            rfl
          refine ⟨fun u hu hd => ?_, ?_⟩
          · simp only [Act.put, List.setIfInBounds_toArray, List.set_cons_zero, List.set_cons_succ]
            have e5 : f1 5 = .bool false := hd 5 (by kernel_rfl)
            go_simp
            rfl
          refine ⟨fun u hu hd => ?_, ?_⟩
          · simp only [Act.put, List.setIfInBounds_toArray, List.set_cons_zero, List.set_cons_succ]
            have e5 : f1 5 = .bool false := hd 5 (by kernel_rfl)
            go_simp
            rfl
          refine ⟨fun u hu hd => ?_, ?_⟩
          · simp only [Act.put, List.setIfInBounds_toArray, List.set_cons_zero, List.set_cons_succ]
            have e5 : f1 5 = .bool false := hd 5 (by kernel_rfl)
            go_simp
            rfl
          refine ⟨fun u hu hd => ?_, ?_⟩
          · simp only [Act.put, List.setIfInBounds_toArray, List.set_cons_zero, List.set_cons_succ]
            have e5 : f1 5 = .bool false := hd 5 (by kernel_rfl)
            go_simp
            rfl
          refine ⟨fun u hu hd => ?_, ?_⟩
          · simp only [Act.put, List.setIfInBounds_toArray, List.set_cons_zero, List.set_cons_succ]
            have e5 : f1 5 = .bool false := hd 5 (by kernel_rfl)
            go_simp
            rfl
          refine ⟨fun u hu hd => ?_, ?_⟩
          · simp only [Act.put, List.setIfInBounds_toArray, List.set_cons_zero, List.set_cons_succ]
            have e5 : f1 5 = .bool false := hd 5 (by kernel_rfl)
            go_simp
            rfl
          refine ⟨fun u hu hd => ?_, ?_⟩
          · simp only [Act.put, List.setIfInBounds_toArray, List.set_cons_zero, List.set_cons_succ]
            have e5 : f1 5 = .bool false := hd 5 (by kernel_rfl)
            go_simp
            exact ⟨Ext.refl _, rfl⟩
          trivial
    · have hk : k = (cuts (L.map Prod.fst) L.length 0 0).length := by
        have h1 := HU.out.2
        have e : L.length - i = 0 := by omega
        rw [e] at h1
        have h2 := congrArg List.length h1
        have h3 := HU.out.1
        simp [cuts] at h2
        omega
      have d : decide ((i : Int) < (L.length : Int)) = false := by simp; omega
      have dn : decide (i < L.length) = false := by simp; omega
      have HK := Lib.hid hk
      clear hlt hfi hin hk
      gi_wp2
      go_end0
      exact ⟨⟨_, rfl⟩, .inl ⟨_, Nat.le_refl _, by rw [← HK.out]; exact HJK.out⟩⟩
end Go.Proofs.Ytcofnbeemfhcpaa
