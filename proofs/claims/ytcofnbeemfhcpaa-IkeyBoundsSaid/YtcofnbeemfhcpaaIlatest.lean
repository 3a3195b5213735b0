/- ikey's Latest: what is seen at a number. -/
import Derived.Test.YtcofnbeemfhcpaaIkeys
import Derived.Test.YtcofnbeemfhcpaaTailin
import Derived.Deep.Slices
namespace Go.Proofs.Ytcofnbeemfhcpaa
open Go.RowKit Go.Shelf
attribute [local go_sem] Oper.semAt_some

/-- Of each piece the first one whose number is at most s. -/
def firsts (L : List Ent) (s : Int) (cs : List (Nat × Nat)) : List Ent := cs.filterMap fun x => ((L.drop x.1).take (x.2 - x.1)).find? fun e => decide (e.seq ≤ s)
theorem firsts_next {L : List Ent} {s : Int} {cs : List (Nat × Nat)} {k f t : Nat} (h : cs[k]? = some (f, t)) : firsts L s (cs.take (k + 1)) = firsts L s (cs.take k) ++ ((((L.drop f).take (t - f)).find? fun e => decide (e.seq ≤ s)).toList) := by
  obtain ⟨hk, he⟩ := List.getElem?_eq_some_iff.1 h
  unfold firsts
  rw [List.take_succ_eq_append_getElem hk, List.filterMap_append, he]
  simp only [List.filterMap_cons, List.filterMap_nil]
  cases ((L.drop f).take (t - f)).find? fun e => decide (e.seq ≤ s) <;> rfl
theorem find_at {α : Type} {q : α → Bool} {x : α} : ∀ {L : List α} {i : Nat}, L[i]? = some x → q x = true → (∀ j y, j < i → L[j]? = some y → q y = false) → L.find? q = some x
  | [], i, h, _, _ => by simp at h
  | a :: l, 0, h, hq, _ => by simp at h; subst h; simp [hq]
  | a :: l, i + 1, h, hq, hno => by
    have h0 := hno 0 a (Nat.succ_pos _) rfl
    rw [List.find?_cons, h0]
    exact find_at (i := i) (by simpa using h) hq (fun j y hj hy => hno (j + 1) y (by omega) (by simpa using hy))
theorem firsts_len (L : List Ent) (s : Int) (cs : List (Nat × Nat)) : (firsts L s cs).length ≤ cs.length := List.length_filterMap_le _ _
theorem cuts_len (L : List Ent) : ∀ (r f i : Nat), (cuts L r f i).length ≤ r := by
  intro r
  induction r with
  | zero => intro f i; simp [cuts]
  | succ r ih =>
    intro f i
    rw [cuts]
    split
    · split
      · exact Nat.le_succ_of_le (ih _ _)
      · simpa using ih _ _
    · simpa using ih _ _
/-- What an entry's parts are bounded by. -/
structure Good (e : Ent) : Prop where
  bk : ∀ x ∈ e.key, x < 256
  bv : ∀ x ∈ e.val, x < 256
  s1 : -9223372036854775808 ≤ e.seq
  s2 : e.seq ≤ 9223372036854775807
  d1 : -9223372036854775808 ≤ e.kind
  d2 : e.kind ≤ 9223372036854775807
theorem Em.good {w : World} {lo hi : Nat} {e : Ent} {g : Hd} (h : Em w lo hi e g) : Good e := ⟨h.bk, h.bv, h.s1, h.s2, h.d1, h.d2⟩
/-- An entry of the call's own. -/
structure Mine (B : Nat) (p : Ent × Hd) (A : World) : Prop where
  k : Own B p.1.key (.slice p.2.kA p.1.key.length p.2.kc) A
  v : Own B p.1.val (.slice p.2.vA p.1.val.length p.2.vc) A
  good : Good p.1
theorem Mine.em {B : Nat} {p : Ent × Hd} {A : World} (h : Mine B p A) : Em A 0 A.heap.size p.1 p.2 := ⟨h.k.bs, h.v.bs, h.good.bk, h.good.bv, h.good.s1, h.good.s2, h.good.d1, h.good.d2⟩
theorem Mine.below {B : Nat} {p : Ent × Hd} {A A' : World} (h : Mine B p A) (hx : Ext A A') : Mine B p A' := ⟨h.k.below hx, h.v.below hx, h.good⟩
theorem Mine.base {B B' : Nat} {p : Ent × Hd} {A : World} (h : Mine B p A) (hB : B' ≤ B) : Mine B' p A := ⟨h.k.base hB, h.v.base hB, h.good⟩
theorem Mine.chg {B : Nat} {p : Ent × Hd} {A A' : World} {S : Nat → Prop} (h : Mine B p A) (hc : Chg S A A') (hS : ∀ k, B ≤ k → ¬ S k) : Mine B p A' := ⟨row_chg h.k hc hS, row_chg h.v hc hS, h.good⟩

/-- A row of entries in a box, each of them of the call's own. -/
structure Seen (B sb : Nat) (R : List (Ent × Hd)) (A : World) : Prop where
  ex : ∃ v, Boxed A sb 26 v ∧ A.ownsRow B 25 4 v R.length (erow R)
  each : ∀ p ∈ R, Mine B p A

theorem rowN_kept {w w' : World} {base s n : Nat} {e : TypeId} {v : Value} {xs : List Value} (h : w.ownsRow base e s v n xs) (hk : ∀ g, v.ownBlock = some g → w'.heap[g]? = w.heap[g]?) : w'.ownsRow base e s v n xs := by
  obtain ⟨h1, h2⟩ := h
  refine ⟨h1, ?_⟩
  rcases h2 with h2 | ⟨g, cap, cur, hv, hg, hh, r⟩
  · exact Or.inl h2
  · exact Or.inr ⟨g, cap, cur, hv, hg, (hk g (by rw [hv]; rfl)).trans hh, r⟩
theorem rowN_lt {w : World} {base s n : Nat} {e : TypeId} {v : Value} {xs : List Value} (h : w.ownsRow base e s v n xs) : ∀ g, v.ownBlock = some g → base ≤ g ∧ g < w.heap.size ∧ ∃ cur, w.heap[g]? = some (.cells cur e (0, 0)) := by
  intro g hg
  rcases h.2 with ⟨rfl, _⟩ | ⟨g', cap, cur, hv, hb, hh, r⟩
  · cases hg
  · rw [hv] at hg
    injection hg with hg
    subst hg
    exact ⟨hb, (Array.getElem?_eq_some_iff.1 hh).1, cur, hh⟩
theorem rowN_base {w : World} {b b' s n : Nat} {e : TypeId} {v : Value} {xs : List Value} (h : w.ownsRow b e s v n xs) (hb : b' ≤ b) : w.ownsRow b' e s v n xs := by
  obtain ⟨h1, h2⟩ := h
  refine ⟨h1, ?_⟩
  rcases h2 with h2 | ⟨g, cap, cur, hv, hg, hh, r⟩
  · exact Or.inl h2
  · exact Or.inr ⟨g, cap, cur, hv, Nat.le_trans hb hg, hh, r⟩
theorem rowN_slice {w : World} {base s n : Nat} {e : TypeId} {v : Value} {xs : List Value} (h : w.ownsRow base e s v n xs) : ∃ A c, v = .slice A n c := by
  rcases h.2 with ⟨rfl, rfl⟩ | ⟨g', cap, cur, hv, _⟩
  · exact ⟨none, 0, rfl⟩
  · exact ⟨_, _, hv⟩
/-- Rows of unlike things lie apart. -/
theorem rows_apart {w : World} {B B' s s' n n' : Nat} {e e' : TypeId} {v v' : Value} {xs xs' : List Value} (h : w.ownsRow B e s v n xs) (h' : w.ownsRow B' e' s' v' n' xs') (hne : e ≠ e') {g : Nat} (hg : v.ownBlock = some g) : v'.ownBlock ≠ some g := by
  intro hg'
  obtain ⟨_, _, c, hc⟩ := rowN_lt h g hg
  obtain ⟨_, _, c', hc'⟩ := rowN_lt h' g hg'
  rw [hc] at hc'
  injection hc' with hc'
  injection hc' with _ h2 _
  exact hne h2
theorem Seen.chg {B sb : Nat} {R : List (Ent × Hd)} {A A' : World} {S : Nat → Prop} (h : Seen B sb R A) (hc : Chg S A A') (hS : ∀ k, B ≤ k → ¬ S k) (hb : ¬ S sb) : Seen B sb R A' := by
  obtain ⟨v, h1, h2⟩ := h.ex
  exact ⟨⟨v, boxed_chg h1 hc hb, rowN_kept h2 fun g hg => hc.block g (rowN_lt h2 g hg).2.1 (hS g (rowN_lt h2 g hg).1)⟩, fun p hp => (h.each p hp).chg hc hS⟩
theorem Seen.base {B B' sb : Nat} {R : List (Ent × Hd)} {A : World} (h : Seen B sb R A) (hB : B' ≤ B) : Seen B' sb R A := by
  obtain ⟨v, h1, h2⟩ := h.ex
  exact ⟨⟨v, h1, rowN_base h2 hB⟩, fun p hp => (h.each p hp).base hB⟩

/-- A copy, as a value. -/
def CpOk (B : Nat) (e : Ent) (v : Value) (u : World) : Prop := ∃ g : Hd, v = e.at_ g ∧ Mine B (e, g) u
theorem Mono.cp (B : Nat) (e : Ent) : Mono (CpOk B e) := fun _ _ _ ⟨g, h, m⟩ hu => ⟨g, h, m.below hu⟩
/-- A literal of one entry. -/
def LtOk (B : Nat) (e : Ent) (v : Value) (u : World) : Prop := ∃ (g : Hd) (b : Nat), v = .slice (some ⟨b, 0, none⟩) 1 1 ∧ Mine B (e, g) u ∧ u.heap[b]? = some (.cells (ecells (e, g)).toArray 25 (0, 0))
theorem Mono.lt (B : Nat) (e : Ent) : Mono (LtOk B e) := fun _ _ _ ⟨g, b, h, m, hb⟩ hu => ⟨g, b, h, m.below hu, ext_heap hu hb⟩

/-- Between two rounds: what is seen of the first k pieces. -/
def LatI (T : List (Ent × Hd)) (s : Int) (lo hi bd : Nat) (w w3 : World) (n₁ k : Nat) (A : World) : Prop :=
  ∃ R, R.map Prod.fst = firsts (T.map Prod.fst) s ((cuts (T.map Prod.fst) T.length 0 0).take k) ∧ Seen n₁ (w.heap.size + 1) R A ∧ Kept lo hi bd w3 A ∧ w3.heap.size ≤ A.heap.size ∧ n₁ ≤ A.heap.size ∧ A.cell? ⟨w.heap.size, 0, none⟩ = some (.int .i64 s) ∧ Below w.heap.size w A
theorem LatI.chg {T : List (Ent × Hd)} {s : Int} {lo hi bd n₁ k : Nat} {w w3 A A' : World} (h : LatI T s lo hi bd w w3 n₁ k A) (hz : w.heap.size + 2 ≤ w3.heap.size) (hc : Chg (Btw w3.heap.size n₁) A A') : LatI T s lo hi bd w w3 n₁ k A' := by
  obtain ⟨R, hR, hS, hK, hz0, hz1, hs, hb⟩ := h
  refine ⟨R, hR, hS.chg hc (fun i hi hb => by have := hb.2; omega) (fun hb => by have := hb.1; omega), fun i hi hlt => ?_, Nat.le_trans hz0 hc.size, Nat.le_trans hz1 hc.size, ?_, hb.trans (hc.below (fun i hb => by have := hb.1; omega) hb.size)⟩
  · exact (hc.block i (Nat.lt_of_lt_of_le hlt hz0) (fun hb => by have := hb.1; omega)).trans (hK i hi hlt)
  · rw [World.cell?_of_block (w := A) (a := ⟨w.heap.size, 0, none⟩) (hc.block w.heap.size (by omega) (fun hb => by have := hb.1; omega))]; exact hs

set_option maxRecDepth 100000 in
set_option maxHeartbeats 8000000 in
theorem latest_any {w : World} {lo hi0 c : Nat} {A : Option Addr} {L : List (Ent × Hd)} (h : Es w lo hi0 A L) (hhi : hi0 ≤ w.heap.size) (hc : L.length ≤ c) (hcm : c ≤ maxLen) (hl : L.length ≤ 1000000000000) (hk : ∀ p ∈ L, p.1.key.length ≤ 1099511627776 ∧ p.1.val.length ≤ 1099511627776) (s : Int) :
    Calls Try.prog 33 #[.slice A L.length c, .int .i64 s] w fun x w' => ∃ (n sb : Nat) (R : List (Ent × Hd)), RiseAt (L.map Prod.fst) n ∧ R.map Prod.fst = firsts ((L.take n).map Prod.fst) s (cuts ((L.take n).map Prod.fst) (L.take n).length 0 0) ∧
      x = .returned (.func (.func 41) #[] #[.pointer (some ⟨sb, 0, none⟩)]) ∧ Ext w w' ∧ w.heap.size ≤ sb ∧ Seen w.heap.size sb R w' := by
  have HE := Lib.hid h
  have HHI := Lib.hid hhi
  have HCC := Lib.hid (And.intro hc hcm)
  have HL := Lib.hid hl
  have HK := Lib.hid hk
  clear h hhi hc hcm hl hk
  have hf1 : Fence.wide.fn 13 := trivial
  have hf2 : Fence.wide.fn 39 := trivial
  have hf3 : Fence.wide.fn 40 := trivial
  have hsl : ∀ n W, n ≤ L.length → (Instr.slice 26 (.slice A L.length c) none (some (.int .i64 (n : Int))) none).run Try.prog W = .ok (.slice A n c) W := fun n W hn => eslice_run0 A L.length c n hn HCC.out.1 W
  have HSL := Lib.hid hsl
  clear hsl
  refine (callsIn_wide (n := 6)).1 ?_
  refine callsIn_of_wp_marks Try.func33 rfl trivial ?_
  simp only [Try.ntmps33, List.size_toArray, List.length_cons, List.length_nil, Nat.reduceAdd, Nat.reduceSub, Array.replicate_succ, Array.replicate_zero, List.push_toArray, List.append_toArray, List.nil_append, List.cons_append]
  obtain ⟨w0, hw0⟩ : ∃ w0, w0 = (w.alloc (.cells #[.int .i64 s] 2)).alloc (.cells #[.slice none 0 0] 26) := ⟨_, rfl⟩
  have HX0 : Hid (Ext w w0) := by rw [hw0]; exact Ext.trans (ext_alloc _ _) (ext_alloc _ _)
  have HZ0 : Hid (w0.heap.size = w.heap.size + 2) := by rw [hw0]; simp [Hid]
  have HB0 : Hid (Boxed w0 (w.heap.size + 1) 26 (.slice none 0 0)) := by rw [hw0]; exact heap_at _ _ (by simp)
  have HS0 : Hid (w0.cell? ⟨w.heap.size, 0, none⟩ = some (.int .i64 s)) := by rw [hw0]; exact cell_new (cell_of (heap_at _ _ rfl) rfl) _
  gi_wp2_with fail
  refine wpIn_wide.2 (wp_scope_straight (wpIn_wide (n := 6).1 ?_))
  gi_wp2_with fail
  refine wpIn_label ?_
  rw [← hw0]
  clear hw0
  gi_wp2_with (gi_at_call 13; refine (callsIn_wide.2 (rising_any (HE.out.below HX0.out HHI.out) (Nat.le_trans HHI.out HX0.out.size) HL.out)).mono ?_; rintro x w2 ⟨n, hn, rfl, hx2⟩; have HN := Lib.hid hn; have HX2 := Lib.hid hx2; have hsl := fun W => HSL.out n W (by have := hn.le; rw [List.length_map] at this; exact this); clear hn hx2)
  refine (callsIn_wide.2 (byKeys_any _ _ _ _)).mono ?_
  rintro x w3 ⟨rfl, hw3⟩
  obtain ⟨T, hT⟩ : ∃ T, T = L.take n := ⟨_, rfl⟩
  have hnl : n ≤ L.length := by have := HN.out.le; rw [List.length_map] at this; exact this
  have hTl : T.length = n := by rw [hT, List.length_take, Nat.min_eq_left hnl]
  have HTE : Hid (Es w3 lo hi0 A T) := by
    rw [hT, hw3]
    exact ((HE.out.below (Ext.trans HX0.out HX2.out) HHI.out).below (ext_alloc w2 _) (Nat.le_trans HHI.out (Ext.trans HX0.out HX2.out).size)).take hnl
  have HTL : Hid (T.length ≤ 1000000000000) := by have := HL.out; unfold Hid; omega
  have HTC : Hid (T.length ≤ c) := by have := HCC.out.1; unfold Hid; omega
  have HTK : Hid (∀ p ∈ T, p.1.key.length ≤ 1099511627776 ∧ p.1.val.length ≤ 1099511627776) := fun p hp => HK.out p (by rw [hT] at hp; exact List.mem_of_mem_take hp)
  have HTT := Lib.hid hT
  have HX3 : Hid (Ext w0 w3) := by rw [hw3]; exact Ext.trans HX2.out (ext_alloc _ _)
  have HZ3 : Hid (w3.heap.size = w2.heap.size + 1) := by rw [hw3]; simp [Hid]
  have HZ2 : Hid (w.heap.size + 2 ≤ w2.heap.size) := by have := HX2.out.size; have := HZ0.out; unfold Hid; omega
  have HBD : Hid (w3.cell? ⟨w2.heap.size, 0, none⟩ = some (.slice A T.length c)) := by rw [hw3, hTl]; exact cell_of (heap_at _ _ rfl) rfl
  clear hsl hT hnl
  subst hTl
  gi_wp2_with fail
  rw [← hw3]
  clear hw3
  refine wpIn_over rfl enters_byKeys (byKeys_iter HTE.out (Nat.le_trans HHI.out (Ext.trans HX0.out HX3.out).size) HTC.out HCC.out.2 HTL.out HBD.out) (fun _ => rfl)
    (LatI T s lo hi0 w2.heap.size w w3)
    (fun _ _ => False) (fun _ _ _ h => by obtain ⟨R, _, _, h, _⟩ := h; exact h) ?hI (fun _ _ _ h _ => h) ?h0 ?round ?done (fun _ _ _ _ h _ => h.elim)
  case hI =>
    rintro n₁ k A1 A2 hn hi hc
    exact hi.chg (by have := HZ3.out; have := HZ2.out; omega) hc
  case h0 =>
    intro A1 hx
    have hx3 := Ext.trans HX3.out hx
    refine ⟨[], by simp [firsts], ⟨⟨_, ext_heap hx3 HB0.out, World.ownsRow_nil _ _ _ _⟩, by simp⟩, fun i _ hlt => hx.block i hlt, hx.size, Nat.le_refl _, ext_cell hx3 HS0.out, Ext.trans HX0.out hx3⟩
  case round =>
    rintro l2 n₁ k ⟨X, n', c'⟩ A1 hl1 hl2 hn hnA hi hk ⟨f, t, hcut, hft, htn, hx⟩
    obtain ⟨hX, rfl, rfl⟩ : X = (if c = f then A else A.map (·.add (f * 4))) ∧ n' = t - f ∧ c' = c - f := by injection hx with h1 h2; injection h2 with h2 h3; exact ⟨h1, h2, h3⟩
    have HCUT := Lib.hid hcut
    have HN1 := Lib.hid hn
    have HL12 := Lib.hid (And.intro hl1 hl2)
    have HI1 := Lib.hid hi
    obtain ⟨P, hP⟩ : ∃ P, P = (T.drop f).take (t - f) := ⟨_, rfl⟩
    have hPl : P.length = t - f := by rw [hP]; simp; omega
    have HPP : Hid (∀ A', Kept lo hi0 w2.heap.size w3 A' → Es A' lo hi0 X P) := fun A' hk => by
      rw [hX, hP]
      exact ((hk.es (Nat.le_trans HHI.out (Ext.trans HX0.out HX3.out).size) HTE.out).drop (by omega) HTC.out).take (by rw [List.length_drop]; omega)
    have HPK : Hid (∀ p ∈ P, p.1.key.length ≤ 1099511627776 ∧ p.1.val.length ≤ 1099511627776) := fun p hp => HTK.out p (by rw [hP] at hp; exact List.mem_of_mem_drop (List.mem_of_mem_take hp))
    have HPF : Hid (P.map Prod.fst = ((T.map Prod.fst).drop f).take (t - f)) := by rw [hP]; unfold Hid; rw [List.map_take, List.map_drop]
    have HP0 : Hid (0 < P.length) := by unfold Hid; omega
    have HPL : Hid (P.length ≤ 1000000000000) := by have := HTL.out; unfold Hid; omega
    have hlI : (P.length : Int) ≤ 1000000000000 := by have := HPL.out; omega
    rw [← hPl]
    clear hcut hn hl1 hl2 hi hx hX hP hPl hft htn hk hnA
    dsimp only [pieceV]
    gi_wp2
    refine ⟨Step.refl _ _ _, fun A2 hc => ?_⟩
    have HI2 := Lib.hid (HI1.out.chg (by have := HZ3.out; have := HZ2.out; omega) (hc.mono fun i _ e => ⟨by have := HL12.out.1; omega, by have := HL12.out.2; omega⟩))
    clear hc
    obtain ⟨R, hR, hS, hK, hz0, hz1, hs, hb⟩ := HI2.out
    have HRR := Lib.hid hR
    have HSS := Lib.hid hS
    have HKK := Lib.hid hK
    have HZZ := Lib.hid (And.intro hz0 hz1)
    have HBB := Lib.hid hb
    have HEE := Lib.hid (HPP.out A2 hK)
    obtain ⟨b, o, rfl⟩ := HEE.out.base HP0.out
    have HSQ0 := Lib.hid hs
    clear hR hS hK hz0 hz1 hb
    gi_wp2
    gi_loopw [17] (fun x wr => ∃ i : Nat, i ≤ P.length ∧ x = .int .i64 (i : Int) ∧ Hid (∀ (j : Nat) (p : Ent × Hd), j < i → P[j]? = some p → ¬ p.1.seq ≤ s) ∧ Hid (Ext A2 wr)) (fun x _ => P.length - (intOf x).toNat)
    case atStart => exact ⟨0, Nat.zero_le _, rfl, fun j p hj => absurd hj (Nat.not_lt_zero _), Ext.refl _⟩
    case round =>
      obtain ⟨i, hi, rfl, HNO, HXR⟩ := hrel
      by_cases hlt : i < P.length
      · have d : decide ((i : Int) < (P.length : Int)) = true := by simp; omega
        have dn : decide (i < P.length) = true := by simp; omega
        obtain ⟨p, hp⟩ : ∃ p, P[i]? = some p := ⟨_, List.getElem?_eq_getElem hlt⟩
        have HP := Lib.hid hp
        have hA2 : hi0 ≤ A2.heap.size := Nat.le_trans (Nat.le_trans HHI.out (Ext.trans HX0.out HX3.out).size) HZZ.out.1
        have HEr := Lib.hid (HEE.out.below HXR.out hA2)
        obtain ⟨c0, c1, c2, c3⟩ := HEr.out.get hp
        have hs1 := ext_cell HXR.out hs
        have hs2 := cell_new hs1 (.cells #[.slice p.2.kA p.1.key.length p.2.kc, .int .i64 p.1.seq, .int .i64 p.1.kind, .slice p.2.vA p.1.val.length p.2.vc] 25)
        have n1 : (0 : Int) ≤ (i : Int) := by omega
        have n2 : (i : Int) < (P.length : Int) := by omega
        have HLT := Lib.hid hlt
        by_cases hseq : p.1.seq ≤ s
        · have ds : decide (p.1.seq ≤ s) = true := decide_eq_true hseq
          have HSQ := Lib.hid hseq
          clear hlt hp hseq hi hs
          gi_wp2
          obtain ⟨v, hbox, hrow⟩ := HSS.out.ex
          obtain ⟨w4, hw4⟩ : ∃ w4, w4 = wr.alloc (.cells #[.slice p.2.kA p.1.key.length p.2.kc, .int .i64 p.1.seq, .int .i64 p.1.kind, .slice p.2.vA p.1.val.length p.2.vc] 25) := ⟨_, rfl⟩
          have HX4 : Hid (Ext A2 w4) := by rw [hw4]; exact Ext.trans HXR.out (ext_alloc _ _)
          have HX45 : Hid (Ext wr w4) := by rw [hw4]; exact ext_alloc _ _
          have HBE : Hid (w4.heap[wr.heap.size]? = some (.cells #[.slice p.2.kA p.1.key.length p.2.kc, .int .i64 p.1.seq, .int .i64 p.1.kind, .slice p.2.vA p.1.val.length p.2.vc] 25 (0, 0))) := by rw [hw4]; exact heap_at _ _ rfl
          rw [← hw4]
          have HBX4 : Hid (Boxed w4 (w.heap.size + 1) 26 v) := ext_heap HX4.out hbox
          have HRW : Hid (∀ u, Ext w4 u → u.ownsRow n₁ 25 4 v R.length (erow R)) := fun u hu => rowN_kept hrow fun g hg => (Ext.trans HX4.out hu).block g (rowN_lt hrow g hg).2.1
          have HEM : Hid (Em w4 lo hi0 p.1 p.2) := (HEr.out.each p (List.mem_of_getElem? HP.out)).below HX45.out (Nat.le_trans (Nat.le_trans (Nat.le_trans HHI.out (Ext.trans HX0.out HX3.out).size) HZZ.out.1) HXR.out.size)
          have HH4 : Hid (hi0 ≤ w4.heap.size) := Nat.le_trans (Nat.le_trans (Nat.le_trans HHI.out (Ext.trans HX0.out HX3.out).size) HZZ.out.1) HX4.out.size
          have HNN : Hid (n₁ ≤ w4.heap.size) := Nat.le_trans HZZ.out.2 HX4.out.size
          have HPK1 := Lib.hid (HPK.out p (List.mem_of_getElem? HP.out))
          have b1 := HBX4.out.cell
          have b2 := cell_of HBE.out (k := 0) rfl
          have b3 := cell_of HBE.out (k := 1) rfl
          have b4 := cell_of HBE.out (k := 2) rfl
          have b5 := cell_of HBE.out (k := 3) rfl
          have HMIX : Try.prog.follows .mixedOrders = true := by kernel_rfl
          have HRL : Hid (R.length ≤ 1000000000000) := by
            have h1 := congrArg List.length HRR.out
            have h2 := firsts_len (T.map Prod.fst) s ((cuts (T.map Prod.fst) T.length 0 0).take k)
            have h3 := cuts_len (T.map Prod.fst) T.length 0 0
            have h4 := HTL.out
            rw [List.length_map] at h1
            rw [List.length_take] at h2
            unfold Hid; omega
          clear hw4 hbox hrow c0 c1 c2 c3 hs1 hs2
          refine flow_tail_in HMIX (by kernel_rfl) (fun _ _ h => h) [Is v, Is (.agg #[.slice p.2.kA p.1.key.length p.2.kc, .int .i64 p.1.seq, .int .i64 p.1.kind, .slice p.2.vA p.1.val.length p.2.vc]), CpOk n₁ p.1, LtOk n₁ p.1] 4 (by kernel_rfl) (by kernel_rfl) (by kernel_rfl) (by kernel_rfl) ?mono (fun f1 => ?obl) ?fin
          case mono =>
            simp only [List.forall_mem_cons, List.not_mem_nil, false_imp_iff, implies_true, and_true]
            exact ⟨.is _, .is _, .cp _ _, .lt _ _⟩ --.rws _ _, .rws _ _⟩
          case fin =>
            intro g1 u hu hg
            simp only [List.take_succ_cons, List.take_zero, List.drop_succ_cons, List.drop_zero, puts, Act.put, List.setIfInBounds_toArray, List.set_cons_zero, List.set_cons_succ]
            have h0 : g1 0 = v := hg 0 (by decide)
            obtain ⟨g, gb, h3, hm, hblk⟩ := (show LtOk n₁ p.1 (g1 3) u from hg 3 (by decide))
            rw [h0, h3]
            have HU : Hid (Ext w4 u) := Ext.trans (Ext.drew w4) hu
            have HM := Lib.hid hm
            have HBLK := Lib.hid hblk
            clear h0 h3 hm hblk hg hu b1 b2 b3 b4 b5
            obtain ⟨i0, hi0', ix0, ix1, ix2⟩ := info_parts einfo
            refine wpList_append_own _ rfl (.tmp 25) (.tmp 28) 26 rfl n₁ 25 i0 _ 4 64 Try.underlying26 hi0' ix0 ix1 ix2 rfl (by decide) v R.length (erow R) rfl (HRW.out u HU.out) ⟨gb, 0, none⟩ 1 1 (ecells (p.1, g)) rfl rfl (fun j q hj => ?n1) (fun q hq => ?n2) ?n3 ?n4 (Nat.le_trans HNN.out HU.out.size) (fun v' w5 ho hgr _ => ?rest)
            case n1 => rw [addr_add, Nat.zero_add]; exact cell_of HBLK.out (by simpa using hj)
            case n2 => exact erow_one [(p.1, g)] q (by simpa [erow] using hq)
            case n3 => have := HRL.out; unfold maxLen; omega
            case n4 => have := HRL.out; omega
            case rest =>
              have hlt := rowN_lt (HRW.out u HU.out)
              have HGR := Lib.hid hgr
              have HOW := Lib.hid ho
              have HSB : Hid (w.heap.size + 1 < w3.heap.size) := by have := HZ3.out; have := HZ2.out; unfold Hid; omega
              have hne : some (w.heap.size + 1) ≠ v.ownBlock := fun e => by have := (hlt _ e.symm).1; have := HN1.out; have := HSB.out; omega
              have hb5 : Boxed w5 (w.heap.size + 1) 26 v := (hgr.block _ (Nat.lt_of_lt_of_le HBX4.out.lt HU.out.size) hne).trans (ext_heap HU.out HBX4.out)
              have HB5 := Lib.hid hb5
              have HVL := Lib.hid hlt
              obtain ⟨A', c', rfl⟩ := rowN_slice ho
              have q0 := hb5.cell
              have z0 := hb5.frozen
              clear hgr ho hlt hne hb5
              go_wp2_with fail
              gi_wp2
              have hS : Chg (fun i => i = w.heap.size + 1 ∨ n₁ ≤ i) A2 (w5.setCell ⟨w.heap.size + 1, 0, none⟩ (.slice A' (R.length + 1) c')) :=
                ((Chg.of_ext (Ext.trans HX4.out HU.out)).trans (Chg.grown HGR.out fun k hk => .inr (HVL.out k hk).1)).trans (Chg.setCell _ _ _ (.inl rfl))
              refine ⟨Step.of_chg hS HZZ.out.2 (fun i h1 h2 h3 => by have := HSB.out; omega), R ++ [(p.1, g)], ?_, ⟨⟨_, HB5.out.set _, ?_⟩, ?_⟩, fun i hi hlt => ?_, Nat.le_trans HZZ.out.1 hS.size, Nat.le_trans HZZ.out.2 hS.size, ?_, HBB.out.trans (hS.below (fun i h => by have := HN1.out; have := HSB.out; omega) HBB.out.size)⟩
              · rw [firsts_next HCUT.out, List.map_append, HRR.out, find_at (i := i) (x := p.1) (by rw [← HPF.out, List.getElem?_map, HP.out]; rfl) (by simpa using HSQ.out) (fun j y hj hy => by
                  rw [← HPF.out, List.getElem?_map] at hy
                  cases hpj : P[j]? with
                  | none => rw [hpj] at hy; cases hy
                  | some p' => rw [hpj] at hy; injection hy with hy; rw [← hy]; have h9 := HNO.out j p' hj hpj; exact decide_eq_false (by omega))]
                rfl
              · rw [List.length_append, erow_append]
                exact rowN_kept HOW.out fun g' hg' => Below.heap_setCell _ _ _ _ (by have := (rowN_lt HOW.out g' hg').1; have := HN1.out; have := HSB.out; show g' ≠ w.heap.size + 1; omega)
              · have fin1 : ∀ q : Ent × Hd, Mine n₁ q u → Mine n₁ q (w5.setCell ⟨w.heap.size + 1, 0, none⟩ (.slice A' (R.length + 1) c')) := fun q hq => by
                  have hk : ∀ {l : List Nat} {x : Value}, Own n₁ l x u → Own n₁ l x (w5.setCell ⟨w.heap.size + 1, 0, none⟩ (.slice A' (R.length + 1) c')) := fun hx => by
                    refine Own.far (row_kept hx fun g' hg' => HGR.out.block g' (row_lt hx g' hg').2 (fun e => ?_)) (by have := HN1.out; have := HSB.out; show w.heap.size + 1 < n₁; omega)
                    exact rows_apart hx (HRW.out u HU.out) (by decide) hg' e.symm
                  exact ⟨hk hq.k, hk hq.v, hq.good⟩
                intro q hq
                rcases List.mem_append.1 hq with hq | hq
                · exact fin1 q ((HSS.out.each q hq).below (Ext.trans HX4.out HU.out))
                · rw [List.mem_singleton] at hq; subst hq; exact fin1 _ HM.out
              · have h1 := HKK.out i hi hlt
                have h2 : hi0 ≤ w.heap.size := HHI.out
                have h3 := HZ2.out
                exact (hS.block i (Nat.lt_of_lt_of_le hlt HZZ.out.1) (fun h => by have := HN1.out; omega)).trans h1
              · rw [World.cell?_of_block (w := A2) (a := ⟨w.heap.size, 0, none⟩) (hS.block w.heap.size (by have := HZZ.out.1; have := HSB.out; omega) (fun h => by have := HN1.out; have := HSB.out; omega))]; exact HSQ0.out
          case obl =>
            refine ⟨fun u hu hd => ?_, ?_⟩
            · have hu2 := Ext.trans (Ext.drew w4) hu
              have q1 := ext_cell hu2 b1
              go_simp
              exact ⟨Ext.refl _, rfl⟩
            refine ⟨fun u hu hd => ?_, ?_⟩
            · simp only [Act.put, List.setIfInBounds_toArray, List.set_cons_zero, List.set_cons_succ]
              have hu2 := Ext.trans (Ext.drew w4) hu
              have q0 := ext_cell hu2 b2
              have q1 := ext_cell hu2 b3
              have q2 := ext_cell hu2 b4
              have q3 := ext_cell hu2 b5
              go_simp
              exact ⟨Ext.refl _, rfl⟩
            refine ⟨fun u hu hd => ?_, ?_⟩
            · simp only [Act.put, List.setIfInBounds_toArray, List.set_cons_zero, List.set_cons_succ]
              have e1 : f1 1 = (.agg #[.slice p.2.kA p.1.key.length p.2.kc, .int .i64 p.1.seq, .int .i64 p.1.kind, .slice p.2.vA p.1.val.length p.2.vc]) := hd 1 (by kernel_rfl)
              have hu2 := Ext.trans (Ext.drew w4) hu
              go_simp
              refine (copy_any (HEM.out.below hu2 HH4.out) (Nat.le_trans HH4.out hu2.size) HPK1.out.1 HPK1.out.2).mono ?_
              rintro x w9 ⟨hx9, g, rfl, ok, ov⟩
              exact ⟨_, rfl, hx9, g, rfl, ok.base (Nat.le_trans HNN.out hu2.size), ov.base (Nat.le_trans HNN.out hu2.size), HEM.out.good⟩
            refine ⟨fun u hu hd => ?_, ?_⟩
            · simp only [Act.put, List.setIfInBounds_toArray, List.set_cons_zero, List.set_cons_succ]
              obtain ⟨g, e2, hm⟩ := (show CpOk n₁ p.1 (f1 2) u from hd 2 (by kernel_rfl))
              have HM := Lib.hid hm
              clear hm
              unfold Ent.at_ at e2
              go_simp
              exact ⟨ext_alloc _ _, g, _, rfl, HM.out.below (ext_alloc _ _), heap_at _ _ rfl⟩
            trivial
        · have ds : decide (p.1.seq ≤ s) = false := decide_eq_false hseq
          have HSQ := Lib.hid hseq
          clear hlt hp hseq hi hs
          gi_wp2
          refine ⟨⟨i + 1, HLT.out, rfl, fun j p' hj hp' => ?_, Ext.trans HXR.out (ext_alloc _ _)⟩, ?_⟩
          · by_cases hji : j = i
            · rw [hji, HP.out] at hp'
              injection hp' with hp'
              rw [← hp']; exact HSQ.out
            · exact HNO.out j p' (by omega) hp'
          · have := HLT.out; simp [intOf]; omega
      · have d : decide ((i : Int) < (P.length : Int)) = false := by simp; omega
        have dn : decide (i < P.length) = false := by simp; omega
        have hfind : ((T.map Prod.fst).drop f |>.take (t - f)).find? (fun e => decide (e.seq ≤ s)) = none := by
          rw [← HPF.out, List.find?_eq_none]
          intro e he
          obtain ⟨p, hp, rfl⟩ := List.mem_map.1 he
          obtain ⟨j, hj⟩ := List.mem_iff_getElem?.1 hp
          have hjl := (List.getElem?_eq_some_iff.1 hj).1
          have := HNO.out j p (by omega) hj
          simpa using this
        have HFD := Lib.hid hfind
        clear hlt hi hfind
        gi_wp2
        have hx := HXR.out
        have hLI := (HI2.out.chg (by have := HZ3.out; have := HZ2.out; omega) (Chg.of_ext hx))
        obtain ⟨R', hR', hS', hK', h1', h2', h3', h4'⟩ := hLI
        refine ⟨Step.of_chg (S := fun _ => False) (Chg.of_ext hx) HZZ.out.2 (fun _ _ _ h => h), R', ?_, hS', hK', h1', h2', h3', h4'⟩
        rw [firsts_next HCUT.out, HFD.out, hR']
        simp
  case done =>
    rintro D' n₁ W' hDl hDn hn hi hD
    have HDL := Lib.hid (And.intro hDl hDn)
    have HI2 := Lib.hid (hi.chg (A' := W'.putObj D' (.deferred none)) (by have := HZ3.out; have := HZ2.out; omega) ((putObj_chg _ _ _).mono fun i _ e => ⟨by omega, by omega⟩))
    have HDD := Lib.hid hD
    clear hDl hDn hn hi hD
    gi_wp2
    rw [Exit.noGoto_ret]
    refine ⟨by simp, .inl ⟨_, _, rfl, run_takeDeferred HDD.out, ?_⟩⟩
    refine ⟨_, results_tmp rfl _ _ _, ?_⟩
    obtain ⟨R, hR, hS, _, _, _, _, hb⟩ := HI2.out
    rw [List.take_length] at hR
    exact ⟨T.length, w.heap.size + 1, R, HN.out, by rw [← HTT.out]; exact hR, rfl, hb, by omega, hS.base (by have := HDL.out.1; have := HDL.out.2; have := HZ3.out; have := HZ2.out; omega)⟩
end Go.Proofs.Ytcofnbeemfhcpaa
