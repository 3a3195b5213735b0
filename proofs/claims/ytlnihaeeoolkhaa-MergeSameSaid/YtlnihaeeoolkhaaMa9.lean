/- Gseen Gsamep Gclip Glit Gknown Gargs, joined. -/
import Derived.Test.YtlnihaeeoolkhaaMa6
import Derived.Test.YtlnihaeeoolkhaaMa8
import Derived.Test.YtlnihaeeoolkhaaMa7
import Derived.Test.YtlnihaeeoolkhaaMa2
import Derived.Test.YtlnihaeeoolkhaaMa4

/- The program's Seen goes over the pairs that are seen (merge). -/
namespace Go.Proofs.Ytlnihaeeoolkhaa
open Go.ChangeShapes Go.WideShapes Go.ChangeAt Go.RowKit Go.Shelf
attribute [local go_sem] Oper.semAt_some

/-- What holds ahead of the k-th pair. -/
structure SeenI (J : (Nat → Prop) → (Nat → Prop) → Nat → World → Prop) (W W3 : World) (lab gf hf b1 b2 : Nat) (lb lb2 : Array Value) (D K : Nat → Prop) (k : Nat) (A : World) : Prop where
  j : J D (fun i => K i ∨ i = W.heap.size ∨ i = b1 ∨ i = b2) k A
  y : Boxed A W.heap.size 61 (.func (.yield lab) #[] #[])
  c1 : Boxed A b1 27 (.func (.func gf) #[] lb)
  c2 : Boxed A b2 55 (.func (.func hf) #[] lb2)
  n : ¬ D W.heap.size ∧ ¬ D b1 ∧ ¬ D b2
  dz : ∀ i, D i → W.heap.size ≤ i
  kz : ∀ i, K i → W.heap.size ≤ i
  z : W3.heap.size ≤ A.heap.size
theorem SeenI.next {J : (Nat → Prop) → (Nat → Prop) → Nat → World → Prop} {W W3 : World} {lab gf hf b1 b2 k : Nat} {lb lb2 : Array Value} {D K D' K' : Nat → Prop} {A A' : World} (h : SeenI J W W3 lab gf hf b1 b2 lb lb2 D K k A) (_h3 : W.heap.size ≤ W3.heap.size)
    (hJ : ∀ D K k A D' K' A', J D K k A → Chg D A A' → (∀ i, D' i → D i ∨ A.heap.size ≤ i) → (∀ i, K' i → K i ∨ A.heap.size ≤ i) → J D' K' k A')
    (hc : Chg D A A') (hD : ∀ i, D' i → D i ∨ A.heap.size ≤ i) (hK : ∀ i, K' i → K i ∨ A.heap.size ≤ i) : SeenI J W W3 lab gf hf b1 b2 lb lb2 D' K' k A' := by
  have z := h.z
  have l1 := h.y.lt
  have l2 := h.c1.lt
  have l3 := h.c2.lt
  refine ⟨hJ _ _ _ _ _ _ _ h.j hc hD (fun i hi => ?_), boxed_chg h.y hc h.n.1, boxed_chg h.c1 hc h.n.2.1, boxed_chg h.c2 hc h.n.2.2, ⟨fun hd => ?_, fun hd => ?_, fun hd => ?_⟩, fun i hi => ?_, fun i hi => ?_, Nat.le_trans h.z hc.size⟩
  · rcases hi with hi | hi
    · exact (hK i hi).imp .inl id
    · exact .inl (.inr hi)
  · exact (hD _ hd).elim h.n.1 (fun h9 => by omega)
  · exact (hD _ hd).elim h.n.2.1 (fun h9 => by omega)
  · exact (hD _ hd).elim h.n.2.2 (fun h9 => by omega)
  · exact (hD i hi).elim (h.dz i) (fun h9 => by omega)
  · exact (hK i hi).elim (h.kz i) (fun h9 => by omega)

set_option maxRecDepth 100000 in
set_option maxHeartbeats 8000000 in
theorem seenfn_iter {L : List Ent} {gf B0 bp ba : Nat} {lb : Array Value} {s : Int} {C0 : World → Prop} {w : World}
    (hall : ∀ u, Ext w u → MIter gf lb B0 L C0 (fun _ => False) u) (eg : ∀ args w, (callFunc gf args).run Try.prog w = .ok (.enter gf args) w) (hB0 : B0 ≤ w.heap.size) (hkl : ∀ e ∈ L, e.key.length ≤ 140737488351232 ∧ e.val.length ≤ 140737488351232) :
    PIter 38 #[.pointer (some ⟨bp, 0, none⟩), .pointer (some ⟨ba, 0, none⟩)] B0 (wantL (seesB s) (seenN s) none L) (fun A => C0 A ∧ Boxed A bp 2 (.int .i64 s) ∧ Boxed A ba 27 (.func (.func gf) #[] lb)) (fun _ => False) w := by
  intro mm lab J Jx W hx hC hJ hJx h0 hY
  have HC := Lib.hid hC
  have HJ := Lib.hid hJ
  have HJX := Lib.hid hJx
  have HY := Lib.hid hY
  have HXw := Lib.hid hx
  have HALL := Lib.hid hall
  have HB0 := Lib.hid hB0
  have HKL := Lib.hid hkl
  have HEG := Lib.hid eg
  have HJ0 := Lib.hid h0
  obtain ⟨h00, hb1, hb2⟩ := hC _ _ _ _ (h0 W (fun _ => False) (fun _ => False) (Ext.refl _) (fun _ h => h.elim) (fun _ h => h.elim))
  have HPA := Lib.hid (And.intro hb1 hb2)
  obtain ⟨W1, hW1⟩ : ∃ W1, W1 = W.alloc (.cells #[.func (.yield lab) #[] #[]] 61) := ⟨_, rfl⟩
  have HX1 : Hid (Ext W W1) := by rw [hW1]; exact ext_alloc _ _
  have HZ1 : Hid (W1.heap.size = W.heap.size + 1) := by rw [hW1]; simp [Hid]
  have HB1 : Hid (Boxed W1 W.heap.size 61 (.func (.yield lab) #[] #[])) := by rw [hW1]; exact heap_at _ _ rfl
  have c1 := Boxed.cell (boxed_ext HPA.out.1 HX1.out)
  clear hall eg hB0 hkl hC hJ hJx h0 hY hx h00 hb1 hb2
  refine (callsIn_wide (n := 6)).1 ?_
  refine callsIn_of_wp_marks Try.func38 rfl trivial ?_
  simp only [Try.ntmps38, List.size_toArray, List.length_cons, List.length_nil, Nat.reduceAdd, Nat.reduceSub, Array.replicate_succ, Array.replicate_zero, List.push_toArray, List.append_toArray, List.nil_append, List.cons_append]
  refine wpIn_wide.2 ?_
  rw [hW1] at c1
  go_wp2_with fail
  rw [← hW1]
  clear hW1 c1
  refine (seenAt_any (B := 0)).mono ?_
  rintro x W2 ⟨bs, bf, bl, rfl, hne, hlo, hst, hx2, hbl⟩
  obtain ⟨W3, hW3⟩ : ∃ W3, W3 = W2.alloc (.cells #[seenV bs bf bl] 55) := ⟨_, rfl⟩
  have HX3 : Hid (Ext W2 W3) := by rw [hW3]; exact ext_alloc _ _
  have HQ : Hid (Boxed W3 W2.heap.size 55 (seenV bs bf bl)) := by rw [hW3]; exact boxed_alloc
  have HZ3 : Hid (W3.heap.size = W2.heap.size + 1) := by rw [hW3]; simp [Hid]
  have HX2 : Hid (Ext W1 W2) := hx2
  have HNE := Lib.hid (And.intro hne hlo)
  have HST := Lib.hid hst
  have HBL := Lib.hid hbl
  have c2 := Boxed.cell (boxed_ext HPA.out.2 ((HX1.out.trans HX2.out).trans HX3.out))
  clear hne hlo hst hx2 hbl
  unfold seenV at hW3 ⊢
  rw [hW3] at c2
  go_wp2_with fail
  rw [← hW3]
  clear hW3 c2
  refine only_any.mono ?_
  rintro x W4 ⟨b1, b2, rfl, hn12, hl1, hl2, hB1, hB2, hx4⟩
  have HX4 : Hid (Ext W3 W4) := hx4
  have HBB := Lib.hid (And.intro hB1 hB2)
  have HLB := Lib.hid (And.intro hl1 hl2)
  clear hn12 hl1 hl2 hB1 hB2 hx4
  go_wp2_with fail
  rename_i Q9
  refine (wpIn_wide (n := 6)).1 ?_
  have hw4 : Ext W W4 := ((HX1.out.trans HX2.out).trans HX3.out).trans HX4.out
  have HW4 := Lib.hid hw4
  have s0 := HXw.out.size
  have s1 := HX1.out.size
  have s2 := HX2.out.size
  have s3 := HZ3.out
  have s4 := HX4.out.size
  have z1 := HZ1.out
  have p2 := HB0.out
  obtain ⟨⟨n1, n2, n3⟩, q1, q2, q3⟩ := HNE.out
  have t1 := HST.out.sq.lt
  have t2 := HST.out.fl.lt
  have t3 := HBL.out.lt
  have l1 := HLB.out.1
  have l2 := HLB.out.2
  have HSZ : Hid (W.heap.size < W4.heap.size ∧ W.heap.size < W3.heap.size ∧ (∀ i, (i = bs ∨ i = bf ∨ i = bl ∨ i = W2.heap.size) → W.heap.size < i ∧ i < W3.heap.size) ∧ B0 ≤ W.heap.size) := ⟨by omega, by omega, fun i hi => by rcases hi with h | h | h | h <;> omega, by omega⟩
  have hsees : SeesSt 0 bs bf bl W2.heap.size s none (fun i => i = bs ∨ i = bf ∨ i = bl ∨ i = W2.heap.size) W4 := by
    refine ⟨(HST.out.ext HX3.out).ext HX4.out, Nat.zero_le _, boxed_ext HQ.out HX4.out, ⟨.inl rfl, .inr (.inl rfl), .inr (.inr (.inl rfl)), .inr (.inr (.inr rfl))⟩, fun v hv g hg => ?_, fun b hb => by omega⟩
    rw [boxed_one hv (boxed_ext (boxed_ext HBL.out HX3.out) HX4.out)] at hg
    cases hg
  have hit := only_iter (b1 := b1) (b2 := b2) (C0 := C0) (w := W4) (fun u hu => HALL.out u (HXw.out.trans (hw4.trans hu))) HEG.out (enters_of Try.func39 (by kernel_rfl) rfl)
    (wants_sees (B0 := B0) (B := 0) (s := s) (L := L) n1 n2 n3 (by omega) (by omega) (fun e he => (HKL.out e he).1)) hsees (fun _ h => h) (fun b hb => by omega) (by omega) HKL.out
  have HIT := Lib.hid hit
  clear hit hsees hw4 s0 s1 s2 s3 s4 z1 p2 n1 n2 n3 q1 q2 q3 t1 t2 t3 l1 l2
  refine wpIn_overX rfl enters_only1 (fun i hi => by have := (HSZ.out.2.2.1 i hi).2; have := HX4.out.size; omega) HIT.out (fun _ => rfl)
    (SeenI J W W4 lab gf 39 b1 b2 lb #[.pointer (some ⟨W2.heap.size, 0, none⟩)]) (fun D c A => c = .ret ∧ Jx D A)
    (fun D K k A h => ⟨(HC.out _ _ _ _ h.j).1, h.c1, h.c2, trivial⟩) ?hI ?hIx ?h0 ?rnd ?hok ?done ?stop
  case hI => exact fun D K k A D' K' A' h hc hD hK => h.next (Nat.le_of_lt HSZ.out.1) HJ.out hc hD hK
  case hIx => exact fun D c A A' ⟨h1, h2⟩ hc => ⟨h1, HJX.out _ _ _ h2 hc⟩
  case h0 =>
    intro A D K hA hD hK
    have hz := HSZ.out.2.2.1
    have h1 := HSZ.out.1
    have h2 := HSZ.out.2.1
    have l1 := HLB.out.1
    have l2 := HLB.out.2
    have m1 := HBB.out.1.lt
    have m2 := HBB.out.2.lt
    have hD' : ∀ i, D i → W.heap.size < i := fun i h => by
      rcases hD i h with h | h
      · exact (hz i h).1
      · omega
    have hK' : ∀ i, K i → W.heap.size < i := fun i h => by
      rcases hK i h with h | h
      · exact (hz i h).1
      · omega
    refine ⟨HJ0.out A _ _ (HW4.out.trans hA) (fun i h => .inr (Nat.le_of_lt (hD' i h))) (fun i h => .inr ?_), boxed_ext (boxed_ext (boxed_ext HB1.out HX2.out) (HX3.out.trans HX4.out)) hA, boxed_ext HBB.out.1 hA, boxed_ext HBB.out.2 hA, ⟨fun h => by have := hD' _ h; omega, fun h => ?_, fun h => ?_⟩, fun i h => Nat.le_of_lt (hD' i h), fun i h => Nat.le_of_lt (hK' i h), hA.size⟩
    · rcases h with h | h | h | h
      · exact Nat.le_of_lt (hK' i h)
      · omega
      · omega
      · omega
    · rcases hD _ h with h | h
      · have := (hz _ h).2; omega
      · omega
    · rcases hD _ h with h | h
      · have := (hz _ h).2; omega
      · omega
  case hok =>
    rintro D K D' K' k x A ⟨h1, h2⟩ ⟨od, hd⟩ ⟨ol, hl⟩ hD' _ _ _
    refine ⟨h1, h2.1, fun A' T hc hT => h2.2 A' T hc fun b hb => ?_⟩
    have hBW := HSZ.out
    rcases hT b hb with h | h
    · rcases hD' b h with h | h | h
      · exact .inl h
      · exact .inr (.inr ⟨by omega, fun c fz e => by rw [h, hd] at e; cases e⟩)
      · exact .inr (.inr ⟨by omega, fun c fz e => by rw [h, hl] at e; cases e⟩)
    · exact .inr h
  case done =>
    rintro M k W5 D K rfl hDm hKm hi hk hd
    have HI := Lib.hid hi
    have HDM := Lib.hid (And.intro hDm hd)
    have HK := Lib.hid hk
    clear hi hk hDm hKm hd
    show Q9 .normal _ _
    dsimp only [Q9]
    gi_wp2_with fail
    refine leaves_marks (u := .returning) (by simp) [W4.heap.size] W5 (by simp) (fun i hi => ?_) (fun W6 hc => ?_)
    · rw [List.mem_singleton] at hi; rw [hi]; exact HDM.out.2
    · have hc' : Chg D W5 W6 := hc.mono fun i _ hi => by rw [List.mem_singleton] at hi; rw [hi]; exact HDM.out.1
      have hfin := HI.out.next (Nat.le_of_lt HSZ.out.1) HJ.out hc' (fun i h => .inl h) (fun i h => .inl h)
      exact ⟨_, results_none rfl _ _ _, ⟨⟨_, rfl⟩, .inl ⟨_, _, _, hfin.j, HK.out⟩⟩⟩
  case stop =>
    rintro D M c W5 rfl hDm ⟨rfl, hjx⟩ hd
    have HJE := Lib.hid hjx
    have HDM := Lib.hid (And.intro hDm hd)
    clear hjx hDm hd
    gi_wp2_with fail
    refine leaves_marks (u := .returning) (by simp) [W4.heap.size] W5 (by simp) (fun i hi => ?_) (fun W6 hc => ?_)
    · rw [List.mem_singleton] at hi; rw [hi]; exact HDM.out.2
    · have hc' : Chg D W5 W6 := hc.mono fun i _ hi => by rw [List.mem_singleton] at hi; rw [hi]; exact HDM.out.1
      exact ⟨_, results_none rfl _ _ _, ⟨⟨_, rfl⟩, .inr ⟨_, HJX.out _ _ _ HJE.out hc'⟩⟩⟩
  case rnd =>
    rintro l2 D K k ⟨e, g⟩ A rfl hDl hKl hDm hKm hDb hKb hi ⟨hek, hlv⟩
    have HI1 := Lib.hid hi
    have HLV := Lib.hid hlv
    have HEK := Lib.hid hek
    have HDK := Lib.hid (And.intro hDl (And.intro hKl (And.intro hDb hKb)))
    clear hDl hKl hDm hKm hDb hKb hi hek hlv
    dsimp only [entV, Ent.at_]
    gi_wp2
    obtain ⟨A2, hA2⟩ : ∃ A2, A2 = A.alloc (.cells #[.slice g.kA e.key.length g.kc, .int .i64 e.seq, .int .i64 e.kind, .slice g.vA e.val.length g.vc] 46) := ⟨_, rfl⟩
    rw [← hA2]
    have HX2 : Hid (Ext A A2) := by rw [hA2]; exact ext_alloc _ _
    have HBE2 : Hid (A2.heap[A.heap.size]? = some (.cells #[.slice g.kA e.key.length g.kc, .int .i64 e.seq, .int .i64 e.kind, .slice g.vA e.val.length g.vc] 46 (0, 0))) := by rw [hA2]; exact heap_at _ _ rfl
    clear hA2
    refine ⟨StepK.of_chg (S := fun _ => False) (Chg.of_ext HX2.out) (fun _ _ _ h => h), fun A3 hc => ?_⟩
    have HCH : Hid (Chg D A A3) := ((Chg.of_ext (S := D) HX2.out).trans (hc.mono fun i _ e => by rw [e]; exact HDK.out.1))
    have HI3 := Lib.hid (HI1.out.next (Nat.le_of_lt HSZ.out.1) HJ.out HCH.out (fun i h => .inl h) (fun i h => .inl h))
    have HL3 : Hid (Live B0 D (e, g) A3) := HLV.out.go HCH.out (fun b hb => .inl hb) (fun b hb => .inl hb)
    have HB3 : Hid (A3.heap[A.heap.size]? = some (.cells #[.slice g.kA e.key.length g.kc, .int .i64 e.seq, .int .i64 e.kind, .slice g.vA e.val.length g.vc] 46 (0, 0))) :=
      (hc.block _ (Array.getElem?_eq_some_iff.1 HBE2.out).1 (fun e => by have := HDK.out.2.2.2 _ HDK.out.2.1; omega)).trans HBE2.out
    have HAA : Hid (A.heap.size ≤ A3.heap.size) := HCH.out.size
    have q9 := HI3.out.y.cell
    have e0 := cell_of HB3.out (k := 0) rfl
    have e3 := cell_of HB3.out (k := 3) rfl
    have hyy := HY.out D (fun i => K i ∨ i = W.heap.size ∨ i = b1 ∨ i = b2) k (e, g) A3 (fun i h => ⟨.inr (HI3.out.dz i h), by have := (HDK.out.2.2.1 i h).2; have := HAA.out; omega⟩)
      (fun i h => by
        have y1 := HI3.out.y.lt
        have y2 := HI3.out.c1.lt
        have y3 := HI3.out.c2.lt
        have y4 := HLB.out
        have y5 := HSZ.out
        rcases h with h | h | h | h
        · exact ⟨.inr (HI3.out.kz i h), by have := (HDK.out.2.2.2 i h).2; have := HAA.out; omega⟩
        · exact ⟨.inr (by omega), by omega⟩
        · exact ⟨.inr (by omega), by omega⟩
        · exact ⟨.inr (by omega), by omega⟩) HI3.out.j ⟨HEK.out, HL3.out⟩
    obtain ⟨fn, tmps, assign, body, hy, hR⟩ := hyy
    dsimp only [pairV] at hy
    have HR := Lib.hid (roundIn_any (m' := 3) hR)
    clear hc hR
    gi_wp2
    refine RoundIn.mono (F := Fence.wide.inRound (W4.heap.size + 1)) (n := 3) HR.out ?_
    rintro x A5 ⟨hst, (⟨rfl, hj⟩ | ⟨rfl, hjx⟩)⟩
    · have HJ5 := Lib.hid hj
      have HST5 := Lib.hid hst
      clear hj hst hy
      gi_wp2
      have hs := HST5.out
      refine ⟨hs.mono fun i h => .inl h, HJ5.out, ?_, ?_, ?_, HI3.out.n, HI3.out.dz, HI3.out.kz, Nat.le_trans HI3.out.z hs.size⟩
      · exact (hs.stay _ (.inr (.inl rfl)) HI3.out.y.lt).trans HI3.out.y
      · exact (hs.stay _ (.inr (.inr (.inl rfl))) HI3.out.c1.lt).trans HI3.out.c1
      · exact (hs.stay _ (.inr (.inr (.inr rfl))) HI3.out.c2.lt).trans HI3.out.c2
    · have HJ5 := Lib.hid hjx
      have HST5 := Lib.hid hst
      clear hjx hst hy
      gi_wp2
      exact ⟨HST5.out.mono fun i h => .inl h, rfl, HJ5.out⟩
end Go.Proofs.Ytlnihaeeoolkhaa

/- The reference's SamePairs, of the same (merge). -/
namespace Go.Proofs.Ytlnihaeeoolkhaa
open Go.ChangeShapes Go.WideShapes Go.ChangeAt Go.RowKit

set_option maxRecDepth 100000 in
set_option maxHeartbeats 8000000 in
theorem samep11_any {w : World} {lo hi lo2 hi2 : Nat} {A A2 : Option Addr} {c c2 : Nat} {L R : List (Ent × Hd)} (h : Ps w lo hi A L) (h2 : Ps w lo2 hi2 A2 R) (hhi : hi ≤ w.heap.size) (hhi2 : hi2 ≤ w.heap.size) (hlen : L.length ≤ 1000000000) (heq : L.map Prod.fst = R.map Prod.fst) :
    Calls Try.prog 21 #[.slice A L.length c, .slice A2 R.length c2] w fun e w' => e = .returned (.bool true) ∧ Ext w w' := by
  have HE := Lib.hid h
  have HE2 := Lib.hid h2
  have HHI := Lib.hid (And.intro hhi hhi2)
  have HEQ := Lib.hid heq
  have hlI : (L.length : Int) ≤ 1000000000 := by omega
  obtain ⟨n, hn⟩ : ∃ n, n = R.length := ⟨_, rfl⟩
  have hn2 : L.length = n := by have := congrArg List.length heq; rw [List.length_map, List.length_map] at this; omega
  rw [← hn, hn2]
  rw [hn2] at hlI
  have HN := Lib.hid hn
  have HN2 := Lib.hid hn2
  have d : ((n : Int) != (n : Int)) = false := by simp
  clear hn hn2 hlen h h2 hhi hhi2 heq
  go_enter Try.func21, Try.ntmps21
  go_wp2_with fail
  go_loopw [5] (fun a wr => ∃ i : Nat, a = .int .i64 (i : Int) ∧ i ≤ n ∧ Hid (Ext w wr)) (fun a _ => n - (intOf a).toNat)
  case atStart => exact ⟨0, rfl, by omega, Ext.refl _⟩
  case round =>
    obtain ⟨i, rfl, hm, HX⟩ := hrel
    by_cases hlt : i < n
    rotate_left
    · have e : decide ((i : Int) < (n : Int)) = false := by simp; omega
      have e2 : decide (i < n) = false := by simp; omega
      clear hlt hm
      go_wp2_with fail
      go_ret
      exact ⟨rfl, HX.out⟩
    have e : decide ((i : Int) < (n : Int)) = true := by simp; omega
    have e2 : decide (i < n) = true := by simp; omega
    have hl1 : i < L.length := by have := HN2.out; omega
    have hl2 : i < R.length := by have := HN.out; omega
    obtain ⟨p, hp⟩ : ∃ p, L[i]? = some p := ⟨_, List.getElem?_eq_getElem hl1⟩
    obtain ⟨q, hq⟩ : ∃ q, R[i]? = some q := ⟨_, List.getElem?_eq_getElem hl2⟩
    have hpq : p.1 = q.1 := by
      have h1 := congrArg (fun l => l[i]?) HEQ.out
      simp only [List.getElem?_map, hp, hq, Option.map_some, Option.some.injEq] at h1
      exact h1
    obtain ⟨b, o, rfl, k0, k3⟩ := (HE.out.below HX.out HHI.out.1).get hp
    obtain ⟨b2, o2, rfl, m0, m3⟩ := (HE2.out.below HX.out HHI.out.2).get hq
    have t1 : ∀ j, (convert 34 9 (.slice p.2.kA p.1.key.length p.2.kc)).run Try.prog (wr.drewN j) = .ok (.string (tx p.1.key)) (wr.drewN j) := fun j => conv_gx ((HE.out.each p (List.mem_of_getElem? hp)).below (below_drewN HX.out j) HHI.out.1).k
    have t2 : ∀ j, (convert 34 9 (.slice q.2.kA q.1.key.length q.2.kc)).run Try.prog (wr.drewN j) = .ok (.string (tx q.1.key)) (wr.drewN j) := fun j => conv_gx ((HE2.out.each q (List.mem_of_getElem? hq)).below (below_drewN HX.out j) HHI.out.2).k
    have t3 : ∀ j, (convert 34 9 (.slice p.2.vA p.1.val.length p.2.vc)).run Try.prog (wr.drewN j) = .ok (.string (tx p.1.val)) (wr.drewN j) := fun j => conv_gx ((HE.out.each p (List.mem_of_getElem? hp)).below (below_drewN HX.out j) HHI.out.1).v
    have t4 : ∀ j, (convert 34 9 (.slice q.2.vA q.1.val.length q.2.vc)).run Try.prog (wr.drewN j) = .ok (.string (tx q.1.val)) (wr.drewN j) := fun j => conv_gx ((HE2.out.each q (List.mem_of_getElem? hq)).below (below_drewN HX.out j) HHI.out.2).v
    have hbk := (HE.out.each p (List.mem_of_getElem? hp)).bk
    have hbv := (HE.out.each p (List.mem_of_getElem? hp)).bv
    have d3 : ((tx p.1.key).toList == (tx q.1.key).toList) = true := by rw [← hpq, tx_same hbk hbk]; exact decide_eq_true rfl
    have d6 : ((tx p.1.val).toList == (tx q.1.val).toList) = true := by rw [← hpq, tx_same hbv hbv]; exact decide_eq_true rfl
    have HW := Lib.hid (show wrap64 ((i : Int) + 1) = ((i + 1 : Nat) : Int) by unfold wrap64; omega)
    have n3 : (0 : Int) ≤ (i : Int) := by omega
    have n4 : (i : Int) < (n : Int) := by omega
    have HLT := Lib.hid hlt
    clear hp hq hlt hm hl1 hl2 hpq hbk hbv
    have hw := HW.out
    go_wp2_with fail
    go_quiet (fail)
    go_wp2_with fail
    exact ⟨⟨i + 1, by first | rfl | rw [hw], HLT.out, below_drewN HX.out _⟩, by clear hw; have := HLT.out; simp [intOf]; omega⟩
end Go.Proofs.Ytlnihaeeoolkhaa

/- The reference's Clip (merge). -/
namespace Go.Proofs.Ytlnihaeeoolkhaa
open Go.ChangeShapes Go.WideShapes Go.ChangeAt Go.RowKit

/-- Is its key from fr on, and, if there is an end, below tt? -/
def clipB (fr tt : List Nat) (en : Bool) (e : Ent) : Bool := !decide (cmpK e.key fr < 0) && (!en || decide (cmpK e.key tt < 0))

set_option maxRecDepth 100000 in
set_option maxHeartbeats 8000000 in
theorem clip11_any {w : World} {lo hi : Nat} {A FA TA : Option Addr} {c fc tc : Nat} {L : List (Ent × Hd)} {fr tt : List Nat} (h : Es w lo hi A L) (hhi : hi ≤ w.heap.size) (hlen : L.length ≤ 1000000) (hln : ∀ p ∈ L, p.1.key.length ≤ 140737488351232)
    (hf : Bs w lo hi (.slice FA fr.length fc) fr) (ht : Bs w lo hi (.slice TA tt.length tc) tt) (bf : ∀ x ∈ fr, x < 256) (bt : ∀ x ∈ tt, x < 256) (lf_ : fr.length ≤ 140737488351232) (lt_ : tt.length ≤ 140737488351232) (en : Bool) :
    Calls Try.prog 16 #[.slice A L.length c, .slice FA fr.length fc, .slice TA tt.length tc, .bool en] w (RowAns w (pickE (fun _ e => clipB fr tt en e) L L.length)) := by
  have HE := Lib.hid h
  have HHI := Lib.hid hhi
  have HL := Lib.hid hlen
  have HLN := Lib.hid hln
  have HF := Lib.hid hf
  have HT := Lib.hid ht
  have HB := Lib.hid (And.intro bf (And.intro bt (And.intro lf_ lt_)))
  have hlI : (L.length : Int) ≤ 1000000 := by omega
  clear h hhi hlen hln hf ht bf bt lf_ lt_
  go_enter Try.func16, Try.ntmps16
  go_wp2_with fail
  go_loopw [9, 10] (fun v a wr => ∃ i : Nat, a = .int .i64 (i : Int) ∧ i ≤ L.length ∧ Hid (OwnE w.heap.size (pickE (fun _ e => clipB fr tt en e) L i) v wr) ∧ Hid (Ext w wr)) (fun _ a _ => L.length - (intOf a).toNat)
  case atStart => exact ⟨0, rfl, by omega, World.ownsRow_nil _ _ _ _, Ext.refl _⟩
  case round =>
    obtain ⟨i, rfl, hm, HR, HX⟩ := hrel
    obtain ⟨M, hM⟩ : ∃ M, M = (pickE (fun _ e => clipB fr tt en e) L i) := ⟨_, rfl⟩
    rw [← hM] at HR
    have HML : Hid (M.length ≤ i) := by rw [hM]; exact pickE_le _ _ _
    have HM := Lib.hid hM
    obtain ⟨O, co, rfl, _⟩ := HR.out.sl
    by_cases hlt : i < L.length
    rotate_left
    · have e : decide ((i : Int) < (L.length : Int)) = false := by simp; omega
      have e2 : decide (i < L.length) = false := by simp; omega
      have hin : i = L.length := by omega
      have HME : Hid (M = pickE (fun _ e => clipB fr tt en e) L L.length) := by rw [← hin]; exact hM
      clear hlt hm hin hM
      go_wp2_with fail
      go_ret
      exact ⟨O, co, by rw [← HME.out]; rfl, by rw [← HME.out]; exact HR.out, HX.out⟩
    have e : decide ((i : Int) < (L.length : Int)) = true := by simp; omega
    have e2 : decide (i < L.length) = true := by simp; omega
    obtain ⟨p, hp⟩ : ∃ p, L[i]? = some p := ⟨_, List.getElem?_eq_getElem hlt⟩
    obtain ⟨b, o, rfl⟩ := HE.out.base (by omega)
    have HGP : Hid (∀ u, Ext w u → u.cell? ⟨b, o + i * 4, none⟩ = some (.slice p.2.kA p.1.key.length p.2.kc) ∧ u.cell? ⟨b, o + i * 4 + 1, none⟩ = some (.int .i64 p.1.seq) ∧ u.cell? ⟨b, o + i * 4 + 2, none⟩ = some (.int .i64 p.1.kind) ∧ u.cell? ⟨b, o + i * 4 + 3, none⟩ = some (.slice p.2.vA p.1.val.length p.2.vc)) := fun u hu => (HE.out.below hu HHI.out).get hp
    obtain ⟨k0, k1, k2, k3⟩ := HGP.out wr HX.out
    obtain ⟨y1, hy1⟩ : ∃ z, z = decide (cmpK p.1.key fr < 0) := ⟨_, rfl⟩
    obtain ⟨y2, hy2⟩ : ∃ z, z = decide (cmpK p.1.key tt < 0) := ⟨_, rfl⟩
    have HL1 : Hid (∀ u, Ext w u → Calls Try.prog 35 #[.slice p.2.kA p.1.key.length p.2.kc, .slice FA fr.length fc] u fun e w' => e = .returned (.bool y1) ∧ Ext u w') := fun u hu => by
      rw [hy1]
      have m := (HE.out.each p (List.mem_of_getElem? hp)).below hu HHI.out
      exact less11_any m.k (HF.out.below hu HHI.out) m.bk HB.out.1 (Nat.le_trans HHI.out hu.size) (Nat.le_trans HHI.out hu.size) (HLN.out p (List.mem_of_getElem? hp)) HB.out.2.2.1
    have HL2 : Hid (∀ u, Ext w u → Calls Try.prog 35 #[.slice p.2.kA p.1.key.length p.2.kc, .slice TA tt.length tc] u fun e w' => e = .returned (.bool y2) ∧ Ext u w') := fun u hu => by
      rw [hy2]
      have m := (HE.out.each p (List.mem_of_getElem? hp)).below hu HHI.out
      exact less11_any m.k (HT.out.below hu HHI.out) m.bk HB.out.2.1 (Nat.le_trans HHI.out hu.size) (Nat.le_trans HHI.out hu.size) (HLN.out p (List.mem_of_getElem? hp)) HB.out.2.2.2
    have HP := Lib.hid hp
    have HY := Lib.hid (And.intro hy1 hy2)
    have HW := Lib.hid (show wrap64 ((i : Int) + 1) = ((i + 1 : Nat) : Int) by unfold wrap64; omega)
    have n1 : (0 : Int) ≤ (i : Int) := by omega
    have n2 : (i : Int) < (L.length : Int) := by omega
    have HLT := Lib.hid hlt
    have HML2 : Hid (M.length ≤ 1000000) := by unfold Hid; have := HML.out; omega
    clear hp hlt hm hM hy1 hy2
    go_wp2_with fail
    refine (HL1.out wr HX.out).mono ?_
    rintro e w2 ⟨rfl, hx2⟩
    have HX2 : Hid (Ext wr w2) := hx2
    have HXW2 : Hid (Ext w w2) := Ext.trans HX.out hx2
    obtain ⟨q0, q1, q2, q3⟩ := HGP.out w2 HXW2.out
    clear hx2 k0 k1 k2 k3
    cases y1 with
    | true =>
      have HK : Hid (clipB fr tt en p.1 = false) := by unfold clipB; rw [Hid, ← HY.out.1]; rfl
      have HRW : Hid (OwnE w.heap.size M (.slice O M.length co) w2) := HR.out.below HX2.out
      have hw := HW.out
      go_wp2_with fail
      refine ⟨⟨i + 1, by first | rfl | rw [hw], HLT.out, by rw [Hid, pickE_no HP.out HK.out, ← HM.out]; exact HRW.out, HXW2.out⟩, by (try rw [hw]); clear hw; have := HLT.out; simp [intOf]; omega⟩
    | false =>
      cases en with
      | false =>
        have HK : Hid (clipB fr tt false p.1 = true) := by unfold clipB; rw [Hid, ← HY.out.1]; rfl
        have HRW : Hid (OwnE w.heap.size M (.slice O M.length co) w2) := HR.out.below HX2.out
        have hw := HW.out
        go_wp2_with (at_builtin; refine wpList_pushe rfl (.tmp 38) (.tmp 43) rfl w.heap.size (.slice O M.length co) M rfl (HRW.out.below (ext_alloc _ _)) p w2.heap.size rfl (heap_alloc_new w2 _) ?c1 ?c2 (fun A9 c9 w9 ho9 hb9 => ?_))
        case c1 => clear hw; have := HML2.out; omega
        case c2 => exact Nat.le_trans (HXW2.out).size (by simp)
        have HX9 : Hid (Ext w w9) := hb9 w (Ext.trans HXW2.out (ext_alloc _ _))
        have HO9 := Lib.hid ho9
        clear ho9 hb9
        go_wp2_with fail
        refine ⟨⟨i + 1, by first | rfl | rw [hw], HLT.out, by rw [Hid, pickE_yes HP.out HK.out, ← HM.out]; exact HO9.out, HX9.out⟩, by (try rw [hw]); clear hw; have := HLT.out; simp [intOf]; omega⟩
      | true =>
        go_wp2_with fail
        refine (HL2.out w2 HXW2.out).mono ?_
        rintro e w3 ⟨rfl, hx3⟩
        have HX3 : Hid (Ext wr w3) := Ext.trans HX2.out hx3
        have HXW3 : Hid (Ext w w3) := Ext.trans HXW2.out hx3
        obtain ⟨r0, r1, r2, r3⟩ := HGP.out w3 HXW3.out
        clear hx3 q0 q1 q2 q3
        cases y2 with
        | false =>
          have HK : Hid (clipB fr tt true p.1 = false) := by unfold clipB; rw [Hid, ← HY.out.1, ← HY.out.2]; rfl
          have HRW : Hid (OwnE w.heap.size M (.slice O M.length co) w3) := HR.out.below HX3.out
          have hw := HW.out
          go_wp2_with fail
          refine ⟨⟨i + 1, by first | rfl | rw [hw], HLT.out, by rw [Hid, pickE_no HP.out HK.out, ← HM.out]; exact HRW.out, HXW3.out⟩, by (try rw [hw]); clear hw; have := HLT.out; simp [intOf]; omega⟩
        | true =>
          have HK : Hid (clipB fr tt true p.1 = true) := by unfold clipB; rw [Hid, ← HY.out.1, ← HY.out.2]; rfl
          have HRW : Hid (OwnE w.heap.size M (.slice O M.length co) w3) := HR.out.below HX3.out
          have hw := HW.out
          go_wp2_with (at_builtin; refine wpList_pushe rfl (.tmp 38) (.tmp 43) rfl w.heap.size (.slice O M.length co) M rfl (HRW.out.below (ext_alloc _ _)) p w3.heap.size rfl (heap_alloc_new w3 _) ?c1 ?c2 (fun A9 c9 w9 ho9 hb9 => ?_))
          case c1 => clear hw; have := HML2.out; omega
          case c2 => exact Nat.le_trans (HXW3.out).size (by simp)
          have HX9 : Hid (Ext w w9) := hb9 w (Ext.trans HXW3.out (ext_alloc _ _))
          have HO9 := Lib.hid ho9
          clear ho9 hb9
          go_wp2_with fail
          refine ⟨⟨i + 1, by first | rfl | rw [hw], HLT.out, by rw [Hid, pickE_yes HP.out HK.out, ← HM.out]; exact HO9.out, HX9.out⟩, by (try rw [hw]); clear hw; have := HLT.out; simp [intOf]; omega⟩
end Go.Proofs.Ytlnihaeeoolkhaa

/- The law's small entries (put, gone), its first, rows of literals; what makes func values go over entries (merge). -/
namespace Go.Proofs.Ytlnihaeeoolkhaa
open Go.ChangeShapes Go.WideShapes Go.ChangeAt Go.RowKit

/-- What put and gone answer. -/
def Lit11 (w : World) (e : Ent) (x : Ending) (w' : World) : Prop := Ext w w' ∧ ∃ g : Hd, x = .returned (e.at_ g) ∧ Em w' 0 w'.heap.size e g
theorem bs_one11 (w : World) (k : Nat) : Bs (w.alloc (.cells #[.int .u8 (k : Int)] 5)) w.heap.size (w.heap.size + 1) (.slice (some ⟨w.heap.size, 0, none⟩) 1 1) [k] := by
  refine ⟨_, _, rfl, Nat.le_refl _, by simp [maxLen], (fun h => by cases h), .inr ⟨w.heap.size, 0, rfl, Nat.le_refl _, Nat.lt_succ_self _, fun i u hu => ?_⟩⟩
  rw [Nat.zero_add, World.cell?_alloc_at _ _ _ _ rfl]
  simpa [bv] using hu
theorem frozen_four11 {u : World} {g j : Nat} {c : Array Value} {ty : TypeId} (h : u.heap[g]? = some (.cells c ty (0, 0))) : u.frozen? ⟨g, j, none⟩ = false := by simp [World.frozen?, h]

set_option maxHeartbeats 2000000 in
theorem put11_any (k : Nat) (s : Int) (hk : k < 256) (h1 : 0 ≤ s) (h2 : s ≤ 1000) (w : World) :
    Calls Try.prog 24 #[.int .u8 (k : Int), .int .i64 s] w (Lit11 w ⟨[k], s, 1, []⟩) := by
  obtain ⟨w1, hw1⟩ : ∃ w1, w1 = w.alloc (.cells #[.slice none 0 0, .int .i64 0, .int .i64 0, .slice none 0 0] 46) := ⟨_, rfl⟩
  have HX : Hid (Ext w w1) := by rw [hw1]; exact ext_alloc _ _
  have HBX : Hid (w1.heap[w.heap.size]? = some (.cells #[.slice none 0 0, .int .i64 0, .int .i64 0, .slice none 0 0] 46 (0, 0))) := by rw [hw1]; exact heap_at _ _ rfl
  have HZ : Hid (w1.heap.size = w.heap.size + 1) := by rw [hw1]; simp [Hid]
  obtain ⟨w2, hw2⟩ : ∃ w2, w2 = w1.alloc (.cells #[.int .u8 (k : Int)] 5) := ⟨_, rfl⟩
  have x2 : Ext w1 w2 := by rw [hw2]; exact ext_alloc _ _
  have b2 : Bs w2 w1.heap.size w2.heap.size (.slice (some ⟨w1.heap.size, 0, none⟩) 1 1) [k] := by
    rw [hw2]; exact (bs_one11 w1 k).wide (Nat.le_refl _) (by simp)
  have hb := ext_heap x2 HBX.out
  have q0 := cell_of hb (k := 0) rfl
  have q1 := cell_of hb (k := 1) rfl
  have q2 := cell_of hb (k := 2) rfl
  have q3 := cell_of hb (k := 3) rfl
  have z0 := frozen_four11 hb (j := 0)
  have z1 := frozen_four11 hb (j := 1)
  have z2 := frozen_four11 hb (j := 2)
  have z3 := frozen_four11 hb (j := 3)
  have HB := Lib.hid hb
  have HK := Lib.hid b2
  have HX3 : Hid (Ext w w2) := Ext.trans HX.out x2
  have HBY := Lib.hid hk
  have HS := Lib.hid (And.intro h1 h2)
  have hs1 : w1.heap.size = w.heap.size + 1 := HZ.out
  clear x2 b2 hb hk h1 h2
  go_enter Try.func24, Try.ntmps24
  go_upto_region 1 with (fail)
  rw [← hw1]
  clear hw1
  rw [hw2] at q0 q1 q2 q3 z0 z1 z2 z3
  clear hs1
  go_wp2_with fail
  rw [← hw2]
  clear hw2 q0 q1 q2 q3 z0 z1 z2 z3
  refine entry_ret1 (p := 4) (by kernel_rfl) rfl rfl (put_four HB.out) ?_
  have far : ∀ {l : List Nat} {v : Value} {u : World} {p : Addr} {x : Value}, p.block < w1.heap.size → Bs u w1.heap.size w2.heap.size v l → Bs (u.setCell p x) w1.heap.size w2.heap.size v l := fun hp h => h.setCell (.inl hp) _
  have hlt : w.heap.size < w1.heap.size := by rw [HZ.out]; omega
  refine ⟨Below.setCell (Below.setCell (Below.setCell (Below.setCell HX3.out (Nat.le_refl _) _) (Nat.le_refl _) _) (Nat.le_refl _) _) (Nat.le_refl _) _, ⟨some ⟨w1.heap.size, 0, none⟩, 1, none, 0⟩, rfl, ⟨?_, Bs.nil _ _ _, fun x hx => by rw [List.mem_singleton.1 hx]; exact HBY.out, by simp, by have := HS.out.1; dsimp only; omega, by have := HS.out.2; dsimp only; omega, (by show (-9223372036854775808 : Int) ≤ _; dsimp only; omega), (by dsimp only; omega)⟩⟩
  exact (far hlt (far hlt (far hlt (far hlt HK.out)))).wide (Nat.zero_le _) (by simp [World.setCell])

set_option maxHeartbeats 2000000 in
theorem gone11_any (k : Nat) (s : Int) (hk : k < 256) (h1 : 0 ≤ s) (h2 : s ≤ 1000) (w : World) :
    Calls Try.prog 23 #[.int .u8 (k : Int), .int .i64 s] w (Lit11 w ⟨[k], s, 2, []⟩) := by
  obtain ⟨w1, hw1⟩ : ∃ w1, w1 = w.alloc (.cells #[.slice none 0 0, .int .i64 0, .int .i64 0, .slice none 0 0] 46) := ⟨_, rfl⟩
  have HX : Hid (Ext w w1) := by rw [hw1]; exact ext_alloc _ _
  have HBX : Hid (w1.heap[w.heap.size]? = some (.cells #[.slice none 0 0, .int .i64 0, .int .i64 0, .slice none 0 0] 46 (0, 0))) := by rw [hw1]; exact heap_at _ _ rfl
  have HZ : Hid (w1.heap.size = w.heap.size + 1) := by rw [hw1]; simp [Hid]
  obtain ⟨w2, hw2⟩ : ∃ w2, w2 = w1.alloc (.cells #[.int .u8 (k : Int)] 5) := ⟨_, rfl⟩
  have x2 : Ext w1 w2 := by rw [hw2]; exact ext_alloc _ _
  have b2 : Bs w2 w1.heap.size w2.heap.size (.slice (some ⟨w1.heap.size, 0, none⟩) 1 1) [k] := by
    rw [hw2]; exact (bs_one11 w1 k).wide (Nat.le_refl _) (by simp)
  have hb := ext_heap x2 HBX.out
  have q0 := cell_of hb (k := 0) rfl
  have q1 := cell_of hb (k := 1) rfl
  have q2 := cell_of hb (k := 2) rfl
  have q3 := cell_of hb (k := 3) rfl
  have z0 := frozen_four11 hb (j := 0)
  have z1 := frozen_four11 hb (j := 1)
  have z2 := frozen_four11 hb (j := 2)
  have z3 := frozen_four11 hb (j := 3)
  have HB := Lib.hid hb
  have HK := Lib.hid b2
  have HX3 : Hid (Ext w w2) := Ext.trans HX.out x2
  have HBY := Lib.hid hk
  have HS := Lib.hid (And.intro h1 h2)
  have hs1 : w1.heap.size = w.heap.size + 1 := HZ.out
  clear x2 b2 hb hk h1 h2
  go_enter Try.func23, Try.ntmps23
  go_upto_region 1 with (fail)
  rw [← hw1]
  clear hw1
  rw [hw2] at q0 q1 q2 q3 z0 z1 z2 z3
  clear hs1
  go_wp2_with fail
  rw [← hw2]
  clear hw2 q0 q1 q2 q3 z0 z1 z2 z3
  refine entry_ret1 (p := 4) (by kernel_rfl) rfl rfl (put_four HB.out) ?_
  have far : ∀ {l : List Nat} {v : Value} {u : World} {p : Addr} {x : Value}, p.block < w1.heap.size → Bs u w1.heap.size w2.heap.size v l → Bs (u.setCell p x) w1.heap.size w2.heap.size v l := fun hp h => h.setCell (.inl hp) _
  have hlt : w.heap.size < w1.heap.size := by rw [HZ.out]; omega
  refine ⟨Below.setCell (Below.setCell (Below.setCell (Below.setCell HX3.out (Nat.le_refl _) _) (Nat.le_refl _) _) (Nat.le_refl _) _) (Nat.le_refl _) _, ⟨some ⟨w1.heap.size, 0, none⟩, 1, none, 0⟩, rfl, ⟨?_, Bs.nil _ _ _, fun x hx => by rw [List.mem_singleton.1 hx]; exact HBY.out, by simp, by have := HS.out.1; dsimp only; omega, by have := HS.out.2; dsimp only; omega, (by show (-9223372036854775808 : Int) ≤ _; dsimp only; omega), (by dsimp only; omega)⟩⟩
  exact (far hlt (far hlt (far hlt (far hlt HK.out)))).wide (Nat.zero_le _) (by simp [World.setCell])

theorem es_lit11 (w : World) (L : List (Ent × Hd)) (h : ∀ p ∈ L, Em w 0 w.heap.size p.1 p.2) : Es (w.alloc (.cells (erow L).toArray 46)) 0 (w.heap.size + 1) (some ⟨w.heap.size, 0, none⟩) L := by
  refine ⟨.inr ⟨w.heap.size, 0, rfl, Nat.zero_le _, Nat.lt_succ_self _, fun i u hu => ?_⟩, fun p hp => ((h p hp).below (ext_alloc w _) (Nat.le_refl _)).wide (Nat.le_refl _) (Nat.le_succ _)⟩
  rw [Nat.zero_add, World.cell?_alloc_at _ _ _ _ rfl]
  simpa using hu
theorem em_next11 {w w' : World} {e : Ent} {g : Hd} (h : Em w 0 w.heap.size e g) (hx : Ext w w') : Em w' 0 w'.heap.size e g := (h.below hx (Nat.le_refl _)).wide (Nat.le_refl _) hx.size
theorem es_next11 {w w' : World} {A : Option Addr} {L : List (Ent × Hd)} (h : Es w 0 w.heap.size A L) (hx : Ext w w') : Es w' 0 w'.heap.size A L := (h.below hx (Nat.le_refl _)).wide (Nat.le_refl _) hx.size
theorem ps_next11 {w w' : World} {A : Option Addr} {L : List (Ent × Hd)} (h : Ps w 0 w.heap.size A L) (hx : Ext w w') : Ps w' 0 w'.heap.size A L := (h.below hx (Nat.le_refl _)).wide (Nat.le_refl _) hx.size
theorem List11Ans.es {w w' : World} {L : List Ent} {x : Ending} (h : List11Ans w L x w') : ∃ X c R, x = .returned (.slice X R.length c) ∧ Es w' 0 w'.heap.size X R ∧ R.map Prod.fst = L ∧ Ext w w' := by
  obtain ⟨X, c, R, h1, h2, h3, h4, h5⟩ := h
  obtain ⟨A', c', h6, h7, _⟩ := h2.sl
  injection h6 with h6 _ _
  subst h6
  exact ⟨X, c, R, h1, ⟨h7.wide (Nat.zero_le _) (Nat.le_refl _), h4⟩, h3, h5⟩
theorem PairsAns.ps {w w' : World} {L : List Ent} {x : Ending} (h : PairsAns w L x w') : ∃ X c R, x = .returned (.slice X R.length c) ∧ Ps w' 0 w'.heap.size X R ∧ R.map Prod.fst = L ∧ Ext w w' := by
  obtain ⟨X, c, R, h1, h2, h3, h4, h5⟩ := h
  obtain ⟨A', c', h6, h7, _⟩ := h2.sl
  injection h6 with h6 _ _
  subst h6
  exact ⟨X, c, R, h1, ⟨h7.wide (Nat.zero_le _) (Nat.le_refl _), h4⟩, h3, h5⟩
theorem RowAns.es {w w' : World} {L : List (Ent × Hd)} {x : Ending} (h : RowAns w L x w') (he : ∀ p ∈ L, Em w 0 w.heap.size p.1 p.2) : ∃ X c, x = .returned (.slice X L.length c) ∧ L.length ≤ c ∧ Es w' 0 w'.heap.size X L ∧ Ext w w' := by
  obtain ⟨X, c, h1, h2, h3⟩ := h
  obtain ⟨A', c', h6, h7, _, h8⟩ := h2.sl
  injection h6 with h6 _ h9
  subst h6
  exact ⟨X, c, h1, by omega, ⟨h7.wide (Nat.zero_le _) (Nat.le_refl _), fun p hp => em_next11 (he p hp) h3⟩, h3⟩

/-- A func value that goes over pairs. -/
structure PGoes (gf : Nat) (lb : Array Value) (B0 : Nat) (L : List Ent) (w : World) : Prop where
  it : ∀ u, Ext w u → PIter gf lb B0 L (fun A => Below w.heap.size w A) (fun _ => False) u
  en : ∀ args w, (callFunc gf args).run Try.prog w = .ok (.enter gf args) w
  b : B0 ≤ w.heap.size
  len : L.length ≤ 1000000
theorem wantL_mem {S : Type} {fw : S → Ent → Bool} {nx : S → Ent → S} : ∀ {l : List Ent} {s : S} {e : Ent}, e ∈ wantL fw nx s l → e ∈ l
  | [], _, _, h => by simp [wantL] at h
  | a :: l, s, e, h => by
    unfold wantL at h
    split at h
    · rcases List.mem_cons.1 h with h | h
      · rw [h]; exact List.mem_cons_self
      · exact List.mem_cons_of_mem _ (wantL_mem h)
    · exact List.mem_cons_of_mem _ (wantL_mem h)
theorem wantL_len {S : Type} {fw : S → Ent → Bool} {nx : S → Ent → S} : ∀ (l : List Ent) (s : S), (wantL fw nx s l).length ≤ l.length
  | [], _ => by simp [wantL]
  | a :: l, s => by
    unfold wantL
    split
    · have := wantL_len l (fw := fw) (nx := nx) (nx s a)
      simp only [List.length_cons]; omega
    · have := wantL_len l (fw := fw) (nx := nx) (nx s a)
      simp only [List.length_cons]; omega
theorem enters_of1 : ∀ args w, (callFunc 31 args).run Try.prog w = .ok (.enter 31 args) w := enters_of Try.func31 (by kernel_rfl) rfl
theorem enters_keep1 : ∀ args w, (callFunc 26 args).run Try.prog w = .ok (.enter 26 args) w := enters_of Try.func26 (by kernel_rfl) rfl
theorem enters_seen1 : ∀ args w, (callFunc 38 args).run Try.prog w = .ok (.enter 38 args) w := enters_of Try.func38 (by kernel_rfl) rfl
theorem boxed_low {w A : World} {b : Nat} {t : TypeId} {v : Value} (h : Boxed w b t v) (hb : Below w.heap.size w A) : Boxed A b t v := (hb.block b h.lt).trans h

theorem of_goes {w : World} {A : Option Addr} {L : List (Ent × Hd)} (h : Es w 0 w.heap.size A L) (hl : L.length ≤ 1000000) (hk : ∀ p ∈ L, p.1.key.length ≤ 140737488351232 ∧ p.1.val.length ≤ 140737488351232) {c : Nat} :
    Calls Try.prog 11 #[.slice A L.length c] w fun x w' => ∃ b, x = .returned (.func (.func 31) #[] #[.pointer (some ⟨b, 0, none⟩)]) ∧ Goes 31 #[.pointer (some ⟨b, 0, none⟩)] w'.heap.size (L.map Prod.fst) w' ∧ Ext w w' := by
  refine (of_any (fun _ => by simp)).mono ?_
  rintro x w' ⟨b, rfl, _, hb, hx⟩
  refine ⟨b, rfl, ⟨fun u _ => IterX.weaken (of_iter (c := c) (es_next11 h hx) hl) (fun A2 hA => ⟨hA, boxed_low hb hA⟩), enters_of1, Nat.le_refl _, by rw [List.length_map]; exact hl, fun e he => ?_⟩, hx⟩
  obtain ⟨p, hp, rfl⟩ := List.mem_map.1 he
  exact hk p hp
theorem keep_goes {w : World} {gf B0 : Nat} {lb : Array Value} {L : List Ent} (h : Goes gf lb B0 L w) (s : Int) (bt : Bool) :
    Calls Try.prog 10 #[.func (.func gf) #[] lb, .int .i64 s, .bool bt] w fun x w' => ∃ lb2, x = .returned (.func (.func 26) #[] lb2) ∧ Goes 26 lb2 B0 (wantL (keepB s bt) (seenN s) none L) w' ∧ Ext w w' := by
  refine mkeep_any.mono ?_
  rintro x w' ⟨bp, ba, bb, rfl, _, h1, h2, h3, hx⟩
  have h' := h.ext hx
  refine ⟨_, rfl, ⟨fun u hu => IterX.weaken (keepfn_iter (C0 := fun A => Below w'.heap.size w' A) (s := s) (bottom := bt) (fun v hv => h'.it v (hu.trans hv)) h'.en (Nat.le_trans h'.b hu.size) h'.kl) (fun A hA => ⟨hA, boxed_low h1 hA, boxed_low h2 hA, boxed_low h3 hA⟩), enters_keep1, h'.b, Nat.le_trans (wantL_len _ _) h'.len, fun e he => h'.kl e (wantL_mem he)⟩, hx⟩
theorem seen_goes {w : World} {gf B0 : Nat} {lb : Array Value} {L : List Ent} (h : Goes gf lb B0 L w) (s : Int) :
    Calls Try.prog 19 #[.func (.func gf) #[] lb, .int .i64 s] w fun x w' => ∃ lb2, x = .returned (.func (.func 38) #[] lb2) ∧ PGoes 38 lb2 B0 (wantL (seesB s) (seenN s) none L) w' ∧ Ext w w' := by
  refine mseen_any.mono ?_
  rintro x w' ⟨bp, ba, rfl, _, h1, h2, hx⟩
  have h' := h.ext hx
  refine ⟨_, rfl, ⟨fun u hu => IterX.weaken (seenfn_iter (C0 := fun A => Below w'.heap.size w' A) (s := s) (fun v hv => h'.it v (hu.trans hv)) h'.en (Nat.le_trans h'.b hu.size) h'.kl) (fun A hA => ⟨hA, boxed_low h1 hA, boxed_low h2 hA⟩), enters_seen1, h'.b, Nat.le_trans (wantL_len _ _) h'.len⟩, hx⟩
theorem clip_goes {w : World} {gf B0 lo hi c c2 : Nat} {lb : Array Value} {L : List Ent} {A A2 : Option Addr} {fr tt : List Nat} {en : Bool} (h : Goes gf lb B0 L w) (hf : Bs w lo hi (.slice A fr.length c) fr) (ht : Bs w lo hi (.slice A2 tt.length c2) tt) (hhi : hi ≤ w.heap.size) (bf : ∀ x ∈ fr, x < 256) (bt : ∀ x ∈ tt, x < 256) (lf_ : fr.length ≤ 140737488351232) (lt_ : tt.length ≤ 140737488351232) :
    Calls Try.prog 15 #[.func (.func gf) #[] lb, .slice A fr.length c, .slice A2 tt.length c2, .bool en] w fun x w' => ∃ lb2, x = .returned (.func (.func 46) #[] lb2) ∧ Goes 46 lb2 B0 (L.filter (cutsB fr tt en)) w' ∧ Ext w w' := by
  refine (mclip_any hf ht hhi lf_ lt_).mono ?_
  rintro x w' ⟨ba, be, bb, fv, tv, N, b1, b2, rfl, _, _, _, _, h1, h2, h3, hx⟩
  have h' := h.ext hx
  refine ⟨_, rfl, ⟨fun u hu => ?_, enters_only1, h'.b, Nat.le_trans (List.length_filter_le _ _) h'.len, fun e he => h'.kl e (List.mem_filter.1 he).1⟩, hx⟩
  have h9 := clipfn_iter (b1 := b1) (b2 := b2) (B := w.heap.size) (ba := ba) (be := be) (bb := bb) (fv := fv) (tv := tv) (en := en) (F0 := fun b => w.heap.size ≤ b ∧ b < N) bf bt (C0 := fun A => Below w'.heap.size w' A) (fun v hv => h'.it v (hu.trans hv)) h'.en (Nat.le_trans h'.b hu.size) h'.kl
  rw [wantL_cuts] at h9
  exact IterX.weaken h9 (fun A hA => ⟨hA, boxed_low h1 hA, boxed_low h2 hA, h3.ext hA⟩)
theorem join_goes {w : World} {lo hi c B0 : Nat} {A : Option Addr} {fs : List (Nat × Array Value)} {Ls : List (List Ent)} (h : Sl w lo hi A (fs.map fv)) (hhi : hi ≤ w.heap.size) (hn : fs.length = Ls.length) (hlen : Ls.length ≤ 1000) (htot : totL Ls ≤ 1000000)
    (hg : ∀ (i : Nat) (f : Nat × Array Value) (L : List Ent), fs[i]? = some f → Ls[i]? = some L → Goes f.1 f.2 B0 L w) (hB0 : B0 ≤ w.heap.size) :
    Calls Try.prog 20 #[.slice A fs.length c] w fun x w' => ∃ lb2, x = .returned (.func (.func 41) #[] lb2) ∧ Goes 41 lb2 B0 (joinF (totL Ls) Ls) w' ∧ Ext w w' := by
  refine (mjoin_any (c := c) h hhi (by omega)).mono ?_
  rintro x w' ⟨bo, A', c', rfl, h1, h2, hx⟩
  refine ⟨_, rfl, ⟨joinfn_iter h2 (Nat.le_refl _) h1 hn hlen (fun i f L h3 h4 => (hg i f L h3 h4).ext hx) (Nat.le_trans hB0 hx.size), enters_join1, Nat.le_trans hB0 hx.size, Nat.le_trans (joinF_len _ _) htot, fun e he => ?_⟩, hx⟩
  obtain ⟨l, hl, hel⟩ := joinF_mem he
  obtain ⟨i, hi⟩ := List.getElem?_of_mem hl
  obtain ⟨f, hf⟩ : ∃ f, fs[i]? = some f := ⟨_, List.getElem?_eq_getElem (by have := (List.getElem?_eq_some_iff.1 hi).1; omega)⟩
  exact (hg i f l hf hi).kl e hel
theorem list_goes {w : World} {gf B0 : Nat} {lb : Array Value} {L : List Ent} (h : Goes gf lb B0 L w) (most : Int) : Calls Try.prog 12 #[.func (.func gf) #[] lb, .int .i64 most] w (List11Ans w (takeM most L)) :=
  list11_any h.it h.en (fun _ h => h) h.b h.len
theorem pairs_goes {w : World} {gf B0 : Nat} {lb : Array Value} {L : List Ent} (h : PGoes gf lb B0 L w) (most : Int) : Calls Try.prog 18 #[.func (.func gf) #[] lb, .int .i64 most] w (PairsAns w (takeM most L)) :=
  pairs11_any h.it h.en (fun _ h => h) h.b h.len
theorem rising_goes {w : World} {gf B0 : Nat} {lb : Array Value} {L : List Ent} (h : Goes gf lb B0 L w) : Calls Try.prog 17 #[.func (.func gf) #[] lb] w fun x w' => ∃ z : Bool, (z = true ↔ Rise L) ∧ x = .returned (.bool z) ∧ Below w.heap.size w w' :=
  mrising_any h.it h.en (fun _ h => h) h.b h.len h.kl
end Go.Proofs.Ytlnihaeeoolkhaa

/- The law's known rows (merge). -/
namespace Go.Proofs.Ytlnihaeeoolkhaa
open Go.ChangeShapes Go.WideShapes Go.ChangeAt Go.RowKit

theorem put11_is {e : Ent} {k : Nat} {ki s : Int} (he : e = ⟨[k], s, 1, []⟩) (hki : ki = (k : Int)) (hk : k < 256) (h1 : 0 ≤ s) (h2 : s ≤ 1000) (w : World) : Calls Try.prog 24 #[.int .u8 ki, .int .i64 s] w (Lit11 w e) := by
  subst he hki; exact put11_any k s hk h1 h2 w
theorem gone11_is {e : Ent} {k : Nat} {ki s : Int} (he : e = ⟨[k], s, 2, []⟩) (hki : ki = (k : Int)) (hk : k < 256) (h1 : 0 ≤ s) (h2 : s ≤ 1000) (w : World) : Calls Try.prog 23 #[.int .u8 ki, .int .i64 s] w (Lit11 w e) := by
  subst he hki; exact gone11_any k s hk h1 h2 w
def e11 : Nat → Ent
  | 1 => ⟨[97], 6, 2, []⟩
  | 2 => ⟨[97], 5, 1, []⟩
  | 3 => ⟨[97], 1, 1, []⟩
  | 4 => ⟨[98], 2, 1, []⟩
  | _ => ⟨[99], 3, 1, []⟩
theorem kn_join : joinF (totL [[e11 2, e11 4], [e11 1, e11 3, e11 5]]) [[e11 2, e11 4], [e11 1, e11 3, e11 5]] = [e11 1, e11 2, e11 3, e11 4, e11 5] := by rfl
theorem kn_one : wantL (keepB 5 false) (seenN 5) none [e11 1, e11 2, e11 3, e11 4, e11 5] = [e11 1, e11 2, e11 4, e11 5] := by rfl
theorem kn_two : wantL (keepB 9 true) (seenN 9) none [e11 1, e11 2, e11 3, e11 4, e11 5] = [e11 4, e11 5] := by rfl
theorem kn_seen : wantL (seesB 5) (seenN 5) none [e11 1, e11 2, e11 3, e11 4, e11 5] = [e11 2, e11 4, e11 5] := by rfl
theorem kn_short : ∀ n, (e11 n).key.length ≤ 140737488351232 ∧ (e11 n).val.length ≤ 140737488351232 := by
  intro n; unfold e11; split <;> exact ⟨by simp, by simp⟩
/-- A row of these entries. -/
def EsF (L : List Ent) : Value → World → Prop := fun v u => ∃ A R, v = .slice A L.length L.length ∧ R.map Prod.fst = L ∧ Es u 0 u.heap.size A R
theorem EsF.mono (L : List Ent) : Mono (EsF L) := fun _ _ _ ⟨A, R, h1, h2, h3⟩ hx => ⟨A, R, h1, h2, es_next11 h3 hx⟩
/-- Func values in a row. -/
theorem Goes.high {gf B0 B : Nat} {lb : Array Value} {L : List Ent} {w : World} (h : Goes gf lb B0 L w) (hB : B0 ≤ B) (hw : B ≤ w.heap.size) : Goes gf lb B L w :=
  ⟨fun u hu m l J Jx W h1 h2 h3 h4 h5 hY => h.it u hu m l J Jx W h1 h2 h3 h4 h5 fun D K k x A hd hk hj hok => hY D K k x A hd hk hj ⟨hok.1, hok.2.1, fun A' T hc hT => hok.2.2 A' T hc fun b hb => (hT b hb).imp id fun h => h.imp id fun h => ⟨Nat.le_trans hB h.1, h.2⟩⟩, h.en, hw, h.len, h.kl⟩
theorem same11_yes {w : World} {A A2 : Option Addr} {c c2 n m : Nat} {L R : List (Ent × Hd)} (h : Es w 0 w.heap.size A L) (h2 : Es w 0 w.heap.size A2 R) (hn : L.length = n) (hm : R.length = m) (heq : L.map Prod.fst = R.map Prod.fst) (hl : L.length ≤ 1000000000 := by omega) :
    Calls Try.prog 13 #[.slice A n c, .slice A2 m c2] w fun x w' => x = .returned (.bool true) ∧ Ext w w' := by
  subst hn hm
  refine (same11_any h h2 (Nat.le_refl _) (Nat.le_refl _) hl).mono ?_
  rintro x w' ⟨z, hz, rfl, hx⟩
  have : z = true := hz.2 heq
  subst this
  exact ⟨rfl, hx⟩
theorem fs_lit (w : World) (fs : List (Nat × Array Value)) : Sl (w.alloc (.cells (fs.map fv).toArray 27)) 0 (w.alloc (.cells (fs.map fv).toArray 27)).heap.size (some ⟨w.heap.size, 0, none⟩) (fs.map fv) := by
  refine .inr ⟨w.heap.size, 0, rfl, Nat.zero_le _, by simp, fun i u hu => ?_⟩
  rw [Nat.zero_add, World.cell?_alloc_at _ _ _ _ rfl]
  simpa using hu

set_option maxRecDepth 100000 in
set_option maxHeartbeats 16000000 in
theorem known11_any (w : World) : Calls Try.prog 8 #[] w fun x w' => x = .returned (.bool true) ∧ Ext w w' := by
  obtain ⟨e1, he1⟩ : ∃ e, e = e11 1 := ⟨_, rfl⟩
  have HE1 := Lib.hid he1
  obtain ⟨e2, he2⟩ : ∃ e, e = e11 2 := ⟨_, rfl⟩
  have HE2 := Lib.hid he2
  obtain ⟨e3, he3⟩ : ∃ e, e = e11 3 := ⟨_, rfl⟩
  have HE3 := Lib.hid he3
  obtain ⟨e4, he4⟩ : ∃ e, e = e11 4 := ⟨_, rfl⟩
  have HE4 := Lib.hid he4
  obtain ⟨e5, he5⟩ : ∃ e, e = e11 5 := ⟨_, rfl⟩
  have HE5 := Lib.hid he5
  have HSH : Hid (∀ e, e ∈ [e1, e2, e3, e4, e5] → e.key.length ≤ 140737488351232 ∧ e.val.length ≤ 140737488351232) := fun e he => by
    simp only [List.mem_cons, List.not_mem_nil, or_false] at he
    rcases he with rfl | rfl | rfl | rfl | rfl
    · rw [he1]; exact kn_short _
    · rw [he2]; exact kn_short _
    · rw [he3]; exact kn_short _
    · rw [he4]; exact kn_short _
    · rw [he5]; exact kn_short _
  clear he1 he2 he3 he4 he5
  go_enter Try.func8, Try.ntmps8
  go_wp2_with fail
  refine (gone11_is (e := e1) (k := 97) (by rw [HE1.out]; rfl) (by rfl) (by decide) (by decide) (by decide) w).mono ?_
  rintro x w1 ⟨hx, g1, rfl, hm⟩
  have HX1 := Lib.hid hx
  have HM1 := Lib.hid hm
  clear hx hm
  go_wp2_with fail
  refine (put11_is (e := e2) (k := 97) (by rw [HE2.out]; rfl) (by rfl) (by decide) (by decide) (by decide) w1).mono ?_
  rintro x w2 ⟨hx, g2, rfl, hm⟩
  have HX2 := Lib.hid hx
  have HM2 := Lib.hid hm
  clear hx hm
  go_wp2_with fail
  refine (put11_is (e := e3) (k := 97) (by rw [HE3.out]; rfl) (by rfl) (by decide) (by decide) (by decide) w2).mono ?_
  rintro x w3 ⟨hx, g3, rfl, hm⟩
  have HX3 := Lib.hid hx
  have HM3 := Lib.hid hm
  clear hx hm
  go_wp2_with fail
  refine (put11_is (e := e4) (k := 98) (by rw [HE4.out]; rfl) (by rfl) (by decide) (by decide) (by decide) w3).mono ?_
  rintro x w4 ⟨hx, g4, rfl, hm⟩
  have HX4 := Lib.hid hx
  have HM4 := Lib.hid hm
  clear hx hm
  go_wp2_with fail
  refine (put11_is (e := e5) (k := 99) (by rw [HE5.out]; rfl) (by rfl) (by decide) (by decide) (by decide) w4).mono ?_
  rintro x w5 ⟨hx, g5, rfl, hm⟩
  have HX5 := Lib.hid hx
  have HM5 := Lib.hid hm
  clear hx hm
  obtain ⟨w6, hw6⟩ : ∃ u, u = w5.alloc (.cells #[.slice g1.kA e1.key.length g1.kc, .int .i64 e1.seq, .int .i64 e1.kind, .slice g1.vA e1.val.length g1.vc, .slice g2.kA e2.key.length g2.kc, .int .i64 e2.seq, .int .i64 e2.kind, .slice g2.vA e2.val.length g2.vc, .slice g3.kA e3.key.length g3.kc, .int .i64 e3.seq, .int .i64 e3.kind, .slice g3.vA e3.val.length g3.vc, .slice g4.kA e4.key.length g4.kc, .int .i64 e4.seq, .int .i64 e4.kind, .slice g4.vA e4.val.length g4.vc, .slice g5.kA e5.key.length g5.kc, .int .i64 e5.seq, .int .i64 e5.kind, .slice g5.vA e5.val.length g5.vc] 46) := ⟨_, rfl⟩
  have HX6 : Hid (Ext w5 w6) := by rw [hw6]; exact ext_alloc _ _
  have HEA : Hid (Es w6 0 w6.heap.size (some ⟨w5.heap.size, 0, none⟩) [(e1, g1), (e2, g2), (e3, g3), (e4, g4), (e5, g5)]) := by
    have h9 := es_lit11 w5 [(e1, g1), (e2, g2), (e3, g3), (e4, g4), (e5, g5)] (fun p hp => by
      simp only [List.mem_cons, List.not_mem_nil, or_false] at hp
      rcases hp with rfl | rfl | rfl | rfl | rfl
      · exact em_next11 HM1.out (((HX2.out.trans HX3.out).trans HX4.out).trans HX5.out)
      · exact em_next11 HM2.out ((HX3.out.trans HX4.out).trans HX5.out)
      · exact em_next11 HM3.out (HX4.out.trans HX5.out)
      · exact em_next11 HM4.out HX5.out
      · exact em_next11 HM5.out (Ext.refl _))
    rw [hw6]; exact h9.wide (Nat.le_refl _) (by simp)
  unfold Ent.at_
  go_wp2_with fail
  rw [← hw6]; clear hw6
  refine (put11_is (e := e2) (k := 97) (by rw [HE2.out]; rfl) (by rfl) (by decide) (by decide) (by decide) w6).mono ?_
  rintro x w7 ⟨hx, g6, rfl, hm⟩
  have HX7 := Lib.hid hx
  have HM6 := Lib.hid hm
  clear hx hm
  go_wp2_with fail
  refine (put11_is (e := e4) (k := 98) (by rw [HE4.out]; rfl) (by rfl) (by decide) (by decide) (by decide) w7).mono ?_
  rintro x w8 ⟨hx, g7, rfl, hm⟩
  have HX8 := Lib.hid hx
  have HM7 := Lib.hid hm
  clear hx hm
  obtain ⟨w9, hw9⟩ : ∃ u, u = w8.alloc (.cells #[.slice g6.kA e2.key.length g6.kc, .int .i64 e2.seq, .int .i64 e2.kind, .slice g6.vA e2.val.length g6.vc, .slice g7.kA e4.key.length g7.kc, .int .i64 e4.seq, .int .i64 e4.kind, .slice g7.vA e4.val.length g7.vc] 46) := ⟨_, rfl⟩
  have HX9 : Hid (Ext w8 w9) := by rw [hw9]; exact ext_alloc _ _
  have HR1 : Hid (Es w9 0 w9.heap.size (some ⟨w8.heap.size, 0, none⟩) [(e2, g6), (e4, g7)]) := by
    have h9 := es_lit11 w8 [(e2, g6), (e4, g7)] (fun p hp => by
      simp only [List.mem_cons, List.not_mem_nil, or_false] at hp
      rcases hp with rfl | rfl
      · exact em_next11 HM6.out HX8.out
      · exact em_next11 HM7.out (Ext.refl _))
    rw [hw9]; exact h9.wide (Nat.le_refl _) (by simp)
  unfold Ent.at_
  go_wp2_with fail
  rw [← hw9]; clear hw9
  refine (of_goes (L := [(e2, g6), (e4, g7)]) (c := 2) HR1.out (by simp) (fun p hp => HSH.out p.1 (by simp only [List.mem_cons, List.not_mem_nil, or_false] at hp ⊢; rcases hp with rfl | rfl <;> simp))).mono ?_
  rintro x w10 ⟨b9, rfl, hg, hx⟩
  have HX10 := Lib.hid hx
  have HG1 := Lib.hid hg
  clear hx hg
  go_wp2_with fail
  refine (gone11_is (e := e1) (k := 97) (by rw [HE1.out]; rfl) (by rfl) (by decide) (by decide) (by decide) w10).mono ?_
  rintro x w11 ⟨hx, g8, rfl, hm⟩
  have HX11 := Lib.hid hx
  have HM8 := Lib.hid hm
  clear hx hm
  go_wp2_with fail
  refine (put11_is (e := e3) (k := 97) (by rw [HE3.out]; rfl) (by rfl) (by decide) (by decide) (by decide) w11).mono ?_
  rintro x w12 ⟨hx, g9, rfl, hm⟩
  have HX12 := Lib.hid hx
  have HM9 := Lib.hid hm
  clear hx hm
  go_wp2_with fail
  refine (put11_is (e := e5) (k := 99) (by rw [HE5.out]; rfl) (by rfl) (by decide) (by decide) (by decide) w12).mono ?_
  rintro x w13 ⟨hx, g10, rfl, hm⟩
  have HX13 := Lib.hid hx
  have HM10 := Lib.hid hm
  clear hx hm
  obtain ⟨w14, hw14⟩ : ∃ u, u = w13.alloc (.cells #[.slice g8.kA e1.key.length g8.kc, .int .i64 e1.seq, .int .i64 e1.kind, .slice g8.vA e1.val.length g8.vc, .slice g9.kA e3.key.length g9.kc, .int .i64 e3.seq, .int .i64 e3.kind, .slice g9.vA e3.val.length g9.vc, .slice g10.kA e5.key.length g10.kc, .int .i64 e5.seq, .int .i64 e5.kind, .slice g10.vA e5.val.length g10.vc] 46) := ⟨_, rfl⟩
  have HX14 : Hid (Ext w13 w14) := by rw [hw14]; exact ext_alloc _ _
  have HR2 : Hid (Es w14 0 w14.heap.size (some ⟨w13.heap.size, 0, none⟩) [(e1, g8), (e3, g9), (e5, g10)]) := by
    have h9 := es_lit11 w13 [(e1, g8), (e3, g9), (e5, g10)] (fun p hp => by
      simp only [List.mem_cons, List.not_mem_nil, or_false] at hp
      rcases hp with rfl | rfl | rfl
      · exact em_next11 HM8.out (HX12.out.trans HX13.out)
      · exact em_next11 HM9.out HX13.out
      · exact em_next11 HM10.out (Ext.refl _))
    rw [hw14]; exact h9.wide (Nat.le_refl _) (by simp)
  unfold Ent.at_
  go_wp2_with fail
  rw [← hw14]; clear hw14
  refine (of_goes (L := [(e1, g8), (e3, g9), (e5, g10)]) (c := 3) HR2.out (by simp) (fun p hp => HSH.out p.1 (by simp only [List.mem_cons, List.not_mem_nil, or_false] at hp ⊢; rcases hp with rfl | rfl | rfl <;> simp))).mono ?_
  rintro x w15 ⟨b14, rfl, hg, hx⟩
  have HX15 := Lib.hid hx
  have HG2 := Lib.hid hg
  clear hx hg
  obtain ⟨w16, hw16⟩ : ∃ u, u = w15.alloc (.cells #[.func (.func 31) #[] #[.pointer (some ⟨b9, 0, none⟩)], .func (.func 31) #[] #[.pointer (some ⟨b14, 0, none⟩)]] 27) := ⟨_, rfl⟩
  have HX16 : Hid (Ext w15 w16) := by rw [hw16]; exact ext_alloc _ _
  have HFS : Hid (Sl w16 0 w16.heap.size (some ⟨w15.heap.size, 0, none⟩) (List.map fv [(31, #[.pointer (some ⟨b9, 0, none⟩)]), (31, #[.pointer (some ⟨b14, 0, none⟩)])])) := by rw [hw16]; exact fs_lit w15 [(31, #[.pointer (some ⟨b9, 0, none⟩)]), (31, #[.pointer (some ⟨b14, 0, none⟩)])]
  have HB : Hid (∀ (i : Nat) (f : Nat × Array Value) (L : List Ent), [(31, #[.pointer (some ⟨b9, 0, none⟩)]), (31, #[.pointer (some ⟨b14, 0, none⟩)])][i]? = some f → [[e2, e4], [e1, e3, e5]][i]? = some L → Goes f.1 f.2 w15.heap.size L w16) := fun i f L h1 h2 => by
    match i with
    | 0 =>
      simp only [List.getElem?_cons_zero, Option.some.injEq] at h1 h2
      subst h1 h2
      exact (HG1.out.ext (((((HX11.out.trans HX12.out).trans HX13.out).trans HX14.out).trans HX15.out).trans HX16.out)).high (Below.size ((((HX11.out.trans HX12.out).trans HX13.out).trans HX14.out).trans HX15.out)) (Below.size HX16.out)
    | 1 =>
      simp only [List.getElem?_cons_succ, List.getElem?_cons_zero, Option.some.injEq] at h1 h2
      subst h1 h2
      exact HG2.out.ext HX16.out
    | i + 2 => simp at h1
  go_wp2_with fail
  rw [← hw16]; clear hw16
  refine (join_goes (B0 := w15.heap.size) (c := 2) (Ls := [[e2, e4], [e1, e3, e5]]) HFS.out (Nat.le_refl _) rfl (by simp) (by simp [totL]) HB.out (Below.size HX16.out)).mono ?_
  rintro x w17 ⟨lb16, rfl, hg, hx⟩
  have HX17 := Lib.hid hx
  have HG3 := Lib.hid hg
  clear hx hg
  go_wp2_with fail
  refine (list_goes HG3.out 0).mono ?_
  rintro x w18 hx
  obtain ⟨X2, c2, R2, rfl, h1, h2, h3⟩ := hx.es
  have HRJ : Hid (R2.map Prod.fst = [e1, e2, e3, e4, e5]) := by rw [show takeM 0 = fun L => L from funext fun L => rfl] at h2; rw [h2, HE1.out, HE2.out, HE3.out, HE4.out, HE5.out]; exact kn_join
  have HSJ := Lib.hid h1
  have HX18 := Lib.hid h3
  clear hx h1 h2 h3
  go_wp2_with fail
  refine (of_goes (L := [(e1, g1), (e2, g2), (e3, g3), (e4, g4), (e5, g5)]) (c := 5) (es_next11 HEA.out (((((((((((HX7.out.trans HX8.out).trans HX9.out).trans HX10.out).trans HX11.out).trans HX12.out).trans HX13.out).trans HX14.out).trans HX15.out).trans HX16.out).trans HX17.out).trans HX18.out)) (by simp) (fun p hp => HSH.out p.1 (by simp only [List.mem_cons, List.not_mem_nil, or_false] at hp ⊢; rcases hp with rfl | rfl | rfl | rfl | rfl <;> simp))).mono ?_
  rintro x w19 ⟨b18, rfl, hg, hx⟩
  have HX19 := Lib.hid hx
  have HOK := Lib.hid hg
  clear hx hg
  go_wp2_with fail
  refine (keep_goes HOK.out 5 false).mono ?_
  rintro x w20 ⟨lb19, rfl, hg, hx⟩
  have HX20 := Lib.hid hx
  have HKK := Lib.hid hg
  clear hx hg
  go_wp2_with fail
  refine (list_goes HKK.out 0).mono ?_
  rintro x w21 hx
  obtain ⟨X3, c3, R3, rfl, h1, h2, h3⟩ := hx.es
  have HRK : Hid (R3.map Prod.fst = [e1, e2, e4, e5]) := by rw [show takeM 0 = fun L => L from funext fun L => rfl] at h2; rw [h2, HE1.out, HE2.out, HE3.out, HE4.out, HE5.out]; exact kn_one
  have HSK := Lib.hid h1
  have HX21 := Lib.hid h3
  clear hx h1 h2 h3
  go_wp2_with fail
  refine (of_goes (L := [(e1, g1), (e2, g2), (e3, g3), (e4, g4), (e5, g5)]) (c := 5) (es_next11 HEA.out ((((((((((((((HX7.out.trans HX8.out).trans HX9.out).trans HX10.out).trans HX11.out).trans HX12.out).trans HX13.out).trans HX14.out).trans HX15.out).trans HX16.out).trans HX17.out).trans HX18.out).trans HX19.out).trans HX20.out).trans HX21.out)) (by simp) (fun p hp => HSH.out p.1 (by simp only [List.mem_cons, List.not_mem_nil, or_false] at hp ⊢; rcases hp with rfl | rfl | rfl | rfl | rfl <;> simp))).mono ?_
  rintro x w22 ⟨b21, rfl, hg, hx⟩
  have HX22 := Lib.hid hx
  have HOT := Lib.hid hg
  clear hx hg
  go_wp2_with fail
  refine (keep_goes HOT.out 9 true).mono ?_
  rintro x w23 ⟨lb22, rfl, hg, hx⟩
  have HX23 := Lib.hid hx
  have HKT := Lib.hid hg
  clear hx hg
  go_wp2_with fail
  refine (list_goes HKT.out 0).mono ?_
  rintro x w24 hx
  obtain ⟨X4, c4, R4, rfl, h1, h2, h3⟩ := hx.es
  have HRT : Hid (R4.map Prod.fst = [e4, e5]) := by rw [show takeM 0 = fun L => L from funext fun L => rfl] at h2; rw [h2, HE1.out, HE2.out, HE3.out, HE4.out, HE5.out]; exact kn_two
  have HST := Lib.hid h1
  have HX24 := Lib.hid h3
  clear hx h1 h2 h3
  go_wp2_with fail
  refine (of_goes (L := [(e1, g1), (e2, g2), (e3, g3), (e4, g4), (e5, g5)]) (c := 5) (es_next11 HEA.out (((((((((((((((((HX7.out.trans HX8.out).trans HX9.out).trans HX10.out).trans HX11.out).trans HX12.out).trans HX13.out).trans HX14.out).trans HX15.out).trans HX16.out).trans HX17.out).trans HX18.out).trans HX19.out).trans HX20.out).trans HX21.out).trans HX22.out).trans HX23.out).trans HX24.out)) (by simp) (fun p hp => HSH.out p.1 (by simp only [List.mem_cons, List.not_mem_nil, or_false] at hp ⊢; rcases hp with rfl | rfl | rfl | rfl | rfl <;> simp))).mono ?_
  rintro x w25 ⟨b24, rfl, hg, hx⟩
  have HX25 := Lib.hid hx
  have HOS := Lib.hid hg
  clear hx hg
  go_wp2_with fail
  refine (seen_goes HOS.out 5).mono ?_
  rintro x w26 ⟨lb25, rfl, hg, hx⟩
  have HX26 := Lib.hid hx
  have HKS := Lib.hid hg
  clear hx hg
  go_wp2_with fail
  refine (pairs_goes HKS.out 0).mono ?_
  rintro x w27 hx
  obtain ⟨X5, c5, R5, rfl, h1, h2, h3⟩ := hx.ps
  have HRS : Hid (R5.map Prod.fst = [e2, e4, e5]) := by rw [show takeM 0 = fun L => L from funext fun L => rfl] at h2; rw [h2, HE1.out, HE2.out, HE3.out, HE4.out, HE5.out]; exact kn_seen
  have HSS := Lib.hid h1
  have HX27 := Lib.hid h3
  clear hx h1 h2 h3
  have hl2 : R2.length = 5 := by have := congrArg List.length HRJ.out; rw [List.length_map] at this; exact this
  have hl3 : R3.length = 4 := by have := congrArg List.length HRK.out; rw [List.length_map] at this; exact this
  have hl4 : R4.length = 2 := by have := congrArg List.length HRT.out; rw [List.length_map] at this; exact this
  have hl5 : R5.length = 3 := by have := congrArg List.length HRS.out; rw [List.length_map] at this; exact this
  obtain ⟨q5, hq5⟩ : ∃ q, R5[0]? = some q := ⟨_, List.getElem?_eq_getElem (by omega)⟩
  have hqe : q5.1 = e2 := by
    have h9 := congrArg (fun l => l[0]?) HRS.out
    simp only [List.getElem?_map, hq5, Option.map_some, List.getElem?_cons_zero, Option.some.injEq] at h9
    exact h9
  obtain ⟨gP, oP, hX5, p0, p1⟩ := HSS.out.get hq5
  subst hX5
  rw [Nat.zero_mul, Nat.add_zero] at p0
  obtain ⟨r0, r1, r2, r3⟩ := (es_next11 HEA.out ((((((((((((((((((((HX7.out.trans HX8.out).trans HX9.out).trans HX10.out).trans HX11.out).trans HX12.out).trans HX13.out).trans HX14.out).trans HX15.out).trans HX16.out).trans HX17.out).trans HX18.out).trans HX19.out).trans HX20.out).trans HX21.out).trans HX22.out).trans HX23.out).trans HX24.out).trans HX25.out).trans HX26.out).trans HX27.out)).get (k := 0) rfl
  obtain ⟨s0, s1, s2, s3⟩ := (es_next11 HEA.out ((((((((((((((((((((HX7.out.trans HX8.out).trans HX9.out).trans HX10.out).trans HX11.out).trans HX12.out).trans HX13.out).trans HX14.out).trans HX15.out).trans HX16.out).trans HX17.out).trans HX18.out).trans HX19.out).trans HX20.out).trans HX21.out).trans HX22.out).trans HX23.out).trans HX24.out).trans HX25.out).trans HX26.out).trans HX27.out)).get (k := 1) rfl
  obtain ⟨u0, u1, u2, u3⟩ := (es_next11 HEA.out ((((((((((((((((((((HX7.out.trans HX8.out).trans HX9.out).trans HX10.out).trans HX11.out).trans HX12.out).trans HX13.out).trans HX14.out).trans HX15.out).trans HX16.out).trans HX17.out).trans HX18.out).trans HX19.out).trans HX20.out).trans HX21.out).trans HX22.out).trans HX23.out).trans HX24.out).trans HX25.out).trans HX26.out).trans HX27.out)).get (k := 3) rfl
  obtain ⟨v0, v1, v2, v3⟩ := (es_next11 HEA.out ((((((((((((((((((((HX7.out.trans HX8.out).trans HX9.out).trans HX10.out).trans HX11.out).trans HX12.out).trans HX13.out).trans HX14.out).trans HX15.out).trans HX16.out).trans HX17.out).trans HX18.out).trans HX19.out).trans HX20.out).trans HX21.out).trans HX22.out).trans HX23.out).trans HX24.out).trans HX25.out).trans HX26.out).trans HX27.out)).get (k := 4) rfl
  simp only [Nat.zero_add, Nat.zero_mul, Nat.one_mul, Nat.reduceMul, Nat.reduceAdd] at r0 r1 r2 r3 s0 s1 s2 s3 u0 u1 u2 u3 v0 v1 v2 v3
  obtain ⟨gA, hgA⟩ : ∃ g, g = w5.heap.size := ⟨_, rfl⟩
  have HEA2 : Hid (Es w27 0 w27.heap.size (some ⟨gA, 0, none⟩) [(e1, g1), (e2, g2), (e3, g3), (e4, g4), (e5, g5)]) := by rw [hgA]; exact es_next11 HEA.out ((((((((((((((((((((HX7.out.trans HX8.out).trans HX9.out).trans HX10.out).trans HX11.out).trans HX12.out).trans HX13.out).trans HX14.out).trans HX15.out).trans HX16.out).trans HX17.out).trans HX18.out).trans HX19.out).trans HX20.out).trans HX21.out).trans HX22.out).trans HX23.out).trans HX24.out).trans HX25.out).trans HX26.out).trans HX27.out)
  rw [← hgA] at r0 r1 r2 r3 s0 s1 s2 s3 u0 u1 u2 u3 v0 v1 v2 v3
  have HQ : Hid (∀ u, Ext w27 u → Bs u 0 u.heap.size (.slice q5.2.kA q5.1.key.length q5.2.kc) q5.1.key) := fun u hu => ((HSS.out.each q5 (List.mem_of_getElem? hq5)).below hu (Nat.le_refl _)).k.wide (Nat.le_refl _) hu.size
  have HQE : Hid (q5.1.key = [97]) := by rw [hqe, HE2.out]; rfl
  have HL := Lib.hid (And.intro hl2 (And.intro hl3 (And.intro hl4 hl5)))
  rw [← hgA, hl2, hl3, hl4, hl5]
  have HXW : Hid (Ext w w27) := ((((((((((((((((((((((((((HX1.out.trans HX2.out).trans HX3.out).trans HX4.out).trans HX5.out).trans HX6.out).trans HX7.out).trans HX8.out).trans HX9.out).trans HX10.out).trans HX11.out).trans HX12.out).trans HX13.out).trans HX14.out).trans HX15.out).trans HX16.out).trans HX17.out).trans HX18.out).trans HX19.out).trans HX20.out).trans HX21.out).trans HX22.out).trans HX23.out).trans HX24.out).trans HX25.out).trans HX26.out).trans HX27.out)
  clear hl2 hl3 hl4 hl5 hq5 hqe hgA
  go_upto_region 6 with (fail)
  refine flow (by kernel_rfl) [Is (.slice X2 5 c2), Is (.slice (some ⟨gA, 0, none⟩) 5 5), Is (.bool true), Is (.bool true), Is (.slice X3 4 c3), Is (.slice (some ⟨gA, 0, none⟩) 5 5), Is (.pointer (some ⟨gA, 0, none⟩)), Is (.agg #[.slice g1.kA e1.key.length g1.kc, .int .i64 e1.seq, .int .i64 e1.kind, .slice g1.vA e1.val.length g1.vc]), Is (.slice (some ⟨gA, 0, none⟩) 5 5), Is (.pointer (some ⟨gA, 4, none⟩)), Is (.agg #[.slice g2.kA e2.key.length g2.kc, .int .i64 e2.seq, .int .i64 e2.kind, .slice g2.vA e2.val.length g2.vc]), Is (.slice (some ⟨gA, 0, none⟩) 5 5), Is (.pointer (some ⟨gA, 12, none⟩)), Is (.agg #[.slice g4.kA e4.key.length g4.kc, .int .i64 e4.seq, .int .i64 e4.kind, .slice g4.vA e4.val.length g4.vc]), Is (.slice (some ⟨gA, 0, none⟩) 5 5), Is (.pointer (some ⟨gA, 16, none⟩)), Is (.agg #[.slice g5.kA e5.key.length g5.kc, .int .i64 e5.seq, .int .i64 e5.kind, .slice g5.vA e5.val.length g5.vc]), EsF [e1, e2, e4, e5], Is (.bool true), Is (.bool true), Is (.bool true), Is (.slice X4 2 c4), Is (.slice (some ⟨gA, 0, none⟩) 5 5), Is (.pointer (some ⟨gA, 12, none⟩)), Is (.agg #[.slice g4.kA e4.key.length g4.kc, .int .i64 e4.seq, .int .i64 e4.kind, .slice g4.vA e4.val.length g4.vc]), Is (.slice (some ⟨gA, 0, none⟩) 5 5), Is (.pointer (some ⟨gA, 16, none⟩)), Is (.agg #[.slice g5.kA e5.key.length g5.kc, .int .i64 e5.seq, .int .i64 e5.kind, .slice g5.vA e5.val.length g5.vc]), EsF [e4, e5], Is (.bool true), Is (.bool true), Is (.bool true), Is (.slice (some ⟨gP, oP, none⟩) 3 c5), Is (.int .i64 (3 : Int)), Is (.bool true), Is (.bool true), Is (.bool true), Is (.slice (some ⟨gP, oP, none⟩) 3 c5), Is (.pointer (some ⟨gP, oP, none⟩)), Is (.pointer (some ⟨gP, oP, none⟩)), Is (.slice q5.2.kA q5.1.key.length q5.2.kc), Is (.string (tx q5.1.key)), Is (.bool true), Is (.bool true), Is (.bool true)] (by kernel_rfl) (by kernel_rfl) ?mono (fun f1 => ?obl) ?fin
  case mono =>
    simp only [List.forall_mem_cons, List.not_mem_nil, false_imp_iff, implies_true, and_true]
    exact ⟨.is _, .is _, .is _, .is _, .is _, .is _, .is _, .is _, .is _, .is _, .is _, .is _, .is _, .is _, .is _, .is _, .is _, EsF.mono _, .is _, .is _, .is _, .is _, .is _, .is _, .is _, .is _, .is _, .is _, EsF.mono _, .is _, .is _, .is _, .is _, .is _, .is _, .is _, .is _, .is _, .is _, .is _, .is _, .is _, .is _, .is _, .is _⟩
  case fin =>
    intro g1 u hu hg
    simp only [puts, Act.put, List.setIfInBounds_toArray, List.set_cons_zero, List.set_cons_succ]
    have h44 : g1 44 = .bool true := hg 44 (by decide)
    rw [h44]
    have HXU : Hid (Ext w u) := Ext.trans HXW.out (Ext.trans (Ext.drew w27) hu)
    clear h44 hg hu
    go_wp2_with fail
    go_ret
    exact ⟨rfl, HXU.out⟩
  case obl =>
    refine ⟨fun u hu hd => ?_, ?_⟩
    · go_simp
      exact ⟨Ext.refl _, rfl⟩
    refine ⟨fun u hu hd => ?_, ?_⟩
    · simp only [Act.put, List.setIfInBounds_toArray, List.set_cons_zero, List.set_cons_succ]
      go_simp
      exact ⟨Ext.refl _, rfl⟩
    refine ⟨fun u hu hd => ?_, ?_⟩
    · simp only [Act.put, List.setIfInBounds_toArray, List.set_cons_zero, List.set_cons_succ]
      have e0 : f1 0 = .slice X2 5 c2 := hd 0 (by kernel_rfl)
      have e1 : f1 1 = .slice (some ⟨gA, 0, none⟩) 5 5 := hd 1 (by kernel_rfl)
      have hu2 := Ext.trans (Ext.drew w27) hu
      have h8 := HL.out
      have HS := Lib.hid (same11_yes (c := c2) (c2 := 5) (n := 5) (m := 5) (es_next11 (es_next11 HSJ.out ((((((((HX19.out.trans HX20.out).trans HX21.out).trans HX22.out).trans HX23.out).trans HX24.out).trans HX25.out).trans HX26.out).trans HX27.out)) hu2) (es_next11 HEA2.out hu2) (by omega) rfl (by rw [HRJ.out]; rfl) (by omega))
      clear hd hu h8
      go_simp
      refine HS.out.mono ?_
      rintro e w9 ⟨rfl, hx9⟩
      exact ⟨_, rfl, hx9, rfl⟩
    refine ⟨fun u hu hd => ?_, ?_⟩
    · simp only [Act.put, List.setIfInBounds_toArray, List.set_cons_zero, List.set_cons_succ]
      have e2 : f1 2 = .bool true := hd 2 (by kernel_rfl)
      go_simp
      exact ⟨Ext.refl _, rfl⟩
    refine ⟨fun u hu hd => ?_, ?_⟩
    · simp only [Act.put, List.setIfInBounds_toArray, List.set_cons_zero, List.set_cons_succ]
      have e3 : f1 3 = .bool true := hd 3 (by kernel_rfl)
      go_simp
      exact ⟨Ext.refl _, rfl⟩
    refine ⟨fun u hu hd => ?_, ?_⟩
    · simp only [Act.put, List.setIfInBounds_toArray, List.set_cons_zero, List.set_cons_succ]
      have e3 : f1 3 = .bool true := hd 3 (by kernel_rfl)
      go_simp
      exact ⟨Ext.refl _, rfl⟩
    refine ⟨fun u hu hd => ?_, ?_⟩
    · simp only [Act.put, List.setIfInBounds_toArray, List.set_cons_zero, List.set_cons_succ]
      have e3 : f1 3 = .bool true := hd 3 (by kernel_rfl)
      have e5 : f1 5 = .slice (some ⟨gA, 0, none⟩) 5 5 := hd 5 (by kernel_rfl)
      go_simp
      exact ⟨Ext.refl _, rfl⟩
    refine ⟨fun u hu hd => ?_, ?_⟩
    · simp only [Act.put, List.setIfInBounds_toArray, List.set_cons_zero, List.set_cons_succ]
      have e3 : f1 3 = .bool true := hd 3 (by kernel_rfl)
      have e6 : f1 6 = .pointer (some ⟨gA, 0, none⟩) := hd 6 (by kernel_rfl)
      have hu2 := Ext.trans (Ext.drew w27) hu
      have q0 := ext_cell hu2 r0
      have q1 := ext_cell hu2 r1
      have q2 := ext_cell hu2 r2
      have q3 := ext_cell hu2 r3
      go_simp
      exact ⟨Ext.refl _, rfl⟩
    refine ⟨fun u hu hd => ?_, ?_⟩
    · simp only [Act.put, List.setIfInBounds_toArray, List.set_cons_zero, List.set_cons_succ]
      have e3 : f1 3 = .bool true := hd 3 (by kernel_rfl)
      go_simp
      exact ⟨Ext.refl _, rfl⟩
    refine ⟨fun u hu hd => ?_, ?_⟩
    · simp only [Act.put, List.setIfInBounds_toArray, List.set_cons_zero, List.set_cons_succ]
      have e3 : f1 3 = .bool true := hd 3 (by kernel_rfl)
      have e8 : f1 8 = .slice (some ⟨gA, 0, none⟩) 5 5 := hd 8 (by kernel_rfl)
      go_simp
      exact ⟨Ext.refl _, rfl⟩
    refine ⟨fun u hu hd => ?_, ?_⟩
    · simp only [Act.put, List.setIfInBounds_toArray, List.set_cons_zero, List.set_cons_succ]
      have e3 : f1 3 = .bool true := hd 3 (by kernel_rfl)
      have e9 : f1 9 = .pointer (some ⟨gA, 4, none⟩) := hd 9 (by kernel_rfl)
      have hu2 := Ext.trans (Ext.drew w27) hu
      have q0 := ext_cell hu2 s0
      have q1 := ext_cell hu2 s1
      have q2 := ext_cell hu2 s2
      have q3 := ext_cell hu2 s3
      go_simp
      exact ⟨Ext.refl _, rfl⟩
    refine ⟨fun u hu hd => ?_, ?_⟩
    · simp only [Act.put, List.setIfInBounds_toArray, List.set_cons_zero, List.set_cons_succ]
      have e3 : f1 3 = .bool true := hd 3 (by kernel_rfl)
      go_simp
      exact ⟨Ext.refl _, rfl⟩
    refine ⟨fun u hu hd => ?_, ?_⟩
    · simp only [Act.put, List.setIfInBounds_toArray, List.set_cons_zero, List.set_cons_succ]
      have e3 : f1 3 = .bool true := hd 3 (by kernel_rfl)
      have e11 : f1 11 = .slice (some ⟨gA, 0, none⟩) 5 5 := hd 11 (by kernel_rfl)
      go_simp
      exact ⟨Ext.refl _, rfl⟩
    refine ⟨fun u hu hd => ?_, ?_⟩
    · simp only [Act.put, List.setIfInBounds_toArray, List.set_cons_zero, List.set_cons_succ]
      have e3 : f1 3 = .bool true := hd 3 (by kernel_rfl)
      have e12 : f1 12 = .pointer (some ⟨gA, 12, none⟩) := hd 12 (by kernel_rfl)
      have hu2 := Ext.trans (Ext.drew w27) hu
      have q0 := ext_cell hu2 u0
      have q1 := ext_cell hu2 u1
      have q2 := ext_cell hu2 u2
      have q3 := ext_cell hu2 u3
      go_simp
      exact ⟨Ext.refl _, rfl⟩
    refine ⟨fun u hu hd => ?_, ?_⟩
    · simp only [Act.put, List.setIfInBounds_toArray, List.set_cons_zero, List.set_cons_succ]
      have e3 : f1 3 = .bool true := hd 3 (by kernel_rfl)
      go_simp
      exact ⟨Ext.refl _, rfl⟩
    refine ⟨fun u hu hd => ?_, ?_⟩
    · simp only [Act.put, List.setIfInBounds_toArray, List.set_cons_zero, List.set_cons_succ]
      have e3 : f1 3 = .bool true := hd 3 (by kernel_rfl)
      have e14 : f1 14 = .slice (some ⟨gA, 0, none⟩) 5 5 := hd 14 (by kernel_rfl)
      go_simp
      exact ⟨Ext.refl _, rfl⟩
    refine ⟨fun u hu hd => ?_, ?_⟩
    · simp only [Act.put, List.setIfInBounds_toArray, List.set_cons_zero, List.set_cons_succ]
      have e3 : f1 3 = .bool true := hd 3 (by kernel_rfl)
      have e15 : f1 15 = .pointer (some ⟨gA, 16, none⟩) := hd 15 (by kernel_rfl)
      have hu2 := Ext.trans (Ext.drew w27) hu
      have q0 := ext_cell hu2 v0
      have q1 := ext_cell hu2 v1
      have q2 := ext_cell hu2 v2
      have q3 := ext_cell hu2 v3
      go_simp
      exact ⟨Ext.refl _, rfl⟩
    refine ⟨fun u hu hd => ?_, ?_⟩
    · simp only [Act.put, List.setIfInBounds_toArray, List.set_cons_zero, List.set_cons_succ]
      have e3 : f1 3 = .bool true := hd 3 (by kernel_rfl)
      have e7 : f1 7 = .agg #[.slice g1.kA e1.key.length g1.kc, .int .i64 e1.seq, .int .i64 e1.kind, .slice g1.vA e1.val.length g1.vc] := hd 7 (by kernel_rfl)
      have e10 : f1 10 = .agg #[.slice g2.kA e2.key.length g2.kc, .int .i64 e2.seq, .int .i64 e2.kind, .slice g2.vA e2.val.length g2.vc] := hd 10 (by kernel_rfl)
      have e13 : f1 13 = .agg #[.slice g4.kA e4.key.length g4.kc, .int .i64 e4.seq, .int .i64 e4.kind, .slice g4.vA e4.val.length g4.vc] := hd 13 (by kernel_rfl)
      have e16 : f1 16 = .agg #[.slice g5.kA e5.key.length g5.kc, .int .i64 e5.seq, .int .i64 e5.kind, .slice g5.vA e5.val.length g5.vc] := hd 16 (by kernel_rfl)
      have hu2 := Ext.trans (Ext.drew w27) hu
      have h9 := es_lit11 u [(e1, g1), (e2, g2), (e4, g4), (e5, g5)] (fun p hp => by
        have hes := es_next11 HEA2.out hu2
        simp only [List.mem_cons, List.not_mem_nil, or_false] at hp
        rcases hp with rfl | rfl | rfl | rfl
        · exact hes.each (e1, g1) (by simp)
        · exact hes.each (e2, g2) (by simp)
        · exact hes.each (e4, g4) (by simp)
        · exact hes.each (e5, g5) (by simp))
      have H9 := Lib.hid h9
      clear hd hu h9
      go_simp
      refine ⟨ext_alloc _ _, _, _, rfl, ?_, H9.out.wide (Nat.le_refl _) (by simp)⟩
      rfl
    refine ⟨fun u hu hd => ?_, ?_⟩
    · simp only [Act.put, List.setIfInBounds_toArray, List.set_cons_zero, List.set_cons_succ]
      have e3 : f1 3 = .bool true := hd 3 (by kernel_rfl)
      have e4 : f1 4 = .slice X3 4 c3 := hd 4 (by kernel_rfl)
      have e4 : f1 4 = .slice X3 4 c3 := hd 4 (by kernel_rfl)
      obtain ⟨A9, R9, e17, h92, h93⟩ := (hd 17 (by kernel_rfl) : EsF _ (f1 17) u)
      have hu2 := Ext.trans (Ext.drew w27) hu
      have h8 := HL.out
      have HS := Lib.hid (same11_yes (c := c3) (c2 := 4) (n := 4) (m := 4) (es_next11 (es_next11 HSK.out (((((HX22.out.trans HX23.out).trans HX24.out).trans HX25.out).trans HX26.out).trans HX27.out)) hu2) h93 (by omega) (by have h7 := congrArg List.length h92; rw [List.length_map] at h7; exact h7) (by rw [HRK.out, h92]) (by omega))
      clear hd hu h8
      go_simp
      refine HS.out.mono ?_
      rintro e w9 ⟨rfl, hx9⟩
      exact ⟨_, rfl, hx9, rfl⟩
    refine ⟨fun u hu hd => ?_, ?_⟩
    · simp only [Act.put, List.setIfInBounds_toArray, List.set_cons_zero, List.set_cons_succ]
      have e3 : f1 3 = .bool true := hd 3 (by kernel_rfl)
      have e18 : f1 18 = .bool true := hd 18 (by kernel_rfl)
      go_simp
      exact ⟨Ext.refl _, rfl⟩
    refine ⟨fun u hu hd => ?_, ?_⟩
    · simp only [Act.put, List.setIfInBounds_toArray, List.set_cons_zero, List.set_cons_succ]
      have e19 : f1 19 = .bool true := hd 19 (by kernel_rfl)
      go_simp
      exact ⟨Ext.refl _, rfl⟩
    refine ⟨fun u hu hd => ?_, ?_⟩
    · simp only [Act.put, List.setIfInBounds_toArray, List.set_cons_zero, List.set_cons_succ]
      have e20 : f1 20 = .bool true := hd 20 (by kernel_rfl)
      go_simp
      exact ⟨Ext.refl _, rfl⟩
    refine ⟨fun u hu hd => ?_, ?_⟩
    · simp only [Act.put, List.setIfInBounds_toArray, List.set_cons_zero, List.set_cons_succ]
      have e20 : f1 20 = .bool true := hd 20 (by kernel_rfl)
      go_simp
      exact ⟨Ext.refl _, rfl⟩
    refine ⟨fun u hu hd => ?_, ?_⟩
    · simp only [Act.put, List.setIfInBounds_toArray, List.set_cons_zero, List.set_cons_succ]
      have e20 : f1 20 = .bool true := hd 20 (by kernel_rfl)
      have e22 : f1 22 = .slice (some ⟨gA, 0, none⟩) 5 5 := hd 22 (by kernel_rfl)
      go_simp
      exact ⟨Ext.refl _, rfl⟩
    refine ⟨fun u hu hd => ?_, ?_⟩
    · simp only [Act.put, List.setIfInBounds_toArray, List.set_cons_zero, List.set_cons_succ]
      have e20 : f1 20 = .bool true := hd 20 (by kernel_rfl)
      have e23 : f1 23 = .pointer (some ⟨gA, 12, none⟩) := hd 23 (by kernel_rfl)
      have hu2 := Ext.trans (Ext.drew w27) hu
      have q0 := ext_cell hu2 u0
      have q1 := ext_cell hu2 u1
      have q2 := ext_cell hu2 u2
      have q3 := ext_cell hu2 u3
      go_simp
      exact ⟨Ext.refl _, rfl⟩
    refine ⟨fun u hu hd => ?_, ?_⟩
    · simp only [Act.put, List.setIfInBounds_toArray, List.set_cons_zero, List.set_cons_succ]
      have e20 : f1 20 = .bool true := hd 20 (by kernel_rfl)
      go_simp
      exact ⟨Ext.refl _, rfl⟩
    refine ⟨fun u hu hd => ?_, ?_⟩
    · simp only [Act.put, List.setIfInBounds_toArray, List.set_cons_zero, List.set_cons_succ]
      have e20 : f1 20 = .bool true := hd 20 (by kernel_rfl)
      have e25 : f1 25 = .slice (some ⟨gA, 0, none⟩) 5 5 := hd 25 (by kernel_rfl)
      go_simp
      exact ⟨Ext.refl _, rfl⟩
    refine ⟨fun u hu hd => ?_, ?_⟩
    · simp only [Act.put, List.setIfInBounds_toArray, List.set_cons_zero, List.set_cons_succ]
      have e20 : f1 20 = .bool true := hd 20 (by kernel_rfl)
      have e26 : f1 26 = .pointer (some ⟨gA, 16, none⟩) := hd 26 (by kernel_rfl)
      have hu2 := Ext.trans (Ext.drew w27) hu
      have q0 := ext_cell hu2 v0
      have q1 := ext_cell hu2 v1
      have q2 := ext_cell hu2 v2
      have q3 := ext_cell hu2 v3
      go_simp
      exact ⟨Ext.refl _, rfl⟩
    refine ⟨fun u hu hd => ?_, ?_⟩
    · simp only [Act.put, List.setIfInBounds_toArray, List.set_cons_zero, List.set_cons_succ]
      have e20 : f1 20 = .bool true := hd 20 (by kernel_rfl)
      have e24 : f1 24 = .agg #[.slice g4.kA e4.key.length g4.kc, .int .i64 e4.seq, .int .i64 e4.kind, .slice g4.vA e4.val.length g4.vc] := hd 24 (by kernel_rfl)
      have e27 : f1 27 = .agg #[.slice g5.kA e5.key.length g5.kc, .int .i64 e5.seq, .int .i64 e5.kind, .slice g5.vA e5.val.length g5.vc] := hd 27 (by kernel_rfl)
      have hu2 := Ext.trans (Ext.drew w27) hu
      have h9 := es_lit11 u [(e4, g4), (e5, g5)] (fun p hp => by
        have hes := es_next11 HEA2.out hu2
        simp only [List.mem_cons, List.not_mem_nil, or_false] at hp
        rcases hp with rfl | rfl
        · exact hes.each (e4, g4) (by simp)
        · exact hes.each (e5, g5) (by simp))
      have H9 := Lib.hid h9
      clear hd hu h9
      go_simp
      refine ⟨ext_alloc _ _, _, _, rfl, ?_, H9.out.wide (Nat.le_refl _) (by simp)⟩
      rfl
    refine ⟨fun u hu hd => ?_, ?_⟩
    · simp only [Act.put, List.setIfInBounds_toArray, List.set_cons_zero, List.set_cons_succ]
      have e20 : f1 20 = .bool true := hd 20 (by kernel_rfl)
      have e21 : f1 21 = .slice X4 2 c4 := hd 21 (by kernel_rfl)
      have e21 : f1 21 = .slice X4 2 c4 := hd 21 (by kernel_rfl)
      obtain ⟨A9, R9, e28, h92, h93⟩ := (hd 28 (by kernel_rfl) : EsF _ (f1 28) u)
      have hu2 := Ext.trans (Ext.drew w27) hu
      have h8 := HL.out
      have HS := Lib.hid (same11_yes (c := c4) (c2 := 2) (n := 2) (m := 2) (es_next11 (es_next11 HST.out ((HX25.out.trans HX26.out).trans HX27.out)) hu2) h93 (by omega) (by have h7 := congrArg List.length h92; rw [List.length_map] at h7; exact h7) (by rw [HRT.out, h92]) (by omega))
      clear hd hu h8
      go_simp
      refine HS.out.mono ?_
      rintro e w9 ⟨rfl, hx9⟩
      exact ⟨_, rfl, hx9, rfl⟩
    refine ⟨fun u hu hd => ?_, ?_⟩
    · simp only [Act.put, List.setIfInBounds_toArray, List.set_cons_zero, List.set_cons_succ]
      have e20 : f1 20 = .bool true := hd 20 (by kernel_rfl)
      have e29 : f1 29 = .bool true := hd 29 (by kernel_rfl)
      go_simp
      exact ⟨Ext.refl _, rfl⟩
    refine ⟨fun u hu hd => ?_, ?_⟩
    · simp only [Act.put, List.setIfInBounds_toArray, List.set_cons_zero, List.set_cons_succ]
      have e30 : f1 30 = .bool true := hd 30 (by kernel_rfl)
      go_simp
      exact ⟨Ext.refl _, rfl⟩
    refine ⟨fun u hu hd => ?_, ?_⟩
    · simp only [Act.put, List.setIfInBounds_toArray, List.set_cons_zero, List.set_cons_succ]
      have e31 : f1 31 = .bool true := hd 31 (by kernel_rfl)
      go_simp
      exact ⟨Ext.refl _, rfl⟩
    refine ⟨fun u hu hd => ?_, ?_⟩
    · simp only [Act.put, List.setIfInBounds_toArray, List.set_cons_zero, List.set_cons_succ]
      have e31 : f1 31 = .bool true := hd 31 (by kernel_rfl)
      have e32 : f1 32 = .slice (some ⟨gP, oP, none⟩) 3 c5 := hd 32 (by kernel_rfl)
      go_simp
      exact ⟨Ext.refl _, rfl⟩
    refine ⟨fun u hu hd => ?_, ?_⟩
    · simp only [Act.put, List.setIfInBounds_toArray, List.set_cons_zero, List.set_cons_succ]
      have e31 : f1 31 = .bool true := hd 31 (by kernel_rfl)
      have e33 : f1 33 = .int .i64 (3 : Int) := hd 33 (by kernel_rfl)
      go_simp
      exact ⟨Ext.refl _, rfl⟩
    refine ⟨fun u hu hd => ?_, ?_⟩
    · simp only [Act.put, List.setIfInBounds_toArray, List.set_cons_zero, List.set_cons_succ]
      have e31 : f1 31 = .bool true := hd 31 (by kernel_rfl)
      have e34 : f1 34 = .bool true := hd 34 (by kernel_rfl)
      go_simp
      exact ⟨Ext.refl _, rfl⟩
    refine ⟨fun u hu hd => ?_, ?_⟩
    · simp only [Act.put, List.setIfInBounds_toArray, List.set_cons_zero, List.set_cons_succ]
      have e35 : f1 35 = .bool true := hd 35 (by kernel_rfl)
      go_simp
      exact ⟨Ext.refl _, rfl⟩
    refine ⟨fun u hu hd => ?_, ?_⟩
    · simp only [Act.put, List.setIfInBounds_toArray, List.set_cons_zero, List.set_cons_succ]
      have e36 : f1 36 = .bool true := hd 36 (by kernel_rfl)
      go_simp
      exact ⟨Ext.refl _, rfl⟩
    refine ⟨fun u hu hd => ?_, ?_⟩
    · simp only [Act.put, List.setIfInBounds_toArray, List.set_cons_zero, List.set_cons_succ]
      have e36 : f1 36 = .bool true := hd 36 (by kernel_rfl)
      have e37 : f1 37 = .slice (some ⟨gP, oP, none⟩) 3 c5 := hd 37 (by kernel_rfl)
      go_simp
      exact ⟨Ext.refl _, rfl⟩
    refine ⟨fun u hu hd => ?_, ?_⟩
    · simp only [Act.put, List.setIfInBounds_toArray, List.set_cons_zero, List.set_cons_succ]
      have e36 : f1 36 = .bool true := hd 36 (by kernel_rfl)
      have e38 : f1 38 = .pointer (some ⟨gP, oP, none⟩) := hd 38 (by kernel_rfl)
      go_simp
      exact ⟨Ext.refl _, rfl⟩
    refine ⟨fun u hu hd => ?_, ?_⟩
    · simp only [Act.put, List.setIfInBounds_toArray, List.set_cons_zero, List.set_cons_succ]
      have e36 : f1 36 = .bool true := hd 36 (by kernel_rfl)
      have e39 : f1 39 = .pointer (some ⟨gP, oP, none⟩) := hd 39 (by kernel_rfl)
      have hu2 := Ext.trans (Ext.drew w27) hu
      have q0 := ext_cell hu2 p0
      go_simp
      exact ⟨Ext.refl _, rfl⟩
    refine ⟨fun u hu hd => ?_, ?_⟩
    · simp only [Act.put, List.setIfInBounds_toArray, List.set_cons_zero, List.set_cons_succ]
      have e36 : f1 36 = .bool true := hd 36 (by kernel_rfl)
      have e40 : f1 40 = .slice q5.2.kA q5.1.key.length q5.2.kc := hd 40 (by kernel_rfl)
      have hu2 := Ext.trans (Ext.drew w27) hu
      have t := conv_gx (HQ.out u hu2)
      go_simp
      exact ⟨Ext.refl _, rfl⟩
    refine ⟨fun u hu hd => ?_, ?_⟩
    · simp only [Act.put, List.setIfInBounds_toArray, List.set_cons_zero, List.set_cons_succ]
      have e36 : f1 36 = .bool true := hd 36 (by kernel_rfl)
      have e41 : f1 41 = .string (tx q5.1.key) := hd 41 (by kernel_rfl)
      rw [HQE.out] at e41
      have t97 : tx [97] = ⟨#[97]⟩ := rfl
      rw [t97] at e41
      go_simp
      exact ⟨Ext.refl _, rfl⟩
    refine ⟨fun u hu hd => ?_, ?_⟩
    · simp only [Act.put, List.setIfInBounds_toArray, List.set_cons_zero, List.set_cons_succ]
      have e36 : f1 36 = .bool true := hd 36 (by kernel_rfl)
      have e42 : f1 42 = .bool true := hd 42 (by kernel_rfl)
      go_simp
      exact ⟨Ext.refl _, rfl⟩
    refine ⟨fun u hu hd => ?_, ?_⟩
    · simp only [Act.put, List.setIfInBounds_toArray, List.set_cons_zero, List.set_cons_succ]
      have e43 : f1 43 = .bool true := hd 43 (by kernel_rfl)
      go_simp
      exact ⟨Ext.refl _, rfl⟩
    trivial
end Go.Proofs.Ytlnihaeeoolkhaa

/- Bytes that came in, with the bound that the form sets on how many they are. -/
namespace Go.Proofs.Ytlnihaeeoolkhaa
open Go.ChangeShapes Go.WideShapes Go.ChangeAt Go.RowKit Go.Joins
set_option maxRecDepth 100000 in
theorem open_bytes_sized {H : Type} {enc : TypeId × Value → H} {W : World} {v : Value} {d : DataW H} {p : List MemPlace} {b0 : Nat} (hv : Value.okWide Try.prog W .any b0 34 v) (h : DataW.Trod enc Try.prog W 0 (fun _ => true) true 34 v d p)
    {ts : List TypeId} {ds : List (DataW H)} (hsz : (DataW.weightsEach Try.prog ts ds).all (· ≤ reachBytes) = true) {jj : Nat} (hts : ts[jj]? = some 34) (hds : ds[jj]? = some d) :
    ∃ (A : Option Addr) (c : Nat) (l : List Nat), v = .slice A l.length c ∧ (∀ b ∈ l, b < 256) ∧ Bs W 0 W.heap.size (.slice A l.length c) l ∧ l.length ≤ 140737488351232 := by
  obtain ⟨a0, len0, cap0, rfl⟩ := okWide_slice Try.underlying34 hv
  obtain ⟨fuel, hf⟩ := h
  obtain ⟨A, c, l, hcs, hb, hbs, hw⟩ := cell_bytes hf
  have hw2 := hw fun n hn => of_decide_eq_true (List.all_eq_true.1 hsz _ (DataW.weights_mem_each hts hds n hn))
  rw [reach_is] at hw2
  simp only [Value.cells, List.cons.injEq, and_true] at hcs
  exact ⟨A, c, l, hcs, hb, hbs, hw2⟩
end Go.Proofs.Ytlnihaeeoolkhaa
