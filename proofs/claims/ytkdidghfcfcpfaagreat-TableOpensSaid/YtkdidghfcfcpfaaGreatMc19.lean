import Derived.Test.YtkdidghfcfcpfaaGreatMc18
import Derived.Test.YtkdidghfcfcpfaaGreatMc3
import Derived.Test.YtkdidghfcfcpfaaGreatMc0
namespace Go.Proofs.YtkdidghfcfcpfaaGreat
open Go.ChangeShapes Go.WideShapes Go.ChangeAt Go.RowKit Go.Shelf
attribute [local go_sem] Oper.semAt_some
theorem enters_tall1 : ∀ args w, (callFunc 40 args).run Tryz.prog w = .ok (.enter 40 args) w := enters_of Tryz.func40 (by kernel_rfl) rfl
structure AllJ (W : World) (lab : Nat) (J : (Nat → Prop) → (Nat → Prop) → Nat → World → Prop) (D K : Nat → Prop) (k : Nat) (Ds : List Nat) (A : World) : Prop where
 j : J D K k A
 box : Boxed A W.heap.size 82 (.func (.yield lab) #[] #[])
 dz : ∀ i, D i → W.heap.size < i ∧ i < A.heap.size
 kz : ∀ i, K i → W.heap.size ≤ i ∧ i < A.heap.size
 kb : K W.heap.size
 ms : ∀ i ∈ Ds, D i ∧ K i ∧ A.heap[i]? = some (.deferred (some []))
 pw : Ds.Pairwise (· ≠ ·)
structure AllI (W : World) (lab : Nat) (J : (Nat → Prop) → (Nat → Prop) → Nat → World → Prop) (c : Nat → Nat) (D0 K0 : Nat → Prop) (z4 : Nat) (u : World) (Ds : List Nat) (D K : Nat → Prop) (j : Nat) (A : World) : Prop where
 j : J (fun i => D0 i ∨ D i) (fun i => K0 i ∨ K i) (c j) A
 box : Boxed A W.heap.size 82 (.func (.yield lab) #[] #[])
 z : u.heap.size ≤ A.heap.size
 dz : ∀ i, D i → u.heap.size ≤ i
 kz : ∀ i, K i → u.heap.size ≤ i
 ms : ∀ i ∈ Ds, A.heap[i]? = some (.deferred (some []))
 fr : FrmB z4 u A
structure AllS (W : World) (D0 K0 : Nat → Prop) (z4 : Nat) (u : World) (Ds : List Nat) : Prop where
 dz : ∀ i, D0 i → W.heap.size < i ∧ i < u.heap.size
 kz : ∀ i, K0 i → W.heap.size ≤ i ∧ i < u.heap.size
 kb : K0 W.heap.size
 lt : W.heap.size < u.heap.size
 ms : ∀ i ∈ Ds, D0 i ∧ K0 i
 pw : Ds.Pairwise (· ≠ ·)
 kn : ∀ i, z4 ≤ i → i < u.heap.size → K0 i
section
variable {W : World} {lab : Nat} {J : (Nat → Prop) → (Nat → Prop) → Nat → World → Prop} {c : Nat → Nat} {D0 K0 : Nat → Prop} {z4 : Nat} {u : World} {Ds : List Nat}
theorem AllI.chg (hJ : ∀ D K k A D' K' A', J D K k A → Chg D A A' → (∀ i, D' i → D i ∨ A.heap.size ≤ i) → (∀ i, K' i → K i ∨ A.heap.size ≤ i) → J D' K' k A') (hS : AllS W D0 K0 z4 u Ds) {D K D' K' : Nat → Prop} {j : Nat} {A A' : World} (h : AllI W lab J c D0 K0 z4 u Ds D K j A) (hc : Chg D A A') (hD : ∀ i, D' i → D i ∨ A.heap.size ≤ i) (hK : ∀ i, K' i → K i ∨ A.heap.size ≤ i) : AllI W lab J c D0 K0 z4 u Ds D' K' j A' := by
 refine ⟨hJ _ _ _ _ _ _ _ h.j (hc.mono fun i _ hd => .inr hd) (fun i hi => ?_) (fun i hi => ?_), boxed_chg h.box hc (fun hd => by have := h.dz _ hd; have := hS.lt; omega), zNt h.z hc.size, fun i hi => ?_, fun i hi => ?_, fun i hi => ?_, fun i h1 h2 => ?_⟩
 · rcases hi with hi | hi
   · exact .inl (.inl hi)
   · rcases hD i hi with h2 | h2
     · exact .inl (.inr h2)
     · exact .inr h2
 · rcases hi with hi | hi
   · exact .inl (.inl hi)
   · rcases hK i hi with h2 | h2
     · exact .inl (.inr h2)
     · exact .inr h2
 · rcases hD i hi with h2 | h2
   · exact h.dz i h2
   · exact zNt h.z h2
 · rcases hK i hi with h2 | h2
   · exact h.kz i h2
   · exact zNt h.z h2
 · have h2 := h.ms i hi
   exact (hc.block i (zAg.1 h2).1 (fun hd => by have := h.dz i hd; have := (hS.dz i (hS.ms i hi).1).2; omega)).trans h2
 · exact (hc.block i (Nat.lt_of_lt_of_le h2 h.z) (fun hd => by have := h.dz i hd; omega)).trans (h.fr i h1 h2)
theorem AllJ.start {D K : Nat → Prop} {k z4 : Nat} {A : World} (h : AllJ W lab J D K k Ds A) (hx : Ext A u) (h4 : A.heap.size ≤ z4) : AllS W D (fun i => K i ∨ (z4 ≤ i ∧ i < u.heap.size)) z4 u Ds := by
 have hz := hx.size
 have hb := h.box.lt
 exact ⟨fun i hi => ⟨(h.dz i hi).1, by have := (h.dz i hi).2; omega⟩, fun i hi => by rcases hi with hi | hi; exact ⟨(h.kz i hi).1, by have := (h.kz i hi).2; omega⟩; exact ⟨by omega, hi.2⟩, .inl h.kb, by omega, fun i hi => ⟨(h.ms i hi).1, .inl (h.ms i hi).2.1⟩, h.pw, fun i h1 h2 => .inr ⟨h1, h2⟩⟩
theorem AllJ.inner (hJ : ∀ D K k A D' K' A', J D K k A → Chg D A A' → (∀ i, D' i → D i ∨ A.heap.size ≤ i) → (∀ i, K' i → K i ∨ A.heap.size ≤ i) → J D' K' k A') {D K : Nat → Prop} {k z4 : Nat} {A A1 : World} (h : AllJ W lab J D K k Ds A) (hx : Ext A u) (h4 : A.heap.size ≤ z4) (hx1 : Ext u A1) (hk : k = c 0) {D' K' : Nat → Prop} (hD : ∀ i, D' i → u.heap.size ≤ i) (hK : ∀ i, K' i → u.heap.size ≤ i) : AllI W lab J c D (fun i => K i ∨ (z4 ≤ i ∧ i < u.heap.size)) z4 u Ds D' K' 0 A1 := by
 have hz := hx.size
 have hxx := zEt hx hx1
 refine ⟨hk ▸ hJ _ _ _ _ _ _ _ h.j (Chg.of_ext hxx) (fun i hi => ?_) (fun i hi => ?_), ext_heap hxx h.box, hx1.size, hD, hK, fun i hi => ext_heap hxx (h.ms i hi).2.2, fun i _ h2 => hx1.block i h2⟩
 · rcases hi with hi | hi
   · exact .inl hi
   · exact .inr (by have := hD i hi; omega)
 · rcases hi with (hi | hi) | hi
   · exact .inl hi
   · exact .inr (by omega)
   · exact .inr (by have := hK i hi; omega)
theorem AllI.ends (hJ : ∀ D K k A D' K' A', J D K k A → Chg D A A' → (∀ i, D' i → D i ∨ A.heap.size ≤ i) → (∀ i, K' i → K i ∨ A.heap.size ≤ i) → J D' K' k A') (hS : AllS W D0 K0 z4 u Ds) {D K : Nat → Prop} {j M : Nat} {A : World} (h : AllI W lab J c D0 K0 z4 u Ds D K j A) (hM : M = u.heap.size) (hd : D M) (hk : K M) (hm : A.heap[M]? = some (.deferred (some []))) :
    AllJ W lab J (fun i => D0 i ∨ (D i ∧ i < A.heap.size)) (fun i => K0 i ∨ (K i ∧ i < A.heap.size)) (c j) (M :: Ds) A := by
 have hlt := (zAg.1 hm).1
 refine ⟨hJ _ _ _ _ _ _ _ h.j (Chg.refl _ _) (fun i hi => ?_) (fun i hi => ?_), h.box, fun i hi => ?_, fun i hi => ?_, .inl hS.kb, fun i hi => ?_, ?_⟩
 · rcases hi with hi | hi
   · exact .inl (.inl hi)
   · exact .inl (.inr hi.1)
 · rcases hi with hi | hi
   · exact .inl (.inl hi)
   · exact .inl (.inr hi.1)
 · rcases hi with hi | hi
   · have := hS.dz i hi; have := h.z; omega
   · have := h.dz i hi.1; have := hS.lt; omega
 · rcases hi with hi | hi
   · have := hS.kz i hi; have := h.z; omega
   · have := h.kz i hi.1; have := hS.lt; omega
 · rcases List.mem_cons.1 hi with rfl | hi
   · exact ⟨.inr ⟨hd, hlt⟩, .inr ⟨hk, hlt⟩, hm⟩
   · exact ⟨.inl (hS.ms i hi).1, .inl (hS.ms i hi).2, h.ms i hi⟩
 · rw [List.pairwise_cons]
   exact ⟨fun i hi e => by have := (hS.dz i (hS.ms i hi).1).2; omega, hS.pw⟩
structure AllX (J : (Nat → Prop) → (Nat → Prop) → Nat → World → Prop) (Jx : (Nat → Prop) → World → Prop) (N : Nat) (D0 : Nat → Prop) (u : World) (Ds : List Nat) (D : Nat → Prop) (cd : Code) (A : World) : Prop where
 cd : cd = .ret
 or : (∃ K, J (fun i => D0 i ∨ D i) K N A) ∨ Jx (fun i => D0 i ∨ D i) A
 dz : ∀ i, D i → u.heap.size ≤ i
 ms : ∀ i ∈ Ds, A.heap[i]? = some (.deferred (some []))
theorem AllX.chg {Jx : (Nat → Prop) → World → Prop} {N : Nat} (hJ : ∀ D K k A D' K' A', J D K k A → Chg D A A' → (∀ i, D' i → D i ∨ A.heap.size ≤ i) → (∀ i, K' i → K i ∨ A.heap.size ≤ i) → J D' K' k A') (hJx : ∀ D A A', Jx D A → Chg D A A' → Jx D A') (hS : AllS W D0 K0 z4 u Ds) {D : Nat → Prop} {cd : Code} {A A' : World} (h : AllX J Jx N D0 u Ds D cd A) (hc : Chg D A A') : AllX J Jx N D0 u Ds D cd A' := by
 refine ⟨h.cd, ?_, h.dz, fun i hi => ?_⟩
 · rcases h.or with ⟨K, h1⟩ | h1
   · exact .inl ⟨K, hJ _ _ _ _ _ _ _ h1 (hc.mono fun i _ hd => .inr hd) (fun i hi => .inl hi) (fun i hi => .inl hi)⟩
   · exact .inr (hJx _ _ _ h1 (hc.mono fun i _ hd => .inr hd))
 · have h2 := h.ms i hi
   exact (hc.block i (zAg.1 h2).1 (fun hd => by have := h.dz i hd; have := (hS.dz i (hS.ms i hi).1).2; omega)).trans h2
end
structure TVK (A : World) (g : Nat) (C : List (List Ent)) (L : List Ent) (fr tt : List Nat) (en : Bool) (fA : Option Addr) (fc : Nat) (tA : Option Addr) (tc : Nat) (bv_ fv_ : Value) (PA : Option Addr) (pc : Nat) (P : List (Pl × PHd)) : Prop where
 tv : TV A g C L fr tt en
 cs : A.heap[g]? = some (.cells #[bv_, .slice PA P.length pc, fv_, .slice fA fr.length fc, .slice tA tt.length tc, .bool en] 87 (0, 0))
 ps : Ps A 0 A.heap.size PA P
 pp : P.map Prod.fst = pls C
 pl : P.length ≤ pc
 bf : Bs A 0 A.heap.size (.slice fA fr.length fc) fr
 bt : Bs A 0 A.heap.size (.slice tA tt.length tc) tt
theorem TVK.ext {A A' : World} {g : Nat} {C : List (List Ent)} {L : List Ent} {fr tt : List Nat} {en : Bool} {fA : Option Addr} {fc : Nat} {tA : Option Addr} {tc : Nat} {bv_ fv_ : Value} {PA : Option Addr} {pc : Nat} {P : List (Pl × PHd)} (h : TVK A g C L fr tt en fA fc tA tc bv_ fv_ PA pc P) (hx : Ext A A') : TVK A' g C L fr tt en fA fc tA tc bv_ fv_ PA pc P :=
 ⟨h.tv.ext hx, ext_heap hx h.cs, h.ps.next hx, h.pp, h.pl, bs_next h.bf hx, bs_next h.bt hx⟩
theorem TV.parts {A : World} {g : Nat} {C : List (List Ent)} {L : List Ent} {fr tt : List Nat} {en : Bool} (h : TV A g C L fr tt en) : ∃ fA fc tA tc bv_ fv_ PA pc P, TVK A g C L fr tt en fA fc tA tc bv_ fv_ PA pc P := by
 obtain ⟨fA, fc, tA, tc, ⟨bv_, fv_, PA, pc, P, h1, _, _, h4, h5, h6⟩, hbf, hbt⟩ := h.at_
 exact ⟨fA, fc, tA, tc, bv_, fv_, PA, pc, P, h, h1, h4, h6, h5, hbf, hbt⟩
set_option maxRecDepth 100000 in
set_option maxHeartbeats 16000000 in
theorem tall_iterq {u0 : World} {g bx : Nat} {C : List (List Ent)} {L : List Ent} {fr tt : List Nat} {en : Bool} {St : World → Prop} {fA : Option Addr} {fc : Nat} {tA : Option Addr} {tc : Nat} {bv_ fv_ : Value} {PA : Option Addr} {pc : Nat} {P : List (Pl × PHd)} (hst : ∀ A, St A → TVK A g C L fr tt en fA fc tA tc bv_ fv_ PA pc P ∧ Boxed A bx 24 (.pointer (some ⟨g, 0, none⟩))) (hs0 : ∀ W, Ext u0 W → St W) :
    GoIter 40 #[.pointer (some ⟨bx, 0, none⟩)] u0.heap.size (inV fr tt en L) St u0 := by
 intro mm lab J Jx W hx hC hJ hJx h0 hY
 have HST := zHd hst
 have HC : Hid (∀ D K k A, J D K k A → TVK A g C L fr tt en fA fc tA tc bv_ fv_ PA pc P ∧ Boxed A bx 24 (.pointer (some ⟨g, 0, none⟩))) := fun D K k A hj => hst A (hC D K k A hj)
 have HJ := zHd hJ
 have HJX := zHd hJx
 have HY := zHd hY
 obtain ⟨W1, hW1⟩ : ∃ W1, W1 = W.alloc (.cells #[.func (.yield lab) #[] #[]] 82) := ⟨_, rfl⟩
 have HX1 : Hid (Ext W W1) := by rw [hW1]; exact ext_alloc _ _
 have HT1 : Hid (TVK W1 g C L fr tt en fA fc tA tc bv_ fv_ PA pc P ∧ Boxed W1 bx 24 (.pointer (some ⟨g, 0, none⟩))) := hst _ (hs0 _ (zEt hx HX1.out))
 have HB1 : Hid (Boxed W1 W.heap.size 82 (.func (.yield lab) #[] #[])) := by rw [hW1]; exact heap_at _ _ rfl
 have HJ1 : Hid (J (fun _ => False) (fun i => i = W.heap.size) 0 W1) := h0 W1 _ _ HX1.out (fun _ h => h.elim) (fun i e => by rw [e]; exact zNr _)
 have HN := zHd (tnone_any HT1.out.1.tv)
 have HV := zHd HT1.out.1.tv
 obtain ⟨p1, p2, p3, p4⟩ := HV.out.places HT1.out.1.pp
 obtain ⟨n, hn⟩ := cut_ex p4 ⟨fr, 2147483647, 0, []⟩
 have HCUT := zHd hn
 have hnle : n ≤ P.length := by have := hn.le; rw [List.length_map, pls_length] at this; rw [p3]; exact this
 have HFI : Hid (∀ u, Ext W1 u → Calls Tryz.prog 42 #[.pointer (some ⟨g, 0, none⟩), .slice fA fr.length fc, .int .i64 2147483647] u fun x w' => x = .returned (.int .i64 (n : Int)) ∧ Ext u w') := fun u hu => by
  have hk := HT1.out.1.ext hu
  refine (tfirst_any hk.tv hk.bf (zNr _) HV.out.bf (by decide) (by decide)).mono ?_
  rintro x w' ⟨m, hm, rfl, hxx⟩
  rw [cut_one hm HCUT.out]
  exact ⟨rfl, hxx⟩
 obtain ⟨PX, hPX⟩ : ∃ PX, PX = (if pc = n then PA else PA.map (·.add (n * 6))) := ⟨_, rfl⟩
 obtain ⟨M, hM⟩ : ∃ M, M = P.length - n := ⟨_, rfl⟩
 obtain ⟨PC, hPC⟩ : ∃ PC, PC = pc - n := ⟨_, rfl⟩
 have HSL := zHd (fun w => pslice_from PA P.length pc n hnle HT1.out.1.pl w)
 rw [← hPX, ← hM, ← hPC] at HSL
 have HPS : Hid (∀ A, TVK A g C L fr tt en fA fc tA tc bv_ fv_ PA pc P → Ps A 0 A.heap.size PX (P.drop n)) := by rw [hPX]; exact fun A hk => hk.ps.drop hnle hk.pl
 have HP6 : Hid (P.map Prod.fst = pls C) := HT1.out.1.pp
 have HLEN : Hid (M + n = C.length ∧ P.length = C.length ∧ C.length ≤ 4096) := ⟨by omega, p3, HV.out.some_.2⟩
 have HRM : Hid (Rise C.flatten ∧ ∀ e ∈ C.flatten, e.may = true) := ⟨HV.out.flat ▸ HV.out.may.2.2.1, fun e he => HV.out.may.2.2.2 e (HV.out.flat ▸ he)⟩
 have HC0 : Hid (0 = cnt fr tt en L (offK C (n + 0))) := by rw [← HV.out.flat]; exact (cnt_first HV.out.cuts HRM.out.1 HRM.out.2 HCUT.out).symm
 have c1 := cell_of HT1.out.1.cs (k := 1) rfl
 have c3 := cell_of HT1.out.1.cs (k := 3) rfl
 have b0 := Boxed.cell HT1.out.2
 have HXW := zHd hx
 clear hst hs0 hC hJ hJx h0 hY p1 p2 p3 p4 hn hnle hPX hM hPC hx
 have hf1 : Fence.wide.fn 45 := trivial
 refine (callsIn_wide (n := 6)).1 ?_
 refine callsIn_of_wp_marks Tryz.func40 rfl trivial ?_
 simp only [Tryz.ntmps40, List.size_toArray, List.length_cons, List.length_nil, Nat.reduceAdd, Nat.reduceSub, Array.replicate_succ, Array.replicate_zero, List.push_toArray, List.append_toArray, List.nil_append, List.cons_append]
 refine wpIn_wide.2 ?_
 go_upto_region 1 with (fail)
 rw [← hW1]
 clear hW1
 go_upto_region 2 with (first | (refine HN.out.mono ?_; rintro x w0 ⟨rfl, hw0⟩; have hw0 := hw0.symm; subst hw0))
 refine flow (by kernel_rfl) [Is (.pointer (some ⟨g, 0, none⟩)), Is (.pointer (some ⟨g, 0, none⟩)), Is (.pointer (some ⟨g, 1, none⟩)), Is (.slice PA P.length pc), Is (.pointer (some ⟨g, 0, none⟩)), Is (.pointer (some ⟨g, 0, none⟩)), Is (.pointer (some ⟨g, 0, none⟩)), Is (.pointer (some ⟨g, 3, none⟩)), Is (.pointer (some ⟨g, 3, none⟩)), Is (.slice fA fr.length fc), Is (.int .i64 (n : Int)), Is (.slice PX M PC), Is (.int .i64 (M : Int)), Is (.int .i64 0)] (by kernel_rfl) (by kernel_rfl) ?mono (fun f1 => ?obl) ?fin
 case mono =>
  simp only [List.forall_mem_cons, List.not_mem_nil, false_imp_iff, implies_true, and_true]
  and_intros <;> exact .is _
 case fin =>
  intro g1 u hu hg
  simp only [puts, Act.put, zq]
  have h11 : g1 11 = _ := hg 11 (by decide)
  have h12 : g1 12 = _ := hg 12 (by decide)
  have h13 : g1 13 = _ := hg 13 (by decide)
  rw [h11, h12, h13]
  have HXU1 : Hid (Ext W1 u) := zEt (Ext.drew W1) hu
  clear h11 h12 h13 hg hu b0 c1 c3
  rename_i ak
  refine ak _ _ ?_
  clear ak
  refine (wpIn_wide (n := 6)).1 ?_
  gi_wp2_with fail
  generalize g1 0 = v8
  generalize g1 (0 + 1) = v9
  generalize g1 (0 + 1 + 1) = v10
  generalize g1 (0 + 1 + 1 + 1) = v11
  generalize g1 (0 + 1 + 1 + 1 + 1) = v12
  generalize g1 (0 + 1 + 1 + 1 + 1 + 1) = v13
  generalize g1 (0 + 1 + 1 + 1 + 1 + 1 + 1) = v14
  generalize g1 (0 + 1 + 1 + 1 + 1 + 1 + 1 + 1) = v15
  generalize g1 (0 + 1 + 1 + 1 + 1 + 1 + 1 + 1 + 1) = v16
  generalize g1 (0 + 1 + 1 + 1 + 1 + 1 + 1 + 1 + 1 + 1) = v17
  generalize g1 (0 + 1 + 1 + 1 + 1 + 1 + 1 + 1 + 1 + 1 + 1) = v18
  refine wpIn_loop (fun a A => ∃ (i k : Nat) (D K : Nat → Prop) (Ds : List Nat) (u4 u22 u23 u24 u25 u26 u27 u28 u29 u30 u31 u32 u33 u48 : Value), a = { tmps := #[.func (.yield lab) #[] #[], .pointer (some ⟨bx, 0, none⟩), .pointer (some ⟨W.heap.size, 0, none⟩), undef, u4, undef, .pointer (some ⟨g, 0, none⟩), .bool false, v8, v9, v10, v11, v12, v13, v14, v15, v16, v17, v18, .slice PX M PC, .int .i64 (M : Int), .int .i64 (i : Int), u22, u23, u24, u25, u26, u27, u28, u29, u30, u31, u32, u33, undef, undef, undef, undef, undef, undef, undef, undef, undef, undef, undef, undef, undef, undef, u48], defers := Ds.map markD } ∧ i ≤ M ∧ k = cnt fr tt en L (offK C (n + i)) ∧ Hid (AllJ W lab J D K k Ds A)) (fun a _ => M - (intOf (a.tmps.getD 21 undef)).toNat) ?start ?round
  case start =>
   exact ⟨0, 0, _, _, [], _, _, _, _, _, _, _, _, _, _, _, _, _, _, rfl, Nat.zero_le _, HC0.out, ⟨HJ.out _ _ _ _ _ _ _ HJ1.out (Chg.of_ext HXU1.out) (fun _ h => .inl h) (fun _ h => .inl h), ext_heap HXU1.out HB1.out, fun _ h => h.elim, fun i e => ⟨Nat.le_of_eq e.symm, by rw [e]; exact Nat.lt_of_lt_of_le HB1.out.lt HXU1.out.size⟩, rfl, fun i h => (by cases h), List.Pairwise.nil⟩⟩
  case round =>
   rintro a wq ⟨i, k, D, K, Ds, u4, u22, u23, u24, u25, u26, u27, u28, u29, u30, u31, u32, u33, u48, rfl, hi, hk, HA⟩
   have HKR : Hid (TVK wq g C L fr tt en fA fc tA tc bv_ fv_ PA pc P) := (HC.out _ _ _ _ HA.out.j).1
   have HBR : Hid (Boxed wq bx 24 (.pointer (some ⟨g, 0, none⟩))) := (HC.out _ _ _ _ HA.out.j).2
   by_cases hlt : i < M
   · have d : decide ((i : Int) < (M : Int)) = true := decide_eq_true (by omega)
     have dn : decide (i < M) = true := decide_eq_true hlt
     obtain ⟨p, hp⟩ : ∃ p, (P.drop n)[i]? = some p := ⟨_, List.getElem?_eq_getElem (by have := HLEN.out; rw [List.length_drop]; omega)⟩
     obtain ⟨q, hq⟩ : ∃ q, C[n + i]? = some q := ⟨_, List.getElem?_eq_getElem (by have := HLEN.out; omega)⟩
     have hpe : p.1 = plOf q (offB C (n + i)) := by
      have h1 := pls_at hq
      rw [List.getElem?_drop] at hp
      rw [← HP6.out, List.getElem?_map, hp] at h1
      injection h1
     obtain ⟨pb, po, hA⟩ := (HPS.out wq HKR.out).base (by have := HLEN.out; rw [List.length_drop]; omega)
     subst hA
     obtain ⟨c0, c1, c2, c3, c4, c5⟩ := (HPS.out wq HKR.out).get hp
     obtain ⟨w4, hw4⟩ : ∃ w4, w4 = wq.alloc (.cells #[.slice p.2.1 p.1.key.length p.2.2, .int .i64 (p.1.n : Int), .int .i64 0, .slice none 0 0, .int .i64 (p.1.b : Int), .int .i64 (p.1.z : Int)] 90) := ⟨_, rfl⟩
     have HX4 : Hid (Ext wq w4) := by rw [hw4]; exact ext_alloc _ _
     have HE4 : Hid (w4.heap[wq.heap.size]? = some (.cells #[.slice p.2.1 p.1.key.length p.2.2, .int .i64 (p.1.n : Int), .int .i64 0, .slice none 0 0, .int .i64 (p.1.b : Int), .int .i64 (p.1.z : Int)] 90 (0, 0))) := by rw [hw4]; exact heap_at _ _ rfl
     have HK4 := zHd (HKR.out.ext HX4.out)
     have HV4 : Hid (TV w4 g C L fr tt en) := HK4.out.tv
     have eb : ((offB C (n + i) : Nat) : Int) = (p.1.b : Int) := by rw [hpe]; rfl
     have ez : (((wr q).length : Nat) : Int) = (p.1.z : Int) := by rw [hpe]; rfl
     have HBL : Hid (∀ u, Ext w4 u → Calls Tryz.prog 44 #[.pointer (some ⟨g, 0, none⟩), .agg #[.slice p.2.1 p.1.key.length p.2.2, .int .i64 (p.1.n : Int), .int .i64 0, .slice none 0 0, .int .i64 (p.1.b : Int), .int .i64 (p.1.z : Int)]] u fun x w' => ∃ A c, x = .returned (.slice A (wr q).length c) ∧ Bs w' 0 w'.heap.size (.slice A (wr q).length c) (wr q) ∧ Ext u w') := fun u hu => by
      have h2 := tblock_any (HV4.out.ext hu) hq p.2.1 p.1.key.length p.2.2 (p.1.n : Int)
      rw [eb, ez] at h2
      exact h2
     obtain ⟨qm, ql, qs, qr⟩ := HV4.out.block hq
     have HFR : Hid (∀ u, Ext w4 u → ∀ QA qc, Bs u 0 u.heap.size (.slice QA (wr q).length qc) (wr q) → Calls Tryz.prog 43 #[.slice QA (wr q).length qc, .slice fA fr.length fc] u fun x w' => ∃ v, x = .returned v ∧ Ext u w' ∧ FromV w4.heap.size fr q v w') := fun u hu QA qc hqb =>
      tfrom_block qm hqb ql qs (HK4.out.ext hu).bf (zNr _) HV.out.bf hu.size
     have HQ := zHd hq
     have HQR := zHd qr
     have e0 := cell_of HE4.out (k := 0) rfl
     have e1 := cell_of HE4.out (k := 1) rfl
     have e2 := cell_of HE4.out (k := 2) rfl
     have e3 := cell_of HE4.out (k := 3) rfl
     have e4 := cell_of HE4.out (k := 4) rfl
     have e5 := cell_of HE4.out (k := 5) rfl
     have n1 : (0 : Int) ≤ (i : Int) := Int.natCast_nonneg _
     have n2 : (i : Int) < (M : Int) := Int.ofNat_lt.2 hlt
     have HLT := zHd hlt
     have HKC := zHd hk
     clear hp hpe hq qm ql qs qr eb ez hlt hi hk
     refine wpIn_wide.2 ?_
     go_upto_region 5 with (fail)
     rw [← hw4]
     clear hw4 c0 c1 c2 c3 c4 c5
     have b0 := Boxed.cell (ext_heap HX4.out HBR.out)
     have c3 := cell_of HK4.out.cs (k := 3) rfl
     refine flow (by kernel_rfl) [Is (.pointer (some ⟨g, 0, none⟩)), Is (.agg #[.slice p.2.1 p.1.key.length p.2.2, .int .i64 (p.1.n : Int), .int .i64 0, .slice none 0 0, .int .i64 (p.1.b : Int), .int .i64 (p.1.z : Int)]), BlkV q, Is (.pointer (some ⟨g, 0, none⟩)), Is (.pointer (some ⟨g, 0, none⟩)), Is (.pointer (some ⟨g, 3, none⟩)), Is (.pointer (some ⟨g, 3, none⟩)), Is (.slice fA fr.length fc), FromV w4.heap.size fr q] (by kernel_rfl) (by kernel_rfl) ?mono5 (fun f1 => ?obl5) ?fin5
     case mono5 =>
      simp only [List.forall_mem_cons, List.not_mem_nil, false_imp_iff, implies_true, and_true]
      exact ⟨.is _, .is _, BlkV.mono _, .is _, .is _, .is _, .is _, .is _, FromV.mono _ _ _⟩
     case fin5 =>
      intro g1 u hu hg
      simp only [puts, Act.put, zq]
      have hfv : FromV w4.heap.size fr q (g1 8) u := hg 8 (by decide)
      obtain ⟨bd, X, cs, S, h8, hl5, hbd, hes, hsl, hin, hmp⟩ := hfv
      rw [h8]
      have HXU5 : Hid (Ext w4 u) := zEt (Ext.drew w4) hu
      have HXR5 : Hid (Ext wq u) := zEt HX4.out HXU5.out
      have HSEQ := zHd (from_iterP hbd hes hsl hin)
      have HSM := zHd hmp
      clear h8 hl5 hbd hes hsl hin hmp hg hu b0 c3 e0 e1 e2 e3 e4 e5
      rename_i ak
      refine ak _ _ ?_
      clear ak
      refine (wpIn_wide (n := 6)).1 ?_
      gi_wp2_with fail
      obtain ⟨o, ho⟩ : ∃ o, o = offK C (n + i) + cutOf (belowK fr) q := ⟨_, rfl⟩
      obtain ⟨K0, hK0⟩ : ∃ K0 : Nat → Prop, K0 = fun i => K i ∨ (w4.heap.size ≤ i ∧ i < u.heap.size) := ⟨_, rfl⟩
      have HO := zHd ho
      have HS : Hid (AllS W D K0 w4.heap.size u Ds) := by rw [hK0]; exact HA.out.start HXR5.out HX4.out.size
      have HK0 : Hid (k = cnt fr tt en L (o + 0)) := by
       have h1 := cnt_block (fr := fr) (tt := tt) (en := en) HQ.out
       rw [HV.out.flat, ← ho] at h1
       rw [HKC.out, Nat.add_zero, h1]
       exact rfl
      have HIN : Hid (∀ A1, Ext u A1 → ∀ D' K' : Nat → Prop, (∀ i, D' i → u.heap.size ≤ i) → (∀ i, K' i → u.heap.size ≤ i) → AllI W lab J (fun j => cnt fr tt en L (o + j)) D K0 w4.heap.size u Ds D' K' 0 A1) := fun A1 hx1 D' K' hD hK => by
       rw [hK0]; exact HA.out.inner HJ.out HXR5.out HX4.out.size hx1 HK0.out hD hK
      have HQL : Hid (∀ (j : Nat) (e : Ent), (S.map Prod.fst)[j]? = some e → L[o + j]? = some e ∧ belowK fr e = false) := fun j e he => by
       rw [HSM.out, List.getElem?_drop] at he
       have hl := (zLg.1 he).1
       refine ⟨?_, cut_above HQR.out he (Nat.le_add_right _ _)⟩
       rw [HO.out, ← HV.out.flat, Nat.add_assoc, flat_at HQ.out hl]
       exact he
      have HEN : Hid (cnt fr tt en L (o + (S.map Prod.fst).length) = cnt fr tt en L (offK C (n + (i + 1)))) := by
       have h1 := cutOf_le (belowK fr) q
       have h2 := offK_succ HQ.out
       have h3 : o + (S.map Prod.fst).length = offK C (n + (i + 1)) := by
        rw [HSM.out, List.length_drop, HO.out, ← Nat.add_assoc, h2]; omega
       rw [h3]
       exact rfl
      clear ho hK0
      have HMIX : Tryz.prog.follows .mixedOrders = true := by kernel_rfl
      refine wpIn_overQ rfl enters_from1 HSEQ.out (fun _ => rfl) (AllI W lab J (fun j => cnt fr tt en L (o + j)) D K0 w4.heap.size u Ds) (AllX J Jx (inV fr tt en L).length D u Ds) (fun _ _ _ _ h => h.fr) ?hI ?hIx ?h0 ?rnd ?hok ?done ?stop
      case hI => exact fun D1 K1 j A D2 K2 A' h hc hD hK => h.chg HJ.out HS.out hc hD hK
      case hIx => exact fun D1 c A A' h hc => h.chg HJ.out HJX.out HS.out hc
      case h0 => exact fun A D1 K1 hx hD hK => HIN.out A hx D1 K1 hD hK
      case hok =>
       rintro D1 K1 D2 K2 j x A1 ⟨h1, h2, h3, h4⟩ ⟨od, hd⟩ ⟨ol, hl⟩ hD' _ _ _
       have hfr : ∀ {l : List Nat} {v : Value}, Own u.heap.size l v A1 → Free D1 v → Free D2 v := fun ho hf b hb hd' => by
        obtain ⟨_, _, cc, hcc⟩ := rowN_lt ho b hb
        rcases hD' b hd' with h | h | h
        · exact hf b hb h
        · rw [h, hd] at hcc; cases hcc
        · rw [h, hl] at hcc; cases hcc
       exact ⟨h1, h2, hfr h2.k h3, hfr h2.v h4⟩
      case rnd =>
       rintro l2 D1 K1 j ⟨e, ge⟩ A1 rfl hDl hKl hDm hKm hDb hKb hi ⟨hej, hm, hf1', hf2'⟩
       have hej2 : (S.map Prod.fst)[j]? = some e := hej
       obtain ⟨hLe, hbe⟩ := HQL.out j e hej2
       have HLE := zHd hLe
       have HBE := zHd hbe
       have HI1 := zHd hi
       have HM1 := zHd hm
       have HFR1 := zHd (And.intro hf1' hf2')
       have HDK := zHd (And.intro hDb hKb)
       have HLK := zHd (And.intro hDl hKl)
       clear hDl hKl hDm hKm hDb hKb hi hej hej2 hLe hbe hm hf1' hf2'
       dsimp only at HFR1
       dsimp only [rowV, Ent.at_]
       gi_wp2
       obtain ⟨A2, hA2⟩ : ∃ A2, A2 = A1.alloc (.cells #[.slice ge.kA e.key.length ge.kc, .int .i64 e.seq, .int .i64 e.kind, .slice ge.vA e.val.length ge.vc] 50) := ⟨_, rfl⟩
       rw [← hA2]
       have HX2 : Hid (Ext A1 A2) := by rw [hA2]; exact ext_alloc _ _
       have HBE2 : Hid (A2.heap[A1.heap.size]? = some (.cells #[.slice ge.kA e.key.length ge.kc, .int .i64 e.seq, .int .i64 e.kind, .slice ge.vA e.val.length ge.vc] 50 (0, 0))) := by rw [hA2]; exact heap_at _ _ rfl
       clear hA2
       refine ⟨StepK.of_chg (S := fun _ => False) (Chg.of_ext HX2.out) (fun _ _ _ h => h), fun A3 hc => ?_⟩
       have HCH : Hid (Chg D1 A1 A3) := ((Chg.of_ext (S := D1) HX2.out).trans (hc.mono fun i _ e => by rw [e]; exact HLK.out.1))
       have HI3 := zHd (HI1.out.chg HJ.out HS.out HCH.out (fun i h => .inl h) (fun i h => .inl h))
       have HM3 : Hid (Mine u.heap.size (e, ge) A3) := ⟨row_kept HM1.out.k fun b hb => HCH.out.block b (row_lt HM1.out.k b hb).2 (HFR1.out.1 b hb), row_kept HM1.out.v fun b hb => HCH.out.block b (row_lt HM1.out.v b hb).2 (HFR1.out.2 b hb), HM1.out.good⟩
       have HB3 : Hid (A3.heap[A1.heap.size]? = some (.cells #[.slice ge.kA e.key.length ge.kc, .int .i64 e.seq, .int .i64 e.kind, .slice ge.vA e.val.length ge.vc] 50 (0, 0))) :=
        (hc.block _ (zAg.1 HBE2.out).1 (fun e => by have := HDK.out.2 _ HLK.out.2; omega)).trans HBE2.out
       have HK3 : Hid (TVK A3 g C L fr tt en fA fc tA tc bv_ fv_ PA pc P) := (HC.out _ _ _ _ HI3.out.j).1
       have HENU : Hid (∀ u, Ext A3 u → Calls Tryz.prog 45 #[.agg #[.slice fA fr.length fc, .slice tA tt.length tc, .bool en], .slice ge.kA e.key.length ge.kc] u fun x w' => x = .returned (.bool (endsV tt en e.key)) ∧ Ext u w') := fun u hu =>
        tends_any (HK3.out.ext hu).bt (zNr _) HV.out.bt (HM3.out.em.k.below hu (zNr _)) hu.size HM3.out.good.bk
       have hdk : ∀ i, (D i ∨ D1 i) → W.heap.size ≤ i ∧ i < A3.heap.size := fun i hi => by
        have hz := HCH.out.size
        rcases hi with hi | hi
        · have := HS.out.dz i hi; have := HI3.out.z; omega
        · have := HDK.out.1 i hi; have := HS.out.lt; omega
       have hkk : ∀ i, (K0 i ∨ K1 i) → W.heap.size ≤ i ∧ i < A3.heap.size := fun i hi => by
        have hz := HCH.out.size
        rcases hi with hi | hi
        · have := HS.out.kz i hi; have := HI3.out.z; omega
        · have := HDK.out.2 i hi; have := HS.out.lt; omega
       have HDD := zHd (And.intro hdk hkk)
       have b0 := Boxed.cell (HC.out _ _ _ _ HI3.out.j).2
       have t3 := cell_of HK3.out.cs (k := 3) rfl
       have t4 := cell_of HK3.out.cs (k := 4) rfl
       have t5 := cell_of HK3.out.cs (k := 5) rfl
       have q0 := HI3.out.box.cell
       have e0 := cell_of HB3.out (k := 0) rfl
       have e1 := cell_of HB3.out (k := 1) rfl
       have e2 := cell_of HB3.out (k := 2) rfl
       have e3 := cell_of HB3.out (k := 3) rfl
       obtain ⟨z, hz⟩ : ∃ z, z = endsV tt en e.key := ⟨_, rfl⟩
       rw [← hz] at HENU
       have HZ := zHd hz
       clear hz hdk hkk hc
       cases z with
       | true =>
        have HNN : Hid (cnt fr tt en L (o + j) = (inV fr tt en L).length) := cnt_ends (by rw [← HV.out.flat]; exact HRM.out.1) HLE.out HZ.out.symm
        gi_wp2_with fail
        refine flow_in HMIX (by kernel_rfl) (fun _ _ h => h) [Is (.pointer (some ⟨g, 0, none⟩)), Is (.pointer (some ⟨g, 0, none⟩)), Is (.pointer (some ⟨g, 3, none⟩)), Is (.agg #[.slice fA fr.length fc, .slice tA tt.length tc, .bool en]), Is (.pointer (some ⟨A1.heap.size, 0, none⟩)), Is (.slice ge.kA e.key.length ge.kc), Is (.bool true), Is (.bool true), Is undef, Is undef, Is undef, Is undef, Is (.bool true)] (by kernel_rfl) (by kernel_rfl) ?mono57 (fun f1 => ?obl57) ?fin57
        case mono57 =>
         simp only [List.forall_mem_cons, List.not_mem_nil, false_imp_iff, implies_true, and_true]
         and_intros <;> exact .is _
        case fin57 =>
         intro g1 u9 hu hg
         simp only [puts, Act.put, zq]
         have h12 : g1 12 = _ := hg 12 (by decide)
         rw [h12]
         have hc4 : Chg (fun _ => False) A3 u9 := (Chg.drew A3).trans (Chg.of_ext hu)
         have hi4 := HI3.out.chg HJ.out HS.out (hc4.mono fun _ _ h => h.elim) (fun i h => .inl h) (fun i h => .inl h)
         have hans : StepK K1 A3 u9 ∧ AllX J Jx (inV fr tt en L).length D u Ds D1 .ret u9 := ⟨StepK.of_chg hc4 (fun _ _ _ h => h), rfl, .inl ⟨_, by have h1 := hi4.j; rw [HNN.out] at h1; exact h1⟩, hi4.dz, hi4.ms⟩
         have HANS := zHd hans
         clear hans hc4 hi4 h12 hg hu
         gi_wp2_with fail
         exact HANS.out
        case obl57 =>
         refine ⟨fun u hu hd => ?_, fun u hu hd => ?_, fun u hu hd => ?_, fun u hu hd => ?_, fun u hu hd => ?_, fun u hu hd => ?_, fun u hu hd => ?_, fun u hu hd => ?_, fun u hu hd => ?_, fun u hu hd => ?_, fun u hu hd => ?_, fun u hu hd => ?_, fun u hu hd => ?_, trivial⟩
         all_goals try simp only [Act.put, zq]
         · have hu2 := zEt (Ext.drew A3) hu
           have q0 := ext_cell hu2 b0
           go_simp
           exact zEr
         · have e0 : f1 0 = _ := hd 0 (by kernel_rfl)
           go_simp
           exact zEr
         · have e1 : f1 1 = _ := hd 1 (by kernel_rfl)
           go_simp
           exact zEr
         · have e2 : f1 2 = _ := hd 2 (by kernel_rfl)
           have hu2 := zEt (Ext.drew A3) hu
           have q0 := ext_cell hu2 t3
           have q1 := ext_cell hu2 t4
           have q2 := ext_cell hu2 t5
           go_simp
           exact zEr
         · go_simp
           exact zEr
         · have e4 : f1 4 = _ := hd 4 (by kernel_rfl)
           have hu2 := zEt (Ext.drew A3) hu
           have q0 := ext_cell hu2 e0
           go_simp
           exact zEr
         · have e3 : f1 3 = _ := hd 3 (by kernel_rfl)
           have e5 : f1 5 = _ := hd 5 (by kernel_rfl)
           have hu2 := zEt (Ext.drew A3) hu
           go_simp
           refine (HENU.out u hu2).mono ?_
           rintro x w9 ⟨rfl, hx9⟩
           exact ⟨_, rfl, hx9, rfl⟩
         · have e6 : f1 6 = _ := hd 6 (by kernel_rfl)
           go_simp
           exact zEr
         · have e7 : f1 7 = _ := hd 7 (by kernel_rfl)
           go_simp
           rfl
         · have e7 : f1 7 = _ := hd 7 (by kernel_rfl)
           go_simp
           rfl
         · have e7 : f1 7 = _ := hd 7 (by kernel_rfl)
           go_simp
           rfl
         · have e7 : f1 7 = _ := hd 7 (by kernel_rfl)
           go_simp
           rfl
         · have e7 : f1 7 = _ := hd 7 (by kernel_rfl)
           have e7 : f1 7 = _ := hd 7 (by kernel_rfl)
           go_simp
           exact zEr
       | false =>
        have HVI := zHd (cnt_seen HLE.out (has_is HBE.out HZ.out.symm))
        gi_wp2_with fail
        gi_region_with_o (first
         | (gi_at_call 45
            go_loud (
             refine CallsIn.mono (CallsIn.inRound (u.heap.size + 1) (callsIn_wide.2 (HENU.out _ (Ext.drew A3)))) ?_
             rintro x A4 ⟨rfl, hx4⟩
             have HX4' := zHd hx4
             have hc4 : Chg (fun _ => False) A3 A4 := (Chg.drew A3).trans (Chg.of_ext hx4)
             have HC4 := zHd hc4
             have HI4 := zHd (HI3.out.chg HJ.out HS.out (hc4.mono fun _ _ h => h.elim) (fun i h => .inl h) (fun i h => .inl h))
             have hrd := HY.out (fun i => D i ∨ D1 i) (fun i => K0 i ∨ K1 i) (cnt fr tt en L (o + j)) (e, ge) A4 (fun i h => ⟨(HDD.out.1 i h).1, Nat.lt_of_lt_of_le (HDD.out.1 i h).2 hc4.size⟩) (fun i h => ⟨(HDD.out.2 i h).1, Nat.lt_of_lt_of_le (HDD.out.2 i h).2 hc4.size⟩) HI4.out.j ⟨HVI.out.2, ⟨ownsRow_base (row_chg HM3.out.k hc4 (fun _ _ h => h)) (zNt HXW.out.size (Nat.le_of_lt HS.out.lt)), ownsRow_base (row_chg HM3.out.v hc4 (fun _ _ h => h)) (zNt HXW.out.size (Nat.le_of_lt HS.out.lt)), HM3.out.good⟩, fun b hb hd => by rcases hd with hd | hd; have := (row_lt HM3.out.k b hb).1; have := (HS.out.dz b hd).2; omega; exact HFR1.out.1 b hb hd, fun b hb hd => by rcases hd with hd | hd; have := (row_lt HM3.out.v b hb).1; have := (HS.out.dz b hd).2; omega; exact HFR1.out.2 b hb hd⟩
             obtain ⟨fn, tmps, assign, body, hy, hR⟩ := hrd
             dsimp only [rowV, Ent.at_] at hy
             have HR := zHd (roundIn_any (m' := 3) hR)
             have q3 := HI4.out.box.cell
             have e0' := cell_of (ext_heap (zEt (Ext.drew A3) hx4) HB3.out) (k := 0) rfl
             have e1' := cell_of (ext_heap (zEt (Ext.drew A3) hx4) HB3.out) (k := 1) rfl
             have e2' := cell_of (ext_heap (zEt (Ext.drew A3) hx4) HB3.out) (k := 2) rfl
             have e3' := cell_of (ext_heap (zEt (Ext.drew A3) hx4) HB3.out) (k := 3) rfl
             clear hR hx4 hc4))
         | (refine RoundIn.mono (F := Fence.wide.inRound (u.heap.size + 1)) (n := 3) HR.out ?_
            go_loud (
             rintro x A5 ⟨hst, hh⟩
             obtain ⟨y, rfl, hj⟩ : ∃ y : Bool, x = .returned (.bool y) ∧ Hid (match y with | true => J (fun i => D i ∨ D1 i) (fun i => K0 i ∨ K1 i) (cnt fr tt en L (o + j) + 1) A5 | false => Jx (fun i => D i ∨ D1 i) A5) := by rcases hh with ⟨rfl, hj⟩ | ⟨rfl, hj⟩ <;> exact ⟨_, rfl, hj⟩
             have HST := zHd hst
             clear hst hh)))
        all_goals cases y
        all_goals gi_wp2_with fail
        all_goals
         have hst := HST.out
         have hz4 := HC4.out.size
         have hi4 := HI4.out
         have hs3 : StepK K1 A3 A5 := (StepK.of_chg HC4.out (fun _ _ _ h => h)).trans (hst.mono fun i h => .inr h)
         have hms : ∀ i ∈ Ds, A5.heap[i]? = some (.deferred (some [])) := fun i hi => (hst.stay i (.inl (HS.out.ms i hi).2) (zAg.1 (hi4.ms i hi)).1).trans (hi4.ms i hi)
         first
         | exact ⟨hs3, rfl, .inr hj.out, hi4.dz, hms⟩
         | exact ⟨hs3, by have h1 := hj.out; rw [← HVI.out.1] at h1; exact h1, (hst.stay _ (.inl HS.out.kb) hi4.box.lt).trans hi4.box, zNt hi4.z hst.size, hi4.dz, hi4.kz, hms, fun i h1 h2 => (hst.stay i (.inl (HS.out.kn i h1 h2)) (Nat.lt_of_lt_of_le h2 hi4.z)).trans (hi4.fr i h1 h2)⟩
      case done =>
       rintro M' j W' D1 K1 hM hDa hKa hi hdn hD
       have hnx := hi.ends HJ.out HS.out hM hDa hKa hD
       have hdn2 : j = (S.map Prod.fst).length := hdn
       rw [hdn2] at hnx
       rw [HEN.out] at hnx
       have HNX := zHd hnx
       have HW1 := zHd (wrap_succ (n := i) (by have := HLEN.out; have := HLT.out; omega))
       clear hM hDa hKa hi hdn hD hnx hdn2
       gi_wp2_with fail
       go_wp2_with fail
       rw [HW1.out]
       refine ⟨⟨i + 1, _, _, _, M' :: Ds, _, _, _, _, _, _, _, _, _, _, _, _, _, _, rfl, HLT.out, rfl, HNX.out⟩, ?_⟩
       have := HLT.out
       simp [intOf]
       omega
      case stop =>
       rintro D1 M' cd W' hM hDm hx hD
       have hcd := hx.cd
       subst hcd
       have HM' := zHd hM
       have HXX := zHd hx
       have HDM := zHd (And.intro hDm hD)
       clear hM hDm hx hD
       gi_wp2_with fail
       have hlt : ∀ i ∈ Ds, M' ≠ i := fun i hi e => by have := (HS.out.dz i (HS.out.ms i hi).1).2; have := HM'.out; omega
       refine leaves_marks (u := .returning) (by simp) (M' :: Ds) W' (List.pairwise_cons.2 ⟨hlt, HS.out.pw⟩) (fun i hi => ?_) (fun W2 hc => ?_)
       · rcases List.mem_cons.1 hi with rfl | hi
         · exact HDM.out.2
         · exact HXX.out.ms i hi
       · refine ⟨_, results_none rfl _ _ _, ⟨⟨_, rfl⟩, ?_⟩⟩
         have hc2 : Chg (fun i => D i ∨ D1 i) W' W2 := hc.mono fun i _ hi => by
          rcases List.mem_cons.1 hi with rfl | hi
          · exact .inr HDM.out.1
          · exact .inl (HS.out.ms i hi).1
         rcases HXX.out.or with ⟨K3, h1⟩ | h1
         · exact .inl ⟨_, K3, _, HJ.out _ _ _ _ _ _ _ h1 hc2 (fun i h => .inl h) (fun i h => .inl h), rfl⟩
         · exact .inr ⟨_, HJX.out _ _ _ h1 hc2⟩
     case obl5 =>
      refine ⟨fun u hu hd => ?_, fun u hu hd => ?_, fun u hu hd => ?_, fun u hu hd => ?_, fun u hu hd => ?_, fun u hu hd => ?_, fun u hu hd => ?_, fun u hu hd => ?_, fun u hu hd => ?_, trivial⟩
      all_goals try simp only [Act.put, zq]
      · have hu2 := zEt (Ext.drew w4) hu
        have q0 := ext_cell hu2 b0
        go_simp
        exact zEr
      · have hu2 := zEt (Ext.drew w4) hu
        have q0 := ext_cell hu2 e0
        have q1 := ext_cell hu2 e1
        have q2 := ext_cell hu2 e2
        have q3 := ext_cell hu2 e3
        have q4 := ext_cell hu2 e4
        have q5 := ext_cell hu2 e5
        go_simp
        exact zEr
      · have e0 : f1 0 = _ := hd 0 (by kernel_rfl)
        have e1 : f1 1 = _ := hd 1 (by kernel_rfl)
        have hu2 := zEt (Ext.drew w4) hu
        go_simp
        refine (HBL.out _ hu2).mono ?_
        rintro y w9 ⟨QA, qc, rfl, hqb, hx9⟩
        exact ⟨_, rfl, hx9, QA, qc, rfl, hqb⟩
      · have hu2 := zEt (Ext.drew w4) hu
        have q0 := ext_cell hu2 b0
        go_simp
        exact zEr
      · have e3 : f1 3 = _ := hd 3 (by kernel_rfl)
        go_simp
        exact zEr
      · have e4 : f1 4 = _ := hd 4 (by kernel_rfl)
        go_simp
        exact zEr
      · have e5 : f1 5 = _ := hd 5 (by kernel_rfl)
        go_simp
        exact zEr
      · have e6 : f1 6 = _ := hd 6 (by kernel_rfl)
        have hu2 := zEt (Ext.drew w4) hu
        have q0 := ext_cell hu2 c3
        go_simp
        exact zEr
      · have e7 : f1 7 = _ := hd 7 (by kernel_rfl)
        obtain ⟨QA, qc, h2, hqb⟩ := (show BlkV q (f1 2) u from hd 2 (by kernel_rfl))
        have hu2 := zEt (Ext.drew w4) hu
        have HF := zHd (HFR.out u hu2 QA qc hqb)
        rw [h2]
        clear h2 hqb
        go_simp
        refine HF.out.mono ?_
        rintro y w9 ⟨v, rfl, hx9, hfv⟩
        exact ⟨_, rfl, hx9, hfv⟩
   · have d : decide ((i : Int) < (M : Int)) = false := decide_eq_false (by omega)
     have dn : decide (i < M) = false := decide_eq_false hlt
     have HI : Hid (i = M) := by unfold Hid; omega
     have HKC := zHd hk
     clear hlt hi hk
     gi_wp2_with fail
     refine leaves_marks (u := .returning) (by simp) Ds wq HA.out.pw (fun i hi => (HA.out.ms i hi).2.2) (fun W2 hc => ?_)
     refine ⟨_, results_none rfl _ _ _, ⟨⟨_, rfl⟩, .inl ⟨_, _, _, HJ.out _ _ _ _ _ _ _ HA.out.j (hc.mono fun i _ hi => (HA.out.ms i hi).1) (fun i h => .inl h) (fun i h => .inl h), ?_⟩⟩⟩
     have h1 := HKC.out
     rw [HI.out, show n + M = C.length by have := HLEN.out; omega, offK_all, HV.out.flat, cnt_all] at h1
     exact h1
 case obl =>
  refine ⟨fun u hu hd => ?_, fun u hu hd => ?_, fun u hu hd => ?_, fun u hu hd => ?_, fun u hu hd => ?_, fun u hu hd => ?_, fun u hu hd => ?_, fun u hu hd => ?_, fun u hu hd => ?_, fun u hu hd => ?_, fun u hu hd => ?_, fun u hu hd => ?_, fun u hu hd => ?_, fun u hu hd => ?_, trivial⟩
  all_goals try simp only [Act.put, zq]
  · have hu2 := zEt (Ext.drew W1) hu
    have q0 := ext_cell hu2 b0
    go_simp
    exact zEr
  · have e0 : f1 0 = _ := hd 0 (by kernel_rfl)
    go_simp
    exact zEr
  · have e1 : f1 1 = _ := hd 1 (by kernel_rfl)
    go_simp
    exact zEr
  · have e2 : f1 2 = _ := hd 2 (by kernel_rfl)
    have hu2 := zEt (Ext.drew W1) hu
    have q0 := ext_cell hu2 c1
    go_simp
    exact zEr
  · have hu2 := zEt (Ext.drew W1) hu
    have q0 := ext_cell hu2 b0
    go_simp
    exact zEr
  · have hu2 := zEt (Ext.drew W1) hu
    have q0 := ext_cell hu2 b0
    go_simp
    exact zEr
  · have e5 : f1 5 = _ := hd 5 (by kernel_rfl)
    go_simp
    exact zEr
  · have e6 : f1 6 = _ := hd 6 (by kernel_rfl)
    go_simp
    exact zEr
  · have e7 : f1 7 = _ := hd 7 (by kernel_rfl)
    go_simp
    exact zEr
  · have e8 : f1 8 = _ := hd 8 (by kernel_rfl)
    have hu2 := zEt (Ext.drew W1) hu
    have q0 := ext_cell hu2 c3
    go_simp
    exact zEr
  · have e4 : f1 4 = _ := hd 4 (by kernel_rfl)
    have e9 : f1 9 = _ := hd 9 (by kernel_rfl)
    have hu2 := zEt (Ext.drew W1) hu
    go_simp
    refine (HFI.out _ hu2).mono ?_
    rintro y w9 ⟨rfl, hx9⟩
    exact ⟨_, rfl, hx9, rfl⟩
  · have e3 : f1 3 = _ := hd 3 (by kernel_rfl)
    have e10 : f1 10 = _ := hd 10 (by kernel_rfl)
    have hsl := HSL.out
    go_simp
    exact zEr
  · have e11 : f1 11 = _ := hd 11 (by kernel_rfl)
    go_simp
    exact zEr
  · go_simp
    exact zEr
theorem tall_iter {w u0 : World} {g bx : Nat} {C : List (List Ent)} {L : List Ent} {fr tt : List Nat} {en : Bool} (h : TV w g C L fr tt en) (hu0 : Ext w u0) (hbx : Boxed u0 bx 24 (.pointer (some ⟨g, 0, none⟩))) :
    GoIter 40 #[.pointer (some ⟨bx, 0, none⟩)] u0.heap.size (inV fr tt en L) (fun A => Ext w A ∧ Boxed A bx 24 (.pointer (some ⟨g, 0, none⟩))) u0 := by
 obtain ⟨fA, fc, tA, tc, bv_, fv_, PA, pc, P, hk⟩ := h.parts
 exact tall_iterq (fun A hA => ⟨hk.ext hA.1, hA.2⟩) (fun W hW => ⟨zEt hu0 hW, ext_heap hW hbx⟩)
end Go.Proofs.YtkdidghfcfcpfaaGreat
namespace Go.Proofs.YtkdidghfcfcpfaaGreat
open Go.ChangeShapes Go.WideShapes Go.ChangeAt Go.RowKit Go.Shelf
attribute [local go_sem] Oper.semAt_some
def GoT (w : World) (v : Value) (V : List Ent) : Prop := (∃ p, v = .pointer p) ∧ ∀ u bx, Ext w u → Boxed u bx 24 v → GoIter 40 #[.pointer (some ⟨bx, 0, none⟩)] u.heap.size V (fun A => Ext w A ∧ Boxed A bx 24 v) u
theorem TV.goes {w : World} {g : Nat} {C : List (List Ent)} {L : List Ent} {fr tt : List Nat} {en : Bool} (h : TV w g C L fr tt en) : GoT w (.pointer (some ⟨g, 0, none⟩)) (inV fr tt en L) := ⟨⟨_, rfl⟩, fun _ _ hu hb => tall_iter h hu hb⟩
structure LenI (w u : World) (bx : Nat) (v : Value) (D K : Nat → Prop) (k : Nat) (A : World) : Prop where
 below : Ext w A
 num : Boxed A w.heap.size 3 (.int .i64 (k : Int))
 box : Boxed A bx 24 v
 z : u.heap.size ≤ A.heap.size
 dz : ∀ i, D i → u.heap.size ≤ i
 kz : ∀ i, K i → u.heap.size ≤ i
theorem LenI.chg {w u : World} {bx : Nat} {v : Value} (h1 : w.heap.size < bx) (h2 : bx < u.heap.size) {D K D' K' : Nat → Prop} {k : Nat} {A A' : World} (h : LenI w u bx v D K k A) (hc : Chg D A A') (hD : ∀ i, D' i → D i ∨ A.heap.size ≤ i) (hK : ∀ i, K' i → K i ∨ A.heap.size ≤ i) : LenI w u bx v D' K' k A' :=
 ⟨Below.trans h.below (hc.below (fun i hi => by have := h.dz i hi; omega) h.below.size), boxed_chg h.num hc (fun hd => by have := h.dz _ hd; omega), boxed_chg h.box hc (fun hd => by have := h.dz _ hd; omega), zNt h.z hc.size, fun i hi => by rcases hD i hi with h2 | h2; exact h.dz i h2; exact zNt h.z h2, fun i hi => by rcases hK i hi with h2 | h2; exact h.kz i h2; exact zNt h.z h2⟩
set_option maxRecDepth 100000 in
set_option maxHeartbeats 8000000 in
theorem tlen_any {w : World} {v : Value} {V : List Ent} (h : GoT w v V) (hl : V.length ≤ 1000000) : Calls Tryz.prog 12 #[v] w fun x w' => x = .returned (.int .i64 (V.length : Int)) ∧ Ext w w' := by
 obtain ⟨⟨p, rfl⟩, hit⟩ := h
 obtain ⟨w1, hw1⟩ : ∃ w1, w1 = w.alloc (.cells #[.int .i64 0] 3) := ⟨_, rfl⟩
 have HX1 : Hid (Ext w w1) := by rw [hw1]; exact ext_alloc _ _
 have HB1 : Hid (Boxed w1 w.heap.size 3 (.int .i64 0)) := by rw [hw1]; exact heap_at _ _ rfl
 have HIT := zHd hit
 have HL := zHd hl
 clear hit hl
 refine (callsIn_wide (n := 6)).1 ?_
 refine callsIn_of_wp_marks Tryz.func12 rfl trivial ?_
 simp only [Tryz.ntmps12, List.size_toArray, List.length_cons, List.length_nil, Nat.reduceAdd, Nat.reduceSub, Array.replicate_succ, Array.replicate_zero, List.push_toArray, List.append_toArray, List.nil_append, List.cons_append]
 refine wpIn_wide.2 ?_
 go_upto_region 2 with (fail)
 rw [← hw1]
 clear hw1
 go_wp2_with (refine (tall_any ⟨_, rfl⟩).mono ?_; rintro x w3 ⟨rfl, hw3⟩; have HX3 : Hid (Ext w1 w3) := (by rw [hw3]; exact ext_alloc _ _); have HB3 : Hid (Boxed w3 w1.heap.size 24 (.pointer p)) := (by rw [hw3]; exact heap_at _ _ rfl); clear hw3)
 rename_i ak
 refine (wpIn_wide (n := 6)).1 ?_
 have HLT : Hid (w.heap.size < w1.heap.size ∧ w1.heap.size < w3.heap.size) := ⟨HB1.out.lt, HB3.out.lt⟩
 refine wpIn_overQ rfl enters_tall1 (HIT.out w3 _ (zEt HX1.out HX3.out) HB3.out) (fun _ => rfl) (LenI w w3 w1.heap.size (.pointer p)) (fun _ _ _ => False) (fun _ _ _ _ h => ⟨h.below, h.box⟩) ?hI ?hIx ?h0 ?rnd ?hok ?done ?stop
 case hI => exact fun D K k A D' K' A' h hc hD hK => h.chg HLT.out.1 HLT.out.2 hc hD hK
 case hIx => exact fun _ _ _ _ h _ => h
 case h0 => exact fun A D K hx hD hK => ⟨zEt (zEt HX1.out HX3.out) hx, ext_heap (zEt HX3.out hx) HB1.out, ext_heap hx HB3.out, hx.size, hD, hK⟩
 case rnd =>
  rintro l2 D K k ⟨e, g⟩ A rfl hDl hKl _ _ hDb hKb hi ⟨hek, _⟩
  have HBL : Hid (k < V.length) := (zLg.1 hek).1
  have HI := zHd hi
  have HK := zHd (And.intro hDl hKl)
  have HKB := zHd hKb
  clear hDl hKl hDb hKb hi hek
  dsimp only [rowV]
  gi_wp2
  refine ⟨StepK.refl _ _, fun A2 hc => ?_⟩
  have HI2 := zHd (HI.out.chg HLT.out.1 HLT.out.2 (hc.mono (S' := D) fun i _ e => by rw [e]; exact HK.out.1) (fun i h => .inl h) (fun i h => .inl h))
  have b0 := HI2.out.num.cell
  have f0 := HI2.out.num.frozen
  have HW := zHd (wrap_succ (n := k) (by have := HBL.out; have := HL.out; omega))
  clear hc
  gi_wp2
  rw [HW.out]
  have hi := HI2.out
  have hl := HLT.out
  have hS : Chg (fun i => i = w.heap.size) A2 (A2.setCell ⟨w.heap.size, 0, none⟩ (.int .i64 ((k + 1 : Nat) : Int))) := Chg.setCell _ _ _ rfl
  exact ⟨StepK.of_chg hS (fun i _ hk e => by have := hi.kz i hk; omega), Below.trans hi.below (hS.below (fun i e => by omega) hi.below.size), hi.num.set _, boxed_chg hi.box hS (fun e => by omega), zNt hi.z hS.size, hi.dz, hi.kz⟩
 case hok =>
  rintro D1 K1 D2 K2 j x A1 ⟨h1, h2, h3, h4⟩ ⟨od, hd⟩ ⟨ol, hl⟩ hD' _ _ _
  have hfr : ∀ {l : List Nat} {v : Value}, Own w3.heap.size l v A1 → Free D1 v → Free D2 v := fun ho hf b hb hd' => by
   obtain ⟨_, _, cc, hcc⟩ := rowN_lt ho b hb
   rcases hD' b hd' with h | h | h
   · exact hf b hb h
   · rw [h, hd] at hcc; cases hcc
   · rw [h, hl] at hcc; cases hcc
  exact ⟨h1, h2, hfr h2.k h3, hfr h2.v h4⟩
 case done =>
  rintro M' k W' D1 K1 hM _ _ hi hdn hD
  have hdn2 : k = V.length := hdn
  subst hdn2
  have HI := zHd hi
  have HDD := zHd hD
  have HM := zHd hM
  have b0 := hi.num.cell
  clear hM hi hdn hD
  refine ak _ _ ?_
  clear ak
  go_wp2_with fail
  refine ⟨by simp, .inl ⟨_, _, rfl, run_takeDeferred HDD.out, ?_⟩⟩
  refine ⟨_, results_tmp rfl _ _ _, rfl, ?_⟩
  exact Below.trans HI.out.below ((putObj_chg W' M' _).below (fun i e => by have := HLT.out; have := HM.out; omega) HI.out.below.size)
 case stop => exact fun _ _ _ _ _ _ h _ => h.elim
end Go.Proofs.YtkdidghfcfcpfaaGreat
namespace Go.Proofs.YtkdidghfcfcpfaaGreat
open Go.ChangeShapes Go.WideShapes Go.ChangeAt Go.RowKit Go.Shelf
attribute [local go_sem] Oper.semAt_some
theorem results_ent_bool {fn : Func} {p q : Tmp} (h : fn.results = #[.cell p 50, .cell q 4]) (tmps : Array Value) (w : World) (g g2 : Nat) (c : Array Value) (z : Bool) (hp : tmps.getD p undef = .pointer (some ⟨g, 0, none⟩)) (hq : tmps.getD q undef = .pointer (some ⟨g2, 0, none⟩))
    (hc : c.size = 4) (hg : w.heap[g]? = some (.cells c 50 (0, 0))) (hb : w.cell? ⟨g2, 0, none⟩ = some (.bool z)) : (results fn tmps).run Tryz.prog w = .ok (.tuple #[.agg c, .bool z]) w := by
 have hi : (Tryz.prog.info? 50).map (·.size) = some 4 := by kernel_rfl
 have hl := run_loadVar_row (P := Tryz.prog) w g 50 50 c (0, 0) _ hg Tryz.underlying50 rfl (by rw [hc]; exact hi)
 have ha : (asAddr (.pointer (some ⟨g, 0, none⟩))).run Tryz.prog w = .ok ⟨g, 0, none⟩ w := rfl
 have ha2 : (asAddr (.pointer (some ⟨g2, 0, none⟩))).run Tryz.prog w = .ok ⟨g2, 0, none⟩ w := rfl
 have hlb : (loadVar 4 ⟨g2, 0, none⟩).run Tryz.prog w = .ok (.bool z) w := by simp [go_sem, hb]
 have hr : (results fn tmps).run Tryz.prog w = ((asAddr (tmps.getD p undef)).run Tryz.prog w).andThen fun a w₁ => ((loadVar 50 a).run Tryz.prog w₁).andThen fun v w₂ => ((asAddr (tmps.getD q undef)).run Tryz.prog w₂).andThen fun b w₃ => ((loadVar 4 b).run Tryz.prog w₃).andThen fun u w₄ => .ok (.tuple #[v, u]) w₄ := by
  simp only [results, h]
  simp [Sem.run_bind, Result.andThen]
 rw [hr, hp, ha, Result.andThen_ok, hl, Result.andThen_ok, hq, ha2, Result.andThen_ok, hlb, Result.andThen_ok]
def EndAns (w : World) (o : Option Ent) (x : Ending) (w' : World) : Prop :=
 Ext w w' ∧ match o with
  | some e => ∃ g : Hd, x = .returned (.tuple #[e.at_ g, .bool true]) ∧ Em w' 0 w'.heap.size e g
  | none => x = .returned (.tuple #[noE, .bool false])
structure FstI (w u : World) (bx : Nat) (v : Value) (D K : Nat → Prop) (k : Nat) (A : World) : Prop where
 k : k = 0
 below : Ext w A
 res : A.heap[w.heap.size]? = some (.cells #[.slice none 0 0, .int .i64 0, .int .i64 0, .slice none 0 0] 50 (0, 0))
 is : Boxed A (w.heap.size + 1) 4 (.bool false)
 box : Boxed A bx 24 v
 z : u.heap.size ≤ A.heap.size
 dz : ∀ i, D i → u.heap.size ≤ i
 kz : ∀ i, K i → u.heap.size ≤ i
theorem FstI.chg {w u : World} {bx : Nat} {v : Value} (h1 : w.heap.size + 1 < bx) (h2 : bx < u.heap.size) {D K D' K' : Nat → Prop} {k : Nat} {A A' : World} (h : FstI w u bx v D K k A) (hc : Chg D A A') (hD : ∀ i, D' i → D i ∨ A.heap.size ≤ i) (hK : ∀ i, K' i → K i ∨ A.heap.size ≤ i) : FstI w u bx v D' K' k A' :=
 ⟨h.k, Below.trans h.below (hc.below (fun i hi => by have := h.dz i hi; omega) h.below.size), (hc.block _ (zAg.1 h.res).1 (fun hd => by have := h.dz _ hd; omega)).trans h.res, boxed_chg h.is hc (fun hd => by have := h.dz _ hd; omega), boxed_chg h.box hc (fun hd => by have := h.dz _ hd; omega), zNt h.z hc.size, fun i hi => by rcases hD i hi with h2 | h2; exact h.dz i h2; exact zNt h.z h2, fun i hi => by rcases hK i hi with h2 | h2; exact h.kz i h2; exact zNt h.z h2⟩
structure FstX (w u : World) (B : Nat) (V : List Ent) (D : Nat → Prop) (cd : Code) (A : World) : Prop where
 cd : cd = .ret
 below : Ext w A
 ex : ∃ (e : Ent) (g : Hd), V.head? = some e ∧ A.heap[w.heap.size]? = some (.cells #[.slice g.kA e.key.length g.kc, .int .i64 e.seq, .int .i64 e.kind, .slice g.vA e.val.length g.vc] 50 (0, 0)) ∧ Mine B (e, g) A ∧ Free D (.slice g.kA e.key.length g.kc) ∧ Free D (.slice g.vA e.val.length g.vc)
 is : Boxed A (w.heap.size + 1) 4 (.bool true)
 dz : ∀ i, D i → u.heap.size ≤ i
theorem FstX.chg {w u : World} {B : Nat} {V : List Ent} (h1 : w.heap.size + 1 < u.heap.size) {D : Nat → Prop} {cd : Code} {A A' : World} (h : FstX w u B V D cd A) (hc : Chg D A A') : FstX w u B V D cd A' := by
 obtain ⟨e, g, h2, h3, h4, h5, h6⟩ := h.ex
 exact ⟨h.cd, Below.trans h.below (hc.below (fun i hi => by have := h.dz i hi; omega) h.below.size), ⟨e, g, h2, (hc.block _ (zAg.1 h3).1 (fun hd => by have := h.dz _ hd; omega)).trans h3, ⟨row_kept h4.k fun b hb => hc.block b (row_lt h4.k b hb).2 (h5 b hb), row_kept h4.v fun b hb => hc.block b (row_lt h4.v b hb).2 (h6 b hb), h4.good⟩, h5, h6⟩, boxed_chg h.is hc (fun hd => by have := h.dz _ hd; omega), h.dz⟩
set_option maxRecDepth 100000 in
set_option maxHeartbeats 8000000 in
theorem tfst_any {w : World} {v : Value} {V : List Ent} (h : GoT w v V) : Calls Tryz.prog 27 #[v] w (EndAns w V.head?) := by
 obtain ⟨⟨p, rfl⟩, hit⟩ := h
 obtain ⟨w1, hw1⟩ : ∃ w1, w1 = (w.alloc (.cells #[.slice none 0 0, .int .i64 0, .int .i64 0, .slice none 0 0] 50)).alloc (.cells #[.bool false] 4) := ⟨_, rfl⟩
 have HX1 : Hid (Ext w w1) := by rw [hw1]; exact zEt (ext_alloc _ _) (ext_alloc _ _)
 have HR1 : Hid (w1.heap[w.heap.size]? = some (.cells #[.slice none 0 0, .int .i64 0, .int .i64 0, .slice none 0 0] 50 (0, 0))) := by rw [hw1]; exact ext_heap (ext_alloc _ _) (heap_at _ _ rfl)
 have HB1 : Hid (Boxed w1 (w.heap.size + 1) 4 (.bool false)) := by rw [hw1]; exact heap_at _ _ (by simp)
 have HIT := zHd hit
 clear hit
 refine (callsIn_wide (n := 6)).1 ?_
 refine callsIn_of_wp_marks Tryz.func27 rfl trivial ?_
 simp only [Tryz.ntmps27, List.size_toArray, List.length_cons, List.length_nil, Nat.reduceAdd, Nat.reduceSub, Array.replicate_succ, Array.replicate_zero, List.push_toArray, List.append_toArray, List.nil_append, List.cons_append]
 refine wpIn_wide.2 ?_
 go_upto_region 1 with (fail)
 rw [← hw1]
 clear hw1
 go_wp2_with (refine (tall_any ⟨_, rfl⟩).mono ?_; rintro x w3 ⟨rfl, hw3⟩; have HX3 : Hid (Ext w1 w3) := (by rw [hw3]; exact ext_alloc _ _); have HB3 : Hid (Boxed w3 w1.heap.size 24 (.pointer p)) := (by rw [hw3]; exact heap_at _ _ rfl); clear hw3)
 rename_i ak
 refine (wpIn_wide (n := 6)).1 ?_
 have HLT : Hid (w.heap.size + 1 < w1.heap.size ∧ w1.heap.size < w3.heap.size) := ⟨HB1.out.lt, HB3.out.lt⟩
 have hw13 : w.heap.size + 1 < w3.heap.size := by have := HLT.out; omega
 have HW13 := zHd hw13
 clear hw13
 refine wpIn_overQ rfl enters_tall1 (HIT.out w3 _ (zEt HX1.out HX3.out) HB3.out) (fun _ => rfl) (FstI w w3 w1.heap.size (.pointer p)) (FstX w w3 w3.heap.size V) (fun _ _ _ _ h => ⟨h.below, h.box⟩) ?hI ?hIx ?h0 ?rnd ?hok ?done ?stop
 case hI => exact fun D K k A D' K' A' h hc hD hK => h.chg HLT.out.1 HLT.out.2 hc hD hK
 case hIx => exact fun D c A A' h hc => h.chg HW13.out hc
 case h0 => exact fun A D K hx hD hK => ⟨rfl, zEt (zEt HX1.out HX3.out) hx, ext_heap (zEt HX3.out hx) HR1.out, ext_heap (zEt HX3.out hx) HB1.out, ext_heap hx HB3.out, hx.size, hD, hK⟩
 case rnd =>
  rintro l2 D K k ⟨e, g⟩ A1 rfl hDl hKl hDm hKm hDb hKb hi ⟨hek, hm, hf1', hf2'⟩
  have HEK : Hid (V.head? = some e) := by
   have h1 : V[k]? = some e := hek
   rw [hi.k] at h1
   rw [List.head?_eq_getElem?]; exact h1
  have HI1 := zHd hi
  have HM1 := zHd hm
  have HFR1 := zHd (And.intro hf1' hf2')
  have HLK := zHd (And.intro hDl hKl)
  have HDK := zHd (And.intro hDb hKb)
  clear hDl hKl hDm hKm hDb hKb hi hm hf1' hf2' hek
  dsimp only at HFR1
  dsimp only [rowV, Ent.at_]
  gi_wp2
  obtain ⟨A2, hA2⟩ : ∃ A2, A2 = A1.alloc (.cells #[.slice g.kA e.key.length g.kc, .int .i64 e.seq, .int .i64 e.kind, .slice g.vA e.val.length g.vc] 50) := ⟨_, rfl⟩
  rw [← hA2]
  have HX2 : Hid (Ext A1 A2) := by rw [hA2]; exact ext_alloc _ _
  have HBE : Hid (A2.heap[A1.heap.size]? = some (.cells #[.slice g.kA e.key.length g.kc, .int .i64 e.seq, .int .i64 e.kind, .slice g.vA e.val.length g.vc] 50 (0, 0))) := by rw [hA2]; exact heap_at _ _ rfl
  clear hA2
  refine ⟨StepK.of_chg (S := fun _ => False) (Chg.of_ext HX2.out) (fun _ _ _ h => h), fun A3 hc => ?_⟩
  have HCH : Hid (Chg D A1 A3) := ((Chg.of_ext (S := D) HX2.out).trans (hc.mono fun i _ e => by rw [e]; exact HLK.out.1))
  have HI3 := zHd (HI1.out.chg HLT.out.1 HLT.out.2 HCH.out (fun i h => .inl h) (fun i h => .inl h))
  have HMI : Hid (Mine w3.heap.size (e, g) A3) := ⟨row_kept HM1.out.k fun b hb => HCH.out.block b (row_lt HM1.out.k b hb).2 (HFR1.out.1 b hb), row_kept HM1.out.v fun b hb => HCH.out.block b (row_lt HM1.out.v b hb).2 (HFR1.out.2 b hb), HM1.out.good⟩
  have HB3' : Hid (A3.heap[A1.heap.size]? = some (.cells #[.slice g.kA e.key.length g.kc, .int .i64 e.seq, .int .i64 e.kind, .slice g.vA e.val.length g.vc] 50 (0, 0))) :=
   (hc.block _ (zAg.1 HBE.out).1 (fun e => by have := HDK.out.2 _ HLK.out.2; omega)).trans HBE.out
  have e0 := cell_of HB3'.out (k := 0) rfl
  have e1 := cell_of HB3'.out (k := 1) rfl
  have e2 := cell_of HB3'.out (k := 2) rfl
  have e3 := cell_of HB3'.out (k := 3) rfl
  have b0 := cell_of HI3.out.res (k := 0) rfl
  have b1 := cell_of HI3.out.res (k := 1) rfl
  have b2 := cell_of HI3.out.res (k := 2) rfl
  have b3 := cell_of HI3.out.res (k := 3) rfl
  have z0 := frozen_four (j := 0) HI3.out.res
  have z1 := frozen_four (j := 1) HI3.out.res
  have z2 := frozen_four (j := 2) HI3.out.res
  have z3 := frozen_four (j := 3) HI3.out.res
  have y0 := HI3.out.is.cell
  have y1 := HI3.out.is.frozen
  clear hc
  gi_wp2
  have hi := HI3.out
  have hl := HLT.out
  have hS4 := chg_four w.heap.size A3 (.slice g.kA e.key.length g.kc) (.int .i64 e.seq) (.int .i64 e.kind) (.slice g.vA e.val.length g.vc)
  have hR4 := set_four (x := .slice g.kA e.key.length g.kc) (y := .int .i64 e.seq) (z := .int .i64 e.kind) (t := .slice g.vA e.val.length g.vc) hi.res
  have hB4 := boxed_chg hi.is hS4 (by show ¬ (w.heap.size + 1 = w.heap.size); omega)
  generalize ((((A3.setCell ⟨w.heap.size, 0, none⟩ (.slice g.kA e.key.length g.kc)).setCell ⟨w.heap.size, 1, none⟩ (.int .i64 e.seq)).setCell ⟨w.heap.size, 2, none⟩ (.int .i64 e.kind)).setCell ⟨w.heap.size, 3, none⟩ (.slice g.vA e.val.length g.vc)) = A4 at hS4 hR4 hB4 ⊢
  have hS5 : Chg (fun i => i = w.heap.size ∨ i = w.heap.size + 1) A3 (A4.setCell ⟨w.heap.size + 1, 0, none⟩ (.bool true)) := (hS4.mono fun i _ e => .inl e).trans (Chg.setCell _ _ _ (.inr rfl))
  refine ⟨StepK.of_chg hS5 (fun i _ hk h3 => by have := hi.kz i hk; omega), rfl, Below.trans hi.below (hS5.below (fun i hb => by omega) hi.below.size), ⟨e, g, HEK.out, (Below.heap_setCell _ _ _ _ (show w.heap.size ≠ w.heap.size + 1 by omega)).trans hR4, HMI.out.chg hS5 (fun i h1 h2 => by omega), HFR1.out.1, HFR1.out.2⟩, hB4.set _, hi.dz⟩
 case hok =>
  rintro D1 K1 D2 K2 j x A1 ⟨h1, h2, h3, h4⟩ ⟨od, hd⟩ ⟨ol, hl⟩ hD' _ _ _
  have hfr : ∀ {l : List Nat} {v : Value}, Own w3.heap.size l v A1 → Free D1 v → Free D2 v := fun ho hf b hb hd' => by
   obtain ⟨_, _, cc, hcc⟩ := rowN_lt ho b hb
   rcases hD' b hd' with h | h | h
   · exact hf b hb h
   · rw [h, hd] at hcc; cases hcc
   · rw [h, hl] at hcc; cases hcc
  exact ⟨h1, h2, hfr h2.k h3, hfr h2.v h4⟩
 case done =>
  rintro M' k W' D1 K1 hM _ _ hi hdn hD
  have hV : V = [] := List.eq_nil_of_length_eq_zero (by have h1 : k = V.length := hdn; have := hi.k; omega)
  subst hV
  have HI := zHd hi
  have HDD := zHd hD
  have HM := zHd hM
  have b0 := cell_of hi.res (k := 0) rfl
  have b1 := cell_of hi.res (k := 1) rfl
  have b2 := cell_of hi.res (k := 2) rfl
  have b3 := cell_of hi.res (k := 3) rfl
  have z0 := frozen_four (j := 0) hi.res
  have z1 := frozen_four (j := 1) hi.res
  have z2 := frozen_four (j := 2) hi.res
  have z3 := frozen_four (j := 3) hi.res
  have y0 := hi.is.cell
  have y1 := hi.is.frozen
  clear hM hi hdn hD
  refine ak _ _ ?_
  clear ak
  go_wp2_with fail
  have hi := HI.out
  have hS4 := chg_four w.heap.size W' (.slice none 0 0) (.int .i64 0) (.int .i64 0) (.slice none 0 0)
  have hR4 := set_four (x := .slice none 0 0) (y := .int .i64 0) (z := .int .i64 0) (t := .slice none 0 0) hi.res
  have hB4 := boxed_chg hi.is hS4 (by show ¬ (w.heap.size + 1 = w.heap.size); omega)
  have hD4 := (hS4.block M' (zAg.1 HDD.out).1 (fun e => by have := HM.out; have := HW13.out; omega)).trans HDD.out
  generalize ((((W'.setCell ⟨w.heap.size, 0, none⟩ (.slice none 0 0)).setCell ⟨w.heap.size, 1, none⟩ (.int .i64 0)).setCell ⟨w.heap.size, 2, none⟩ (.int .i64 0)).setCell ⟨w.heap.size, 3, none⟩ (.slice none 0 0)) = A4 at hS4 hR4 hB4 hD4 ⊢
  have hS5 : Chg (fun i => i = w.heap.size ∨ i = w.heap.size + 1) W' (A4.setCell ⟨w.heap.size + 1, 0, none⟩ (.bool false)) := (hS4.mono fun i _ e => .inl e).trans (Chg.setCell _ _ _ (.inr rfl))
  have hD5 : (A4.setCell ⟨w.heap.size + 1, 0, none⟩ (.bool false)).heap[M']? = some (.deferred (some [])) := (Below.heap_setCell _ _ _ _ (by have := HM.out; have := HW13.out; show M' ≠ w.heap.size + 1; omega)).trans hD4
  have hB5 := hB4.set (.bool false)
  have hR5 : (A4.setCell ⟨w.heap.size + 1, 0, none⟩ (.bool false)).heap[w.heap.size]? = _ := (Below.heap_setCell _ _ _ _ (show w.heap.size ≠ w.heap.size + 1 by omega)).trans hR4
  have hP := putObj_chg (A4.setCell ⟨w.heap.size + 1, 0, none⟩ (.bool false)) M' (.deferred none)
  have hne : M' ≠ w.heap.size ∧ M' ≠ w.heap.size + 1 := by have := HM.out; have := HW13.out; omega
  refine ⟨by simp, .inl ⟨_, _, rfl, run_takeDeferred hD5, ?_⟩⟩
  refine ⟨_, results_ent_bool Tryz.results27 _ _ w.heap.size (w.heap.size + 1) _ false rfl rfl rfl ((hP.block _ (zAg.1 hR5).1 (fun e => hne.1 e.symm)).trans hR5) (boxed_chg hB5 hP (fun e => hne.2 e.symm)).cell, ?_, rfl⟩
  exact Below.trans (Below.trans hi.below (hS5.below (fun i hb => by omega) hi.below.size)) (hP.below (fun i e => by have := HM.out; have := HW13.out; omega) (zNt hi.below.size hS5.size))
 case stop =>
  rintro D0 M' cd W' hM hDm hx hD
  have hcd := hx.cd
  subst hcd
  have HXX := zHd hx
  have HDM := zHd (And.intro hDm hD)
  have HM := zHd hM
  clear hM hDm hx hD
  gi_wp2
  have hX2 := HXX.out.chg HW13.out ((putObj_chg W' M' (.deferred none)).mono (S' := D0) fun i _ e => by rw [e]; exact HDM.out.1)
  obtain ⟨e, g, h2, h3, h4, h5, h6⟩ := hX2.ex
  refine ⟨by simp, .inl ⟨_, _, rfl, run_takeDeferred HDM.out.2, ?_⟩⟩
  refine ⟨_, results_ent_bool Tryz.results27 _ _ w.heap.size (w.heap.size + 1) _ true rfl rfl rfl h3 hX2.is.cell, hX2.below, ?_⟩
  rw [h2]
  exact ⟨g, rfl, h4.em⟩
end Go.Proofs.YtkdidghfcfcpfaaGreat
