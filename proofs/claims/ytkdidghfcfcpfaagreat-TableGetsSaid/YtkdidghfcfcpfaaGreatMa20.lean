import Derived.Test.YtkdidghfcfcpfaaGreatMa19
import Derived.Test.YtkdidghfcfcpfaaGreatMa14
import Derived.Test.YtkdidghfcfcpfaaGreatMa7
import Derived.Test.YtkdidghfcfcpfaaGreatMa4
import Derived.Test.YtkdidghfcfcpfaaGreatMa15
import Derived.Test.YtkdidghfcfcpfaaGreatMa18
import Derived.Laws.ResultCell
import Derived.Test.YtkdidghfcfcpfaaGreatMa17
import Derived.Test.YtkdidghfcfcpfaaGreatMa13
import Derived.Test.YtkdidghfcfcpfaaGreatMa16
import Derived.Test.YtkdidghfcfcpfaaGreatMa0
namespace Go.Proofs.YtkdidghfcfcpfaaGreat
open Go.ChangeShapes Go.WideShapes Go.ChangeAt Go.RowKit Go.Lib Go.Joins
theorem unum (n : Int) (w : World) : Calls Tryz.prog 9 #[.int .i64 n] w fun e w' => e = .returned (.int .i64 n) ∧ w = w' := by
 go_enter Tryz.func9, Tryz.ntmps9
 go_wp2
 go_ret
 exact ⟨rfl, rfl⟩
set_option maxRecDepth 100000 in
set_option maxHeartbeats 2000000 in
theorem uput_any (k : List Nat) (s : Int) (hk : ∀ x ∈ k, x < 256) (hkl : k.length ≤ 1000) (h1 : -9223372036854775808 ≤ s) (h2 : s ≤ 9223372036854775807) (w : World) :
    Calls Tryz.prog 32 #[.string (tx k), .int .i64 s] w (LitAns w ⟨k, s, 1, [118]⟩) := by
 obtain ⟨w1, hw1⟩ : ∃ w1, w1 = w.alloc (.cells #[.slice none 0 0, .int .i64 0, .int .i64 0, .slice none 0 0] 50) := ⟨_, rfl⟩
 have HX : Hid (Ext w w1) := by rw [hw1]; exact ext_alloc _ _
 have HBX : Hid (w1.heap[w.heap.size]? = some (.cells #[.slice none 0 0, .int .i64 0, .int .i64 0, .slice none 0 0] 50 (0, 0))) := by rw [hw1]; exact heap_at _ _ rfl
 have HZ : Hid (w1.heap.size = w.heap.size + 1) := by rw [hw1]; simp [Hid]
 obtain ⟨A2, c2, w2, e2, x2, b2⟩ := conv_new w1 k hk hkl
 have cv1 : (convert 22 22 (.slice (some ⟨w2.heap.size, 0, none⟩) 1 1)).run Tryz.prog (w2.alloc (.cells #[.int .u8 118] 5)) = .ok (.slice (some ⟨w2.heap.size, 0, none⟩) 1 1) (w2.alloc (.cells #[.int .u8 118] 5 (1, 2))) := run_convert_bytes_const_at _ _ _ _ _ _ _ (rfl) Tryz.underlying22 Tryz.underlying5
 obtain ⟨w3, hw3⟩ : ∃ w3, w3 = w2.alloc (.cells #[.int .u8 118] 5 (1, 2)) := ⟨_, rfl⟩
 have hx3 : Ext w2 w3 := by rw [hw3]; exact ext_alloc _ _
 have hb3 : Bs w3 w2.heap.size w3.heap.size (.slice (some ⟨w2.heap.size, 0, none⟩) 1 1) [118] := by
  rw [hw3]; exact (bs_mark w2 [118] (by simp) (1, 2)).wide (zNr _) (by simp)
 have hb := ext_heap (zEt x2 hx3) HBX.out
 rw [← hw3] at cv1
 clear hw3
 have q0 := cell_of hb (k := 0) rfl
 have q1 := cell_of hb (k := 1) rfl
 have q2 := cell_of hb (k := 2) rfl
 have q3 := cell_of hb (k := 3) rfl
 have z0 := frozen_four hb (j := 0)
 have z1 := frozen_four hb (j := 1)
 have z2 := frozen_four hb (j := 2)
 have z3 := frozen_four hb (j := 3)
 have HB := zHd hb
 have HK := zHd ((b2.below hx3 (zNr _)).wide (zNr _) hx3.size)
 have HV := zHd (hb3.wide (lo' := w1.heap.size) x2.size (zNr _))
 have HX3 : Hid (Ext w w3) := zEt HX.out (zEt x2 hx3)
 have HBY := zHd hk
 have HS := zHd (And.intro h1 h2)
 clear x2 hx3 b2 hb3 hb hk hkl h1 h2
 go_enter Tryz.func32, Tryz.ntmps32
 rw [hw1] at e2
 go_wp2_with fail
 refine entry_ret1 (p := 4) (by kernel_rfl) rfl rfl (set_four HB.out) ?_
 have far : ∀ {l : List Nat} {v : Value} {u : World} {p : Addr} {x : Value}, p.block < w1.heap.size → Bs u w1.heap.size w3.heap.size v l → Bs (u.setCell p x) w1.heap.size w3.heap.size v l := fun hp h => h.setCell (.inl hp) _
 have hlt : w.heap.size < w1.heap.size := by rw [HZ.out]; omega
 refine ⟨Below.setCell (Below.setCell (Below.setCell (Below.setCell HX3.out (zNr _) _) (zNr _) _) (zNr _) _) (zNr _) _, ⟨A2, c2, some ⟨w2.heap.size, 0, none⟩, 1⟩, rfl, ⟨?_, ?_, HBY.out, (fun x hx => by have h9 : x ∈ [118] := hx; rw [List.mem_singleton] at h9; omega), HS.out.1, HS.out.2, (by show (-9223372036854775808 : Int) ≤ _; dsimp only; omega), (by dsimp only; omega)⟩⟩
 · exact (far hlt (far hlt (far hlt (far hlt HK.out)))).wide HX.out.size (by simp [World.setCell])
 · exact (far hlt (far hlt (far hlt (far hlt HV.out)))).wide HX.out.size (by simp [World.setCell])
def uE (k : Nat) (s : Int) : Ent := ⟨[k], s, 1, [118]⟩
theorem ulit_any {e : Ent} {k : Nat} {kb : ByteArray} {s : Int} (he : e = uE k s) (hkb : kb = tx [k]) (hk : k < 256) (h1 : 0 ≤ s) (h2 : s ≤ 9000) (w : World) :
    Calls Tryz.prog 32 #[.string kb, .int .i64 s] w (LitAns w e) := by
 subst he hkb
 exact uput_any [k] s (fun x hx => by rw [List.mem_singleton] at hx; omega) (by simp) (by omega) (by omega) w
theorem three_es {u : World} {b : Nat} {e e' e2 : Ent} {g g' g2 : Hd} (h : u.heap[b]? = some (.cells (ecells (e, g) ++ (ecells (e', g') ++ ecells (e2, g2))).toArray 50 (0, 0))) (hm : Em u 0 u.heap.size e g) (hm' : Em u 0 u.heap.size e' g') (hm2 : Em u 0 u.heap.size e2 g2) : Es u 0 u.heap.size (some ⟨b, 0, none⟩) [(e, g), (e', g'), (e2, g2)] := by
 refine ⟨.inr ⟨b, 0, rfl, Nat.zero_le _, (zAg.1 h).1, fun i x hx => ?_⟩, fun p hp => ?_⟩
 · rw [Nat.zero_add]
   exact cell_of h (by simpa [erow] using hx)
 · simp only [List.mem_cons, List.not_mem_nil, or_false] at hp
   rcases hp with rfl | rfl | rfl
   · exact hm
   · exact hm'
   · exact hm2
def uT : List Ent := [uE 97 5, uE 97 3, uE 98 9]
theorem umay : MayT uT := by
 refine ⟨by decide, by decide, fun j a b ha hb => ?_, by decide⟩
 rcases j with _ | _ | _ | j
 · simp [uT] at ha hb; subst ha hb; decide
 · simp [uT] at ha hb; subst ha hb; decide
 · simp [uT] at hb
 · simp [uT] at hb
theorem uno : ¬ MayT [uE 98 1, uE 97 1] := fun h => by
 have := h.2.2.1 0 (uE 98 1) (uE 97 1) rfl rfl
 exact absurd this (by decide)
theorem uno0 : ¬ MayT [] := fun h => absurd h.1 (by decide)
theorem upiece : Piece uT := by
 refine ⟨by decide, fun m h1 h2 => ?_⟩
 have h3 : uT.length = 3 := rfl
 rcases m with _ | _ | _ | m
 · omega
 · simp [wr, upto, pieceOf, kform, ahOf, ats, be4, uT, uE, shr, bytesForm, form_lo, List.range, List.range.loop, List.flatMap_cons, List.filter]
 · simp [wr, upto, pieceOf, kform, ahOf, ats, be4, uT, uE, shr, bytesForm, form_lo, List.range, List.range.loop, List.flatMap_cons, List.filter]
 · omega
theorem ucuts : Cuts [uT] := ⟨upiece, fun _ _ h => (by cases h), trivial⟩
theorem ucut {C : List (List Ent)} (h : Cuts C) (hf : C.flatten = uT) : C = [uT] := cut_unique h ucuts (by rw [hf]; rfl)
theorem unot (L : List Ent) : ¬ IsT [] L := fun ⟨_, C, _, _, h⟩ => by
 have := tb_len C L
 rw [h] at this
 simp at this
theorem ulen {C : List (List Ent)} {L : List Ent} (h : MayT L) (hc : Cuts C) (hf : C.flatten = L) : (tb C L).length ≤ 1000000000 := by
 have := (few h hc hf).a
 rw [tb_len]; omega
theorem ulen1 : (tb [uT] uT).length ≤ 1000000000 := ulen umay ucuts rfl
theorem utb_lt {C : List (List Ent)} {L : List Ent} (hm : MayT L) (hc : Cuts C) (hf : C.flatten = L) (hb : ∀ e ∈ L, (∀ x ∈ e.key, x < 256) ∧ ∀ x ∈ e.val, x < 256) : ∀ x ∈ tb C L, x < 256 := by
 subst hf
 intro x hx
 unfold tb at hx
 rcases List.mem_append.1 hx with hx | hx
 · exact ahd_lt hc hm.2.2.2 hm.2.2.1 hb _ x hx
 · rcases List.mem_append.1 hx with hx | hx
   · unfold foot24 at hx
     simp only [List.mem_append] at hx
     rcases hx with hx | hx | hx | hx | hx | hx <;> exact be4_lt _ x hx
   · exact be4_lt _ x hx
theorem open_is {w w' : World} {C : List (List Ent)} {L : List Ent} {x : Ending} (hm : MayT L) (hc : Cuts C) (hf : C.flatten = L) (h : TOpenAns w (tb C L) x w') : Ext w w' ∧ ∃ g, x = .returned (.tuple #[.pointer (some ⟨g, 0, none⟩), .int .i64 0]) ∧ TV w' g C L [] [] false := by
 obtain ⟨hx, (⟨C', L', g, h1, h2, h3, h4, h5, rfl, _, h6⟩ | ⟨hno, _⟩)⟩ := h
 · have hL : L' = L := IsT.unique (b := tb C L) ⟨h1, C', h3, h2, h4⟩ ⟨hm, C, hf, hc, rfl⟩
   subst hL
   have hC : C' = C := cut_unique h2 hc (by rw [h3, hf])
   subst hC
   exact ⟨hx, g, rfl, TV.whole h1 h2 h3 h5 h6⟩
 · exact absurd ⟨hm, C, hf, hc, rfl⟩ (hno L)
theorem open_not {w w' : World} {b : List Nat} {x : Ending} (hn : ∀ L, ¬ IsT b L) (h : TOpenAns w b x w') : Ext w w' ∧ x = .returned (.tuple #[.pointer none, .int .i64 10]) := by
 obtain ⟨hx, (⟨C', L', g, h1, h2, h3, h4, h5, rfl, _, h6⟩ | ⟨_, rfl⟩)⟩ := h
 · exact absurd ⟨h1, C', h3, h2, h4⟩ (hn L')
 · exact ⟨hx, rfl⟩
theorem get_is {w w' : World} {L : List Ent} {fr tt key : List Nat} {en : Bool} {s : Int} {x : Ending} (h : TGetAns w L (hasV fr tt en key && Bl.mayB (Bl.mk (keysT L)) key) key s x w') : Ext w w' ∧ match (inV fr tt en L).find? (seenE key s) with
    | some e => ∃ g : Hd, x = .returned (.tuple #[e.at_ g, .int .i64 0]) ∧ Em w' 0 w'.heap.size e g
    | none => x = .returned (.tuple #[noE, .int .i64 6]) := by
 obtain ⟨h1, h2⟩ := h
 have h3 := get_view fr tt en key s L
 rw [h3] at h2
 exact ⟨h1, h2⟩
theorem mark_ps {B lo hi : Nat} {u u' : World} {A : Option Addr} {P : List (Pl × PHd)} (h : (MarkR B).r u u') (hP : Ps u lo hi A P) : Ps u' lo hi A P := by
 refine ⟨?_, fun p hp => mark_bs h (hP.each p hp)⟩
 rcases hP.outer with h0 | ⟨b, o, e, h1, h2, h3⟩
 · exact .inl h0
 · exact .inr ⟨b, o, e, h1, h2, fun i x hx => mark_cell h (h3 i x hx)⟩
theorem TV.mark {B : Nat} {u u' : World} {g : Nat} {C : List (List Ent)} {L : List Ent} {fr tt : List Nat} {en : Bool} (h : TV u g C L fr tt en) (hm : (MarkR B).r u u') : TV u' g C L fr tt en := by
 obtain ⟨fA, fc, tA, tc, ⟨bv_, fv_, PA, pc, P, h1, h2, h3, h4, h5, h6⟩, h7, h8⟩ := h.at_
 have hz := hm.2.2.2.1
 exact ⟨h.may, h.cuts, h.flat, ⟨fA, fc, tA, tc, ⟨bv_, fv_, PA, pc, P, mark_heap hm h1 (.inr fun _ _ e => by injection e with _ e _; exact absurd e (by decide)), (mark_bs hm h2).wide (zNr _) hz, (mark_bs hm h3).wide (zNr _) hz, (mark_ps hm h4).wide (zNr _) hz, h5, h6⟩, (mark_bs hm h7).wide (zNr _) hz, (mark_bs hm h8).wide (zNr _) hz⟩, h.bf, h.bt, h.good⟩
def ViewF (C : List (List Ent)) (L : List Ent) (fr tt : List Nat) (en : Bool) (v : Value) (u : World) : Prop := ∃ g, v = .pointer (some ⟨g, 0, none⟩) ∧ TV u g C L fr tt en
theorem Fr.Mono.view (B : Nat) (C : List (List Ent)) (L : List Ent) (fr tt : List Nat) (en : Bool) : Fr.Mono (MarkR B) (ViewF C L fr tt en) := fun _ _ _ ⟨g, h, hv⟩ hu => ⟨g, h, hv.mark hu⟩
end Go.Proofs.YtkdidghfcfcpfaaGreat
namespace Go.Proofs.YtkdidghfcfcpfaaGreat
open Go.ChangeShapes Go.WideShapes Go.ChangeAt Go.RowKit
set_option maxRecDepth 100000 in
set_option maxHeartbeats 8000000 in
theorem tfill_any {w : World} {lo hi c : Nat} {A : Option Addr} {L : List (Ent × Hd)} (h : Es w lo hi A L) (hhi : hi ≤ w.heap.size) (hm : MayT (L.map Prod.fst)) :
    Calls Tryz.prog 50 #[.slice A L.length c] w fun x w' => Ext w w' ∧ ∃ (g : Nat) (C : List (List Ent)), x = .returned (.pointer (some ⟨g, 0, none⟩)) ∧ TV w' g C (L.map Prod.fst) [] [] false := by
 have HW := zHd (rtwrite_any (c := c) h hhi hm)
 obtain ⟨Ls, hLs⟩ : ∃ Ls, Ls = L.map Prod.fst := ⟨_, rfl⟩
 have HG : Hid (∀ e ∈ Ls, (∀ x ∈ e.key, x < 256) ∧ ∀ x ∈ e.val, x < 256) := by
  rw [hLs]
  intro e he
  obtain ⟨p, hp, rfl⟩ := List.mem_map.1 he
  exact ⟨(h.each p hp).bk, (h.each p hp).bv⟩
 rw [← hLs] at HW hm ⊢
 have HM := zHd hm
 clear h hhi hm hLs
 go_enter Tryz.func50, Tryz.ntmps50
 go_wp2_with fail
 refine HW.out.mono ?_
 rintro x w2 ⟨hx2, C, v, rfl, hf, hc, ho⟩
 obtain ⟨B, bc, rfl⟩ := ho.slice
 obtain ⟨D, hD⟩ : ∃ D, D = tb C Ls := ⟨_, rfl⟩
 have HX2 := zHd hx2
 have HD := zHd hD
 have HF := zHd hf
 have HC := zHd hc
 have HOP := zHd (topen_any ho.bs (zNr _) (utb_lt HM.out hc hf HG.out) (ulen HM.out hc hf))
 rw [← hD] at HOP ⊢
 clear hx2 hf hc ho hD HW
 go_wp2_with fail
 refine HOP.out.mono ?_
 intro x w3 hop
 rw [HD.out] at hop
 obtain ⟨hx3, g, rfl, hv⟩ := open_is HM.out HC.out HF.out hop
 have HX3 : Hid (Ext w w3) := zEt HX2.out hx3
 have HV := zHd hv
 clear hop hx3 hv HOP
 go_wp2_with fail
 refine (unum _ _).mono ?_
 rintro x wz ⟨rfl, hwz⟩
 have hwz := hwz.symm
 subst hwz
 go_wp2_with fail
 refine bodyPost_ret (results_tmp rfl _ _ _) rfl ?_
 exact ⟨HX3.out, g, C, rfl, HV.out⟩
end Go.Proofs.YtkdidghfcfcpfaaGreat
namespace Go.Proofs.YtkdidghfcfcpfaaGreat
open Go.ChangeShapes Go.WideShapes Go.ChangeAt Go.RowKit Go.Joins
structure Prt where
 fr : List Nat
 tt : List Nat
 en : Bool
structure PrtH where
 frA : Option Addr
 frc : Nat
 ttA : Option Addr
 ttc : Nat
def prtcells (p : Prt × PrtH) : List Value := [.slice p.2.frA p.1.fr.length p.2.frc, .slice p.2.ttA p.1.tt.length p.2.ttc, .bool p.1.en]
theorem prtcells_length (p : Prt × PrtH) : (prtcells p).length = 3 := rfl
def prtrow (L : List (Prt × PrtH)) : List Value := L.flatMap prtcells
theorem prtrow_length (L : List (Prt × PrtH)) : (prtrow L).length = L.length * 3 := by
 unfold prtrow
 induction L with
 | nil => rfl
 | cons a l ih => rw [List.flatMap_cons, List.length_append, ih, prtcells_length, List.length_cons]; omega
theorem prtrow_at (L : List (Prt × PrtH)) {k j : Nat} (hk : k < L.length) (hj : j < 3) : (prtrow L)[k * 3 + j]? = (prtcells L[k])[j]? := by
 unfold prtrow
 induction L generalizing k with
 | nil => simp at hk
 | cons a l ih =>
  rw [List.flatMap_cons]
  cases k with
  | zero => rw [List.getElem?_append_left (by rw [prtcells_length]; omega)]; simp
  | succ k =>
   rw [List.getElem?_append_right (by rw [prtcells_length]; omega), prtcells_length, show (k + 1) * 3 + j - 3 = k * 3 + j by omega]
   simpa using ih (k := k) (by simpa using hk)
structure prtAt (w : World) (lo hi : Nat) (p : Prt × PrtH) : Prop where
 fr : Bs w lo hi (.slice p.2.frA p.1.fr.length p.2.frc) p.1.fr
 frb : ∀ x ∈ p.1.fr, x < 256
 tt : Bs w lo hi (.slice p.2.ttA p.1.tt.length p.2.ttc) p.1.tt
 ttb : ∀ x ∈ p.1.tt, x < 256
theorem prtAt.below {w w' : World} {lo hi B : Nat} {p : Prt × PrtH} (m : prtAt w lo hi p) (hb : Below B w w') (hB : hi ≤ B) : prtAt w' lo hi p := ⟨m.fr.below hb hB, m.frb, m.tt.below hb hB, m.ttb⟩
structure prts (w : World) (lo hi : Nat) (A : Option Addr) (L : List (Prt × PrtH)) : Prop where
 outer : Sl w lo hi A (prtrow L)
 each : ∀ p ∈ L, prtAt w lo hi p
theorem prts.below {w w' : World} {lo hi B : Nat} {A : Option Addr} {L : List (Prt × PrtH)} (h : prts w lo hi A L) (hb : Below B w w') (hB : hi ≤ B) : prts w' lo hi A L := ⟨h.outer.below hb hB, fun p hp => (h.each p hp).below hb hB⟩
theorem prts.base {w : World} {lo hi : Nat} {A : Option Addr} {L : List (Prt × PrtH)} (h : prts w lo hi A L) (h0 : 0 < L.length) : ∃ b o, A = some ⟨b, o, none⟩ ∧ lo ≤ b ∧ b < hi := by
 rcases h.outer with h1 | ⟨b, o, rfl, h1, h2, _⟩
 · have := congrArg List.length h1
   rw [prtrow_length] at this
   simp at this; omega
 · exact ⟨b, o, rfl, h1, h2⟩
theorem prts.get {w : World} {lo hi b o : Nat} {L : List (Prt × PrtH)} (h : prts w lo hi (some ⟨b, o, none⟩) L) {k : Nat} {p : Prt × PrtH} (hk : L[k]? = some p) :
    w.cell? ⟨b, o + k * 3, none⟩ = some (.slice p.2.frA p.1.fr.length p.2.frc) ∧ w.cell? ⟨b, o + k * 3 + 1, none⟩ = some (.slice p.2.ttA p.1.tt.length p.2.ttc) ∧ w.cell? ⟨b, o + k * 3 + 2, none⟩ = some (.bool p.1.en) := by
 obtain ⟨hlt, rfl⟩ := zLg.1 hk
 have hc : ∀ j u, (prtrow L)[j]? = some u → w.cell? ⟨b, o + j, none⟩ = some u := by
  rcases h.outer with h0 | ⟨b', o', he, _, _, hc⟩
  · have := congrArg List.length h0
    rw [prtrow_length] at this
    simp at this; omega
  · injection he with he
    injection he with e1 e2
    subst e1 e2
    exact hc
 have hj := fun (j : Nat) (hj : j < 3) (u : Value) (hu : (prtcells L[k])[j]? = some u) => hc (k * 3 + j) u ((prtrow_at L hlt hj).trans hu)
 refine ⟨hj 0 (by decide) _ rfl, ?_, ?_⟩
 · rw [Nat.add_assoc]; exact hj 1 (by decide) _ rfl
 · rw [Nat.add_assoc]; exact hj 2 (by decide) _ rfl
section
variable {H : Type} {enc : TypeId × Value → H} {W : World}
set_option maxRecDepth 100000 in
theorem cells_prt {fuel : Nat} {cs : List Value} {y : DataW H × List MemPlace} (h : DataW.trod enc Tryz.prog W 0 (fun _ => true) true fuel 98 cs = some y) :
    ∃ p : Prt × PrtH, cs = prtcells p ∧ prtAt W 0 W.heap.size p ∧ ((∀ n ∈ y.1.weights Tryz.prog 98, n ≤ reachBytes) → p.1.fr.length ≤ reachBytes ∧ p.1.tt.length ≤ reachBytes) := by
 obtain ⟨xs, n, _, hx, hl, hlen, hf⟩ := DataW.trod_struct Tryz.underlying98 h
 obtain ⟨y0, y1, y2, rfl⟩ : ∃ y0 y1 y2, xs = [y0, y1, y2] := by
  match xs, hlen with
  | [y0, y1, y2], _ => exact ⟨y0, y1, y2, rfl⟩
 have h0 : DataW.trod enc Tryz.prog W 0 (fun _ => true) true n 22 ((cs.drop 0).take (Tryz.prog.cellsOf 22)) = some y0 := hf 0 _ rfl
 have h1 : DataW.trod enc Tryz.prog W 0 (fun _ => true) true n 22 ((cs.drop 1).take (Tryz.prog.cellsOf 22)) = some y1 := hf 1 _ rfl
 have h2 : DataW.trod enc Tryz.prog W 0 (fun _ => true) true n 4 ((cs.drop 2).take (Tryz.prog.cellsOf 4)) = some y2 := hf 2 _ rfl
 have hC : Tryz.prog.cellsOf 98 = 3 := by kernel_rfl
 have hC0 : Tryz.prog.cellsOf 22 = 1 := by kernel_rfl
 have hC1 : Tryz.prog.cellsOf 4 = 1 := by kernel_rfl
 rw [hC] at hl
 obtain ⟨c0_, c1_, c2_, rfl⟩ : ∃ c0_ c1_ c2_, cs = [c0_, c1_, c2_] := by
  match cs, hl with
  | [c0_, c1_, c2_], _ => exact ⟨c0_, c1_, c2_, rfl⟩
 simp only [hC0, hC1, List.drop_zero, List.take_succ_cons, List.take_zero, List.drop_succ_cons] at h0 h1 h2
 obtain ⟨A0, k0, l0, e0, bk0, hk0, wk0⟩ := cell_bytes h0
 injection e0 with e0
 obtain ⟨A1, k1, l1, e1, bk1, hk1, wk1⟩ := cell_bytes h1
 injection e1 with e1
 obtain ⟨s2, e2, _⟩ := DataW.trod_bool Tryz.underlying4 h2
 injection e2 with e2
 subst e0 e1 e2
 refine ⟨(⟨l0, l1, s2⟩, ⟨A0, k0, A1, k1⟩), rfl, ⟨hk0, bk0, hk1, bk1⟩, fun hw => ?_⟩
 have hwe : ∀ n ∈ DataW.weightsEach Tryz.prog [22, 22, 4] [y0.1, y1.1, y2.1], n ≤ reachBytes := fun n hn => hw n (by
  rw [hx]
  simp only [DataW.weights, Tryz.underlying98]
  exact hn)
 exact ⟨wk0 fun n hn => hwe n (DataW.weights_mem_each (j := 0) rfl rfl n hn), wk1 fun n hn => hwe n (DataW.weights_mem_each (j := 1) rfl rfl n hn)⟩
set_option maxRecDepth 100000 in
theorem open_prts {v : Value} {d : DataW H} {p : List MemPlace} {b0 : Nat} (hv : Value.okWide Tryz.prog W .any b0 41 v) (h : DataW.Trod enc Tryz.prog W 0 (fun _ => true) true 41 v d p)
    (hsz : ∀ n ∈ d.weights Tryz.prog 41, n ≤ reachBytes) :
    ∃ (A : Option Addr) (c : Nat) (L : List (Prt × PrtH)), v = .slice A L.length c ∧ L.length ≤ c ∧ c ≤ maxLen ∧ prts W 0 W.heap.size A L ∧ (∀ p ∈ L, p.1.fr.length ≤ 140737488351232 ∧ p.1.tt.length ≤ 140737488351232) ∧ L.length ≤ 140737488351232 := by
 obtain ⟨a0, len0, cap0, rfl⟩ := okWide_slice Tryz.underlying41 hv
 obtain ⟨fuel, hf⟩ := h
 have hC : Tryz.prog.cellsOf 98 = 3 := by kernel_rfl
 rcases Go.Deep.open_slice Tryz.underlying41 hf with ⟨hcs, _⟩ | ⟨a, len, cap, m, n, D, Pl, hcs, _, hl, hm, hmm, hdd, hx⟩
 · simp [Value.cells] at hcs
   obtain ⟨rfl, rfl, rfl⟩ := hcs
   exact ⟨none, 0, [], rfl, by simp, by simp [maxLen], ⟨Sl.nil _ _ _ _, by simp⟩, by simp, by simp⟩
 · simp [Value.cells] at hcs
   obtain ⟨rfl, rfl, rfl⟩ := hcs
   have hmc : m = cap0 := by rw [hmm]; simp
   have hdd1 : d = .slice ((List.range len0).map D) ((List.range (m - len0)).map fun j => D (len0 + j)) := congrArg Prod.fst hdd
   have hwt : ∀ i, i < len0 → ∀ n ∈ (D i).weights Tryz.prog 98, n ≤ reachBytes := fun i hi n hn => by
    refine hsz n ?_
    rw [hdd1]
    simp only [DataW.weights, Tryz.underlying41, List.mem_cons, List.mem_append]
    exact Or.inr (Or.inl (weightsAll_at (List.mem_map.2 ⟨i, List.mem_range.2 hi, rfl⟩) n hn))
   have hlen : len0 ≤ 140737488351232 := by
    have hb1 : 1 ≤ Tryz.prog.bytesOf 98 := by
     have : Tryz.prog.bytesOf 98 = 56 := by kernel_rfl
     omega
    have h3 := hsz ((len0 + (m - len0)) * Tryz.prog.bytesOf 98) (by
     rw [hdd1]
     simp [DataW.weights, Tryz.underlying41])
    rw [reach_is] at h3
    have h4 : len0 * 1 ≤ (len0 + (m - len0)) * Tryz.prog.bytesOf 98 := Nat.mul_le_mul (by omega) hb1
    omega
   have each : ∀ i : Nat, ∃ t : Prt × PrtH, i < len0 → (∀ j v, j < 3 → (prtcells t)[j]? = some v → W.cell? ((a.add (i * 3)).add j) = some v) ∧ prtAt W 0 W.heap.size t ∧ t.1.fr.length ≤ 140737488351232 ∧ t.1.tt.length ≤ 140737488351232 := by
    intro i
    by_cases hi : i < len0
    · obtain ⟨cs', hc', ht'⟩ := hx i (by omega)
      rw [hC] at hc'
      obtain ⟨_, hcl, hat⟩ := World.cells?_some hc'
      obtain ⟨e, hcc, hem, hw⟩ := cells_prt ht'
      have hw2 := hw (hwt i hi)
      rw [reach_is] at hw2
      exact ⟨e, fun _ => ⟨fun j v hj hv => by rw [hat j hj, hcc]; exact hv, hem, hw2⟩⟩
    · exact ⟨(⟨[], [], false⟩, ⟨none, 0, none, 0⟩), fun h => absurd h hi⟩
   obtain ⟨F, hF⟩ := Classical.axiomOfChoice each
   have hat : ∀ i u, (prtrow ((List.range len0).map F))[i]? = some u → W.cell? (a.add i) = some u := by
    intro i u hu
    have hi : i < len0 * 3 := by
     have := (zLg.1 hu).1
     rw [prtrow_length] at this
     simpa using this
    have hi4 : i / 3 < len0 := by omega
    have e1 : i = i / 3 * 3 + i % 3 := by omega
    rw [e1, prtrow_at _ (by simpa using hi4) (by omega)] at hu
    have h1 := (hF (i / 3) hi4).1 (i % 3) u (by omega) (by simpa using hu)
    have e2 : (a.add (i / 3 * 3)).add (i % 3) = a.add i := by
     obtain ⟨b, o, s⟩ := a
     have hc0 := (hF 0 (by omega)).1 0 _ (by omega) rfl
     have hs : s = none := by
      have := World.cell?_spot hc0
      simpa [Addr.add] using this
     subst hs
     rw [addr_add, addr_add, addr_add]
     congr 1; omega
    rw [← e2]; exact h1
   refine ⟨some a, cap0, (List.range len0).map F, by simp, by simpa using hl, hm, ⟨?_, ?_⟩, ?_, by simpa using hlen⟩
   · by_cases h0 : len0 = 0
     · exact .inl (by simp [h0, prtrow])
     · obtain ⟨b, o, spot⟩ := a
       have hc0 := (hF 0 (by omega)).1 0 _ (by omega) rfl
       have hspot : spot = none := by
        have := World.cell?_spot hc0
        simpa [Addr.add] using this
       subst hspot
       have hblt : b < W.heap.size := by
        have := World.block_lt_of_cell? W _ hc0
        rw [addr_add, addr_add] at this
        exact this
       exact .inr ⟨b, o, rfl, Nat.zero_le _, hblt, fun i u hu => by have := hat i u hu; rwa [addr_add] at this⟩
   · intro q hq
     simp only [List.mem_map, List.mem_range] at hq
     obtain ⟨i, hi, rfl⟩ := hq
     exact (hF i hi).2.1
   · intro q hq
     simp only [List.mem_map, List.mem_range] at hq
     obtain ⟨i, hi, rfl⟩ := hq
     exact (hF i hi).2.2
end
end Go.Proofs.YtkdidghfcfcpfaaGreat
namespace Go.Proofs.YtkdidghfcfcpfaaGreat
open Go.ChangeShapes Go.WideShapes Go.ChangeAt Go.RowKit
def LongAns (L : List (Prt × PrtH)) (z : Bool) : Prop := z = false → L.length ≤ 5 ∧ ∀ p ∈ L, p.1.fr.length ≤ 9000 ∧ p.1.tt.length ≤ 9000
set_option maxRecDepth 100000 in
set_option maxHeartbeats 4000000 in
theorem tlong_any {w : World} {lo hi : Nat} {A : Option Addr} {c : Nat} {L : List (Prt × PrtH)} (h : prts w lo hi A L) (hhi : hi ≤ w.heap.size) (hlen : L.length ≤ 140737488351232) (hln : ∀ p ∈ L, p.1.fr.length ≤ 140737488351232 ∧ p.1.tt.length ≤ 140737488351232) :
    Calls Tryz.prog 17 #[.slice A L.length c] w fun x w' => ∃ z : Bool, LongAns L z ∧ x = .returned (.bool z) ∧ Ext w w' := by
 have HE := zHd h
 have HHI := zHd hhi
 have HL := zHd hlen
 have HLN := zHd hln
 clear h hhi hlen hln
 go_enter Tryz.func17, Tryz.ntmps17
 go_wp2_with fail
 go_loopw [3, 4] (fun a b wr => ∃ s i : Nat, a = .int .i64 (s : Int) ∧ b = .int .i64 (i : Int) ∧ i ≤ L.length ∧ i ≤ 6 ∧ s ≤ i * 18002 ∧ Hid (s ≤ 9000 → ∀ p ∈ L.take i, p.1.fr.length ≤ s ∧ p.1.tt.length ≤ s) ∧ Hid (Ext w wr)) (fun _ b _ => 6 - (intOf b).toNat)
 case atStart => exact ⟨0, 0, rfl, rfl, by omega, by omega, by omega, fun _ => by simp, zHd (Ext.refl _)⟩
 case round =>
  obtain ⟨s, i, rfl, rfl, hm, hm6, hs, HR, HX⟩ := hrel
  by_cases hlt : i < L.length
  · have d : decide ((i : Int) < (L.length : Int)) = true := decide_eq_true (by omega)
    have dn : decide (i < L.length) = true := decide_eq_true hlt
    by_cases h6 : i < 6
    · have t : decide ((i : Int) < 6) = true := decide_eq_true (by omega)
      have tn : decide (i < 6) = true := decide_eq_true h6
      obtain ⟨b, o, hA, _, _⟩ := HE.out.base (by omega)
      subst hA
      obtain ⟨p, hp⟩ : ∃ p, L[i]? = some p := ⟨_, List.getElem?_eq_getElem hlt⟩
      obtain ⟨c0, c1, c2⟩ := (HE.out.below HX.out HHI.out).get hp
      have HP := zHd hp
      have HLP := zHd (HLN.out p (List.mem_of_getElem? hp))
      have n1 : (0 : Int) ≤ (i : Int) := by omega
      have n2 : (i : Int) < (L.length : Int) := by omega
      obtain ⟨x, hx⟩ : ∃ x, x = min p.1.fr.length 9001 := ⟨_, rfl⟩
      obtain ⟨y, hy⟩ : ∃ y, y = min p.1.tt.length 9001 := ⟨_, rfl⟩
      have HMX : Hid ((min (p.1.fr.length : Int) 9001) = (x : Int)) := by unfold Hid; omega
      have HMY : Hid ((min (p.1.tt.length : Int) 9001) = (y : Int)) := by unfold Hid; omega
      have HXY := zHd (And.intro hx hy)
      have HSB : Hid (s ≤ i * 18002 ∧ i < 6) := ⟨hs, h6⟩
      clear hp c2 hx hy hs h6
      go_upto_region 5 with (fail)
      refine flow (by kernel_rfl) [Is (.int .i64 (s : Int)), Is (.slice (some ⟨b, o, none⟩) L.length c), Is (.int .i64 (i : Int)), Is (.pointer (some ⟨b, o + i * 3, none⟩)), Is (.pointer (some ⟨b, o + i * 3, none⟩)), Is (.slice p.2.frA p.1.fr.length p.2.frc), Is (.int .i64 (p.1.fr.length : Int)), Is (.int .i64 (x : Int)), Is (.int .i64 ((s : Int) + (x : Int))), Is (.slice (some ⟨b, o, none⟩) L.length c), Is (.int .i64 (i : Int)), Is (.pointer (some ⟨b, o + i * 3, none⟩)), Is (.pointer (some ⟨b, o + i * 3 + 1, none⟩)), Is (.slice p.2.ttA p.1.tt.length p.2.ttc), Is (.int .i64 (p.1.tt.length : Int)), Is (.int .i64 (y : Int)), Is (.int .i64 ((s : Int) + (x : Int) + (y : Int))), Is (.int .i64 ((s : Int) + (x : Int) + (y : Int)))] (by kernel_rfl) (by kernel_rfl) ?mono (fun f1 => ?obl) ?fin
      case mono =>
       simp only [List.forall_mem_cons, List.not_mem_nil, false_imp_iff, implies_true, and_true]
       and_intros <;> exact .is _
      case fin =>
       intro g1 u hu hg
       simp only [puts, Act.put, zq]
       have h17 : g1 17 = _ := hg 17 (by decide)
       rw [h17]
       have HXU : Hid (Ext w u) := zEt HX.out (zEt (Ext.drew wr) hu)
       clear h17 hg hu c0 c1
       go_wp2_with fail
       go_roundw
       case rel =>
        have hxy := HXY.out
        have hsb := HSB.out
        refine ⟨s + x + y, i + 1, by simp, by go_num, by omega, by omega, by omega, zHd fun hle => ?_, HXU⟩
        have h2 := HR.out (by omega)
        intro q hq
        rw [List.take_succ_eq_append_getElem hlt, List.mem_append, List.mem_singleton] at hq
        rcases hq with hq | hq
        · have := h2 q hq; omega
        · have hpe : q = p := by rw [hq]; exact (zLg.1 HP.out).2
          subst hpe
          omega
       case measure => have := HSB.out; simp [intOf]; omega
      case obl =>
       refine ⟨fun u hu hd => ?_, fun u hu hd => ?_, fun u hu hd => ?_, fun u hu hd => ?_, fun u hu hd => ?_, fun u hu hd => ?_, fun u hu hd => ?_, fun u hu hd => ?_, fun u hu hd => ?_, fun u hu hd => ?_, fun u hu hd => ?_, fun u hu hd => ?_, fun u hu hd => ?_, fun u hu hd => ?_, fun u hu hd => ?_, fun u hu hd => ?_, fun u hu hd => ?_, fun u hu hd => ?_, trivial⟩
       all_goals try simp only [Act.put, zq]
       · go_simp
         exact zEr
       · go_simp
         exact zEr
       · go_simp
         exact zEr
       · have e1 : f1 1 = _ := hd 1 (by kernel_rfl)
         have e2 : f1 2 = _ := hd 2 (by kernel_rfl)
         go_simp
         exact zEr
       · have e3 : f1 3 = _ := hd 3 (by kernel_rfl)
         go_simp
         exact zEr
       · have e4 : f1 4 = _ := hd 4 (by kernel_rfl)
         have hu2 := zEt (Ext.drew wr) hu
         have q0 := ext_cell hu2 c0
         go_simp
         exact zEr
       · have e5 : f1 5 = _ := hd 5 (by kernel_rfl)
         go_simp
         exact zEr
       · have e6 : f1 6 = _ := hd 6 (by kernel_rfl)
         have q := HMX.out
         go_simp
         exact zEr
       · have e0 : f1 0 = _ := hd 0 (by kernel_rfl)
         have e7 : f1 7 = _ := hd 7 (by kernel_rfl)
         have q1 : x ≤ 9001 ∧ y ≤ 9001 ∧ s ≤ 100000 := by have := HXY.out; have := HSB.out; omega
         have q : IntKind.i64.wrap ((s : Int) + (x : Int)) = (s : Int) + (x : Int) := by rw [IntKind.wrap_i64]; omega
         go_simp
         exact zEr
       · go_simp
         exact zEr
       · go_simp
         exact zEr
       · have e9 : f1 9 = _ := hd 9 (by kernel_rfl)
         have e10 : f1 10 = _ := hd 10 (by kernel_rfl)
         go_simp
         exact zEr
       · have e11 : f1 11 = _ := hd 11 (by kernel_rfl)
         go_simp
         exact zEr
       · have e12 : f1 12 = _ := hd 12 (by kernel_rfl)
         have hu2 := zEt (Ext.drew wr) hu
         have q0 := ext_cell hu2 c1
         go_simp
         exact zEr
       · have e13 : f1 13 = _ := hd 13 (by kernel_rfl)
         go_simp
         exact zEr
       · have e14 : f1 14 = _ := hd 14 (by kernel_rfl)
         have q := HMY.out
         go_simp
         exact zEr
       · have e8 : f1 8 = _ := hd 8 (by kernel_rfl)
         have e15 : f1 15 = _ := hd 15 (by kernel_rfl)
         have q1 : x ≤ 9001 ∧ y ≤ 9001 ∧ s ≤ 100000 := by have := HXY.out; have := HSB.out; omega
         have q : IntKind.i64.wrap ((s : Int) + (x : Int) + (y : Int)) = (s : Int) + (x : Int) + (y : Int) := by rw [IntKind.wrap_i64]; omega
         go_simp
         exact zEr
       · have e16 : f1 16 = _ := hd 16 (by kernel_rfl)
         go_simp
         exact zEr
    · have t : decide ((i : Int) < 6) = false := decide_eq_false (by omega)
      have tn : decide (i < 6) = false := decide_eq_false h6
      have HI6 : Hid (6 ≤ i) := by unfold Hid; omega
      clear h6
      by_cases hs1 : s ≤ 9000
      · have t2 : decide ((9000 : Int) < (s : Int)) = false := decide_eq_false (by omega)
        have t2n : decide (9000 < s) = false := decide_eq_false (by omega)
        have t3 : decide ((5 : Int) < (L.length : Int)) = true := decide_eq_true (by have := HI6.out; omega)
        have t3n : decide (5 < L.length) = true := decide_eq_true (by have := HI6.out; omega)
        clear hs1 hlt hm hs hm6
        go_wp2_with fail
        go_ret
        exact ⟨true, fun h => (by cases h), rfl, HX.out⟩
      · have t2 : decide ((9000 : Int) < (s : Int)) = true := decide_eq_true (by omega)
        have t2n : decide (9000 < s) = true := decide_eq_true (by omega)
        clear hs1 hlt hm hs hm6
        go_wp2_with fail
        go_ret
        exact ⟨true, fun h => (by cases h), rfl, HX.out⟩
  · have d : decide ((i : Int) < (L.length : Int)) = false := decide_eq_false (by omega)
    have dn : decide (i < L.length) = false := decide_eq_false hlt
    have HI : Hid (i = L.length) := by unfold Hid; omega
    by_cases hs1 : s ≤ 9000
    · have t2 : decide ((9000 : Int) < (s : Int)) = false := decide_eq_false (by omega)
      have t2n : decide (9000 < s) = false := decide_eq_false (by omega)
      have HS1 := zHd hs1
      obtain ⟨z, hz⟩ : ∃ z, z = decide (5 < L.length) := ⟨_, rfl⟩
      have t3 : decide ((5 : Int) < (L.length : Int)) = z := by rw [hz]; exact decide_eq_decide.2 (by omega)
      have t3n : decide (5 < L.length) = z := hz.symm
      have HZ := zHd hz
      clear hs1 hlt hm hs hz hm6
      go_wp2_with fail
      go_ret
      refine ⟨z, fun hz => ?_, rfl, HX.out⟩
      have h2 := HR.out HS1.out
      have h3 := HI.out
      have h4 := HS1.out
      rw [h3, List.take_length] at h2
      have h5 := HZ.out
      rw [hz] at h5
      have h6 := of_decide_eq_false h5.symm
      exact ⟨by omega, fun p hp => by have := h2 p hp; omega⟩
    · have t2 : decide ((9000 : Int) < (s : Int)) = true := decide_eq_true (by omega)
      have t2n : decide (9000 < s) = true := decide_eq_true (by omega)
      clear hs1 hlt hm hs hm6
      go_wp2_with fail
      go_ret
      exact ⟨true, fun h => (by cases h), rfl, HX.out⟩
structure Vw where
 fr : List Nat
 tt : List Nat
 en : Bool
def clip1 (v : Vw) (p : Prt) : Vw := ⟨clipF v.fr p.fr, clipT v.tt v.en p.tt p.en, clipE v.en p.en⟩
def clips (L : List (Prt × PrtH)) : Vw := L.foldl (fun v p => clip1 v p.1) ⟨[], [], false⟩
theorem clips_succ {L : List (Prt × PrtH)} {k : Nat} {p : Prt × PrtH} (h : L[k]? = some p) : clips (L.take (k + 1)) = clip1 (clips (L.take k)) p.1 := by
 unfold clips
 rw [List.take_add_one, h, List.foldl_append]
 rfl
theorem clipF_of {P : List Nat → Prop} {fr a : List Nat} (h1 : P fr) (h2 : P a) : P (clipF fr a) := by unfold clipF; split <;> assumption
theorem clipT_of {P : List Nat → Prop} {tt b : List Nat} {en e : Bool} (h1 : P tt) (h2 : P b) : P (clipT tt en b e) := by unfold clipT; split <;> assumption
theorem clips_of {P : List Nat → Prop} (h0 : P []) {L : List (Prt × PrtH)} (h : ∀ p ∈ L, P p.1.fr ∧ P p.1.tt) : P (clips L).fr ∧ P (clips L).tt := by
 unfold clips
 have go : ∀ (L : List (Prt × PrtH)) (v : Vw), P v.fr ∧ P v.tt → (∀ p ∈ L, P p.1.fr ∧ P p.1.tt) → P (L.foldl (fun v p => clip1 v p.1) v).fr ∧ P (L.foldl (fun v p => clip1 v p.1) v).tt := by
  intro L
  induction L with
  | nil => intro v hv _; exact hv
  | cons p L ih =>
   intro v hv hL
   have hp := hL p (List.mem_cons_self ..)
   exact ih _ ⟨clipF_of hv.1 hp.1, clipT_of hv.2 hp.2⟩ (fun q hq => hL q (List.mem_cons_of_mem _ hq))
 exact go L _ ⟨h0, h0⟩ h
def RVal (H : Nat) (A : Option Addr) (n c : Nat) (v : Vw) (x : Value) (w : World) : Prop :=
 ∃ (fA : Option Addr) (fc : Nat) (tA : Option Addr) (tc : Nat), x = .agg #[.slice A n c, .slice fA v.fr.length fc, .slice tA v.tt.length tc, .bool v.en] ∧ Bs w 0 H (.slice fA v.fr.length fc) v.fr ∧ Bs w 0 H (.slice tA v.tt.length tc) v.tt ∧ H ≤ w.heap.size
theorem RVal.mono (H : Nat) (A : Option Addr) (n c : Nat) (v : Vw) : Mono (RVal H A n c v) := fun _ _ _ ⟨fA, fc, tA, tc, e, h1, h2, h3⟩ hx => ⟨fA, fc, tA, tc, e, h1.below hx h3, h2.below hx h3, zNt h3 hx.size⟩
def RBox (H : Nat) (A : Option Addr) (n c : Nat) (v : Vw) (b : Nat) (w : World) : Prop :=
 ∃ (fA : Option Addr) (fc : Nat) (tA : Option Addr) (tc : Nat), w.heap[b]? = some (.cells #[.slice A n c, .slice fA v.fr.length fc, .slice tA v.tt.length tc, .bool v.en] 45 (0, 0)) ∧ Bs w 0 H (.slice fA v.fr.length fc) v.fr ∧ Bs w 0 H (.slice tA v.tt.length tc) v.tt ∧ H ≤ w.heap.size
theorem RBox.ext {H : Nat} {A : Option Addr} {n c : Nat} {v : Vw} {b : Nat} {w w' : World} (h : RBox H A n c v b w) (hx : Ext w w') : RBox H A n c v b w' := by
 obtain ⟨fA, fc, tA, tc, e, h1, h2, h3⟩ := h
 exact ⟨fA, fc, tA, tc, ext_heap hx e, h1.below hx h3, h2.below hx h3, zNt h3 hx.size⟩
theorem RBox.small {H : Nat} {A : Option Addr} {n c : Nat} {v : Vw} {b : Nat} {w : World} (h : RBox H A n c v b w) : SmallB w b := by
 obtain ⟨fA, fc, tA, tc, e, _⟩ := h
 refine ⟨_, _, e, by simp, fun i u hi m hm => ?_⟩
 subst hm
 rcases i with _ | _ | _ | _ | i <;> simp at hi
theorem viewF_mono (C : List (List Ent)) (L : List Ent) (fr tt : List Nat) (en : Bool) : Mono (ViewF C L fr tt en) := fun _ _ _ ⟨g, h, hv⟩ hx => ⟨g, h, hv.ext hx⟩
theorem results_tmp_view {fn : Func} {p q : Tmp} (h : fn.results = #[.tmp p, .cell q 45]) (tmps : Array Value) (w : World) (g : Nat) (c : Array Value) (v : Value) (hp : tmps.getD p undef = v) (hq : tmps.getD q undef = .pointer (some ⟨g, 0, none⟩))
    (hc : c.size = 4) (hg : w.heap[g]? = some (.cells c 45 (0, 0))) : (results fn tmps).run Tryz.prog w = .ok (.tuple #[v, .agg c]) w := by
 have hi : (Tryz.prog.info? 45).map (·.size) = some 4 := by kernel_rfl
 have hl := run_loadVar_row (P := Tryz.prog) w g 45 45 c (0, 0) _ hg Tryz.underlying45 rfl (by rw [hc]; exact hi)
 have ha : (asAddr (.pointer (some ⟨g, 0, none⟩))).run Tryz.prog w = .ok ⟨g, 0, none⟩ w := rfl
 have hr : (results fn tmps).run Tryz.prog w = ((asAddr (tmps.getD q undef)).run Tryz.prog w).andThen fun a w₁ => ((loadVar 45 a).run Tryz.prog w₁).andThen fun u w₂ => .ok (.tuple #[tmps.getD p undef, u]) w₂ := by
  simp only [results, h]
  simp [Sem.run_bind, Result.andThen]
 rw [hr, hq, ha, Result.andThen_ok, hl, Result.andThen_ok, hp]
theorem Bs.setFour {w : World} {lo hi : Nat} {v : Value} {l : List Nat} (h : Bs w lo hi v l) {b : Nat} (hb : hi ≤ b) {x0 x1 x2 x3 : Value} : Bs ((((w.setCell ⟨b, 0, none⟩ x0).setCell ⟨b, 1, none⟩ x1).setCell ⟨b, 2, none⟩ x2).setCell ⟨b, 3, none⟩ x3) lo hi v l :=
 (((h.setCell (.inr hb) _).setCell (.inr hb) _).setCell (.inr hb) _).setCell (.inr hb) _
def LClipAns (w : World) (H : Nat) (A : Option Addr) (n c : Nat) (Ls : List Ent) (v : Vw) (x : Ending) (w' : World) : Prop :=
 Ext w w' ∧ ∃ (g : Nat) (C : List (List Ent)) (fA : Option Addr) (fc : Nat) (tA : Option Addr) (tc : Nat), x = .returned (.tuple #[.pointer (some ⟨g, 0, none⟩), .agg #[.slice A n c, .slice fA v.fr.length fc, .slice tA v.tt.length tc, .bool v.en]]) ∧ TV w' g C Ls v.fr v.tt v.en ∧ Bs w' 0 H (.slice fA v.fr.length fc) v.fr ∧ Bs w' 0 H (.slice tA v.tt.length tc) v.tt
set_option maxRecDepth 100000 in
set_option maxHeartbeats 8000000 in
theorem tlclip_any {w : World} {lo hi lo2 hi2 c c2 : Nat} {A B : Option Addr} {R : List (Ent × Hd)} {L : List (Prt × PrtH)} (h : Es w lo hi A R) (hhi : hi ≤ w.heap.size) (hm : MayT (R.map Prod.fst)) (hp : prts w lo2 hi2 B L) (hhi2 : hi2 ≤ w.heap.size) (hlen : L.length ≤ 5) (hln : ∀ p ∈ L, p.1.fr.length ≤ 9000 ∧ p.1.tt.length ≤ 9000) :
    Calls Tryz.prog 19 #[.slice A R.length c, .slice B L.length c2] w (LClipAns w w.heap.size A R.length c (R.map Prod.fst) (clips L)) := by
 obtain ⟨w1, hw1⟩ : ∃ w1, w1 = w.alloc (.cells #[.slice none 0 0, .slice none 0 0, .slice none 0 0, .bool false] 45) := ⟨_, rfl⟩
 have HX1 : Hid (Ext w w1) := by rw [hw1]; exact ext_alloc _ _
 have HB1 : Hid (w1.heap[w.heap.size]? = some (.cells #[.slice none 0 0, .slice none 0 0, .slice none 0 0, .bool false] 45 (0, 0))) := by rw [hw1]; exact heap_at _ _ rfl
 have HFI := zHd (tfill_any (c := c) (h.below HX1.out hhi) (zNt hhi HX1.out.size) hm)
 have HE := zHd hp
 have HHI := zHd hhi2
 have HL := zHd hlen
 have HLN := zHd hln
 obtain ⟨n, hn⟩ : ∃ n, n = R.length := ⟨_, rfl⟩
 obtain ⟨Ls, hLs⟩ : ∃ Ls, Ls = R.map Prod.fst := ⟨_, rfl⟩
 rw [← hn, ← hLs] at HFI ⊢
 have hlI : (L.length : Int) ≤ 5 := by omega
 clear h hhi hm hp hhi2 hlen hln hn hLs
 go_enter Tryz.func19, Tryz.ntmps19
 go_upto_region 1 with (fail)
 rw [← hw1]
 clear hw1
 go_wp2_with fail
 refine HFI.out.mono ?_
 rintro x w2 ⟨hx2, g0, C, rfl, htv⟩
 have HX2 : Hid (Ext w w2) := zEt HX1.out hx2
 have HB2 := zHd (ext_heap hx2 HB1.out)
 have HTV2 := zHd htv
 obtain ⟨w3, hw3⟩ : ∃ w3, w3 = w2.alloc (.cells #[.slice A n c, .slice none 0 0, .slice none 0 0, .bool false] 45) := ⟨_, rfl⟩
 have HX3 : Hid (Ext w2 w3) := by rw [hw3]; exact ext_alloc _ _
 have HV3 : Hid (w3.heap[w2.heap.size]? = some (.cells #[.slice A n c, .slice none 0 0, .slice none 0 0, .bool false] 45 (0, 0))) := by rw [hw3]; exact heap_at _ _ rfl
 clear hx2 htv HFI
 go_upto_region 2 with (fail)
 rw [← hw3]
 clear hw3
 obtain ⟨vb, hvb⟩ : ∃ vb, vb = w2.heap.size := ⟨_, rfl⟩
 have HVB : Hid (w.heap.size < vb) := by rw [hvb]; exact (zAg.1 HB2.out).1
 rw [← hvb] at HV3 ⊢
 clear hvb
 go_wp2_with fail
 go_loopw [6, 8, 9] (fun tv iv _xv wq => ∃ k g : Nat, tv = .pointer (some ⟨g, 0, none⟩) ∧ iv = .int .i64 (k : Int) ∧ k ≤ L.length ∧ Hid (TV wq g C Ls (clips (L.take k)).fr (clips (L.take k)).tt (clips (L.take k)).en) ∧ Hid (RBox w.heap.size A n c (clips (L.take k)) vb wq) ∧ Hid (Ext w wq) ∧ Hid (wq.heap[w.heap.size]? = some (.cells #[.slice none 0 0, .slice none 0 0, .slice none 0 0, .bool false] 45 (0, 0)))) (fun _ iv _ _ => L.length - (intOf iv).toNat)
 case atStart => exact ⟨0, g0, rfl, rfl, Nat.zero_le _, HTV2.out.ext HX3.out, ⟨none, 0, none, 0, HV3.out, Bs.nil _ _ _, Bs.nil _ _ _, zNt HX2.out.size HX3.out.size⟩, zEt HX2.out HX3.out, ext_heap HX3.out HB2.out⟩
 case round =>
  rename World => wq
  obtain ⟨k, g, rfl, rfl, hk, HTV, HRB, HX, HB0⟩ := hrel
  by_cases hlt : k < L.length
  rotate_left
  · have d : decide ((k : Int) < (L.length : Int)) = false := decide_eq_false (by omega)
    have dn : decide (k < L.length) = false := decide_eq_false hlt
    have hkn : L.take k = L := List.take_of_length_le (by omega)
    rw [hkn] at HTV HRB
    obtain ⟨fA, fc, tA, tc, hb, hf, ht, _⟩ := HRB.out
    have HB := zHd hb
    have HFT := zHd (And.intro hf ht)
    have q0 := cell_of hb (k := 0) rfl
    have q1 := cell_of hb (k := 1) rfl
    have q2 := cell_of hb (k := 2) rfl
    have q3 := cell_of hb (k := 3) rfl
    clear hlt hk hkn hb hf ht
    go_upto_region 7 with (fail)
    refine flow_last (by kernel_rfl) [Is (.pointer (some ⟨g, 0, none⟩)), Is (.agg #[.slice A n c, .slice fA (clips L).fr.length fc, .slice tA (clips L).tt.length tc, .bool (clips L).en]), Is (.pointer (some ⟨g, 0, none⟩))] 3 _ (by kernel_rfl) (by kernel_rfl) rfl rfl (by kernel_rfl) ?mono (fun f1 => ?obl) ?fin
    case mono =>
     simp only [List.forall_mem_cons, List.not_mem_nil, false_imp_iff, implies_true, and_true]
     and_intros <;> exact .is _
    case fin =>
     intro g1 u hu hg
     simp only [List.take_succ_cons, List.take_zero, puts, Act.put, zq]
     have h1 : g1 1 = _ := hg 1 (by decide)
     have h2 : g1 2 = _ := hg 2 (by decide)
     rw [h1, h2]
     have HXU : Hid (Ext wq u) := zEt (Ext.drew wq) hu
     have HU := zHd (ext_heap HXU.out HB0.out)
     have t0 := cell_of HU.out (k := 0) rfl
     have t1 := cell_of HU.out (k := 1) rfl
     have t2 := cell_of HU.out (k := 2) rfl
     have t3 := cell_of HU.out (k := 3) rfl
     have z0 := frozen_four (j := 0) HU.out
     have z1 := frozen_four (j := 1) HU.out
     have z2 := frozen_four (j := 2) HU.out
     have z3 := frozen_four (j := 3) HU.out
     clear h1 h2 hg hu q0 q1 q2 q3
     go_simp
     go_wp2_with fail
     have hS := chg_four w.heap.size u (.slice A n c) (.slice fA (clips L).fr.length fc) (.slice tA (clips L).tt.length tc) (.bool (clips L).en)
     have hsz : ((((u.setCell ⟨w.heap.size, 0, none⟩ (.slice A n c)).setCell ⟨w.heap.size, 1, none⟩ (.slice fA (clips L).fr.length fc)).setCell ⟨w.heap.size, 2, none⟩ (.slice tA (clips L).tt.length tc)).setCell ⟨w.heap.size, 3, none⟩ (.bool (clips L).en)).heap.size = u.heap.size := by simp [World.setCell]
     have hsm : SmallB u w.heap.size := ⟨_, _, HU.out, by simp, fun i v hi m hm => by subst hm; rcases i with _ | _ | _ | _ | i <;> simp at hi⟩
     refine bodyPost_ret (results_tmp_view Tryz.results19 _ _ w.heap.size _ (.pointer (some ⟨g, 0, none⟩)) rfl rfl rfl (set_four HU.out)) rfl ?_
     refine ⟨Below.trans (zEt HX.out HXU.out) (hS.below (fun i hi => by rw [hi]; exact zNr _) (zEt HX.out HXU.out).size), g, C, fA, fc, tA, tc, rfl, (HTV.out.ext HXU.out).off hsm hS hsz, ?_, ?_⟩
     · exact (HFT.out.1.below HXU.out HX.out.size).setFour (zNr _)
     · exact (HFT.out.2.below HXU.out HX.out.size).setFour (zNr _)
    case obl =>
     refine ⟨fun u hu hd => ?_, fun u hu hd => ?_, fun u hu hd => ?_, trivial⟩
     all_goals try simp only [Act.put, zq]
     · go_simp
       exact zEr
     · have hu2 := zEt (Ext.drew wq) hu
       have q0 := ext_cell hu2 q0
       have q1 := ext_cell hu2 q1
       have q2 := ext_cell hu2 q2
       have q3 := ext_cell hu2 q3
       go_simp
       exact zEr
     · have e0 : f1 0 = _ := hd 0 (by kernel_rfl)
       go_simp
       exact zEr
  have d : decide ((k : Int) < (L.length : Int)) = true := decide_eq_true (by omega)
  have dn : decide (k < L.length) = true := decide_eq_true hlt
  have HLT := zHd hlt
  obtain ⟨b, o, hA, _, _⟩ := HE.out.base (by omega)
  subst hA
  obtain ⟨p, hp⟩ : ∃ p, L[k]? = some p := ⟨_, List.getElem?_eq_getElem hlt⟩
  have HMEM := zHd (List.mem_of_getElem? hp)
  have HSU := zHd (clips_succ hp)
  obtain ⟨c0, c1, c2'⟩ := (HE.out.below HX.out HHI.out).get hp
  have n1 : (0 : Int) ≤ (k : Int) := by omega
  have n2 : (k : Int) < (L.length : Int) := by omega
  obtain ⟨V, hV⟩ : ∃ V, V = clips (L.take k) := ⟨_, rfl⟩
  have HVL : Hid (V.fr.length ≤ 9000 ∧ V.tt.length ≤ 9000 ∧ (∀ x ∈ V.fr, x < 256) ∧ ∀ x ∈ V.tt, x < 256) := by
   rw [hV]
   have h1 := clips_of (P := fun l => l.length ≤ 9000) (Nat.zero_le _) (L := L.take k) (fun q hq => HLN.out q (List.mem_of_mem_take hq))
   have h2 := clips_of (P := fun l => ∀ x ∈ l, x < 256) (fun x hx => by cases hx) (L := L.take k) (fun q hq => ⟨(HE.out.each q (List.mem_of_mem_take hq)).frb, (HE.out.each q (List.mem_of_mem_take hq)).ttb⟩)
   exact ⟨h1.1, h1.2, h2.1, h2.2⟩
  rw [← hV] at HTV HRB HSU
  clear hp hlt hk hV
  obtain ⟨q1, hq1⟩ : ∃ q1, q1 = wq.alloc (.cells #[.slice p.2.frA p.1.fr.length p.2.frc, .slice p.2.ttA p.1.tt.length p.2.ttc, .bool p.1.en] 98) := ⟨_, rfl⟩
  have HXQ : Hid (Ext wq q1) := by rw [hq1]; exact ext_alloc _ _
  have HQB : Hid (q1.heap[wq.heap.size]? = some (.cells #[.slice p.2.frA p.1.fr.length p.2.frc, .slice p.2.ttA p.1.tt.length p.2.ttc, .bool p.1.en] 98 (0, 0))) := by rw [hq1]; exact heap_at _ _ rfl
  go_upto_region 6 with (fail)
  rw [← hq1]
  clear hq1 c0 c1 c2'
  obtain ⟨xb, hxb⟩ : ∃ xb, xb = wq.heap.size := ⟨_, rfl⟩
  rw [← hxb] at HQB ⊢
  clear hxb
  have r0 := cell_of HQB.out (k := 0) rfl
  have r1 := cell_of HQB.out (k := 1) rfl
  have r2 := cell_of HQB.out (k := 2) rfl
  obtain ⟨fA, fc, tA, tc, hb, hf, ht, hz⟩ := HRB.out.ext HXQ.out
  have HRBQ : Hid (RBox w.heap.size A n c V vb q1) := HRB.out.ext HXQ.out
  have s0 := cell_of hb (k := 0) rfl
  have s1 := cell_of hb (k := 1) rfl
  have s2 := cell_of hb (k := 2) rfl
  have s3 := cell_of hb (k := 3) rfl
  have HTVQ := zHd (HTV.out.ext HXQ.out)
  have HXW : Hid (Ext w q1) := zEt HX.out HXQ.out
  have HPA := zHd (HE.out.each p HMEM.out)
  have HCP : Hid (∀ u, Ext q1 u → Calls Tryz.prog 33 #[.pointer (some ⟨g, 0, none⟩), .slice p.2.frA p.1.fr.length p.2.frc, .slice p.2.ttA p.1.tt.length p.2.ttc, .bool p.1.en] u (ClipAns u C Ls V.fr V.tt p.1.fr p.1.tt V.en p.1.en)) := fun u hu => by
   have hwu : Ext w u := zEt HXW.out hu
   have hl := HLN.out p HMEM.out
   exact clip_any (HTVQ.out.ext hu) ((HPA.out.fr.below hwu HHI.out).wide (Nat.zero_le _) (zNt HHI.out hwu.size)) HPA.out.frb ((HPA.out.tt.below hwu HHI.out).wide (Nat.zero_le _) (zNt HHI.out hwu.size)) HPA.out.ttb (by omega) (by omega)
  have HCR : Hid (∀ u, Ext q1 u → Calls Tryz.prog 51 #[.agg #[.slice A n c, .slice fA V.fr.length fc, .slice tA V.tt.length tc, .bool V.en], .slice p.2.frA p.1.fr.length p.2.frc, .slice p.2.ttA p.1.tt.length p.2.ttc, .bool p.1.en] u (RClipAns u w.heap.size A n c V.fr V.tt p.1.fr p.1.tt V.en p.1.en)) := fun u hu => by
   have hwu : Ext w u := zEt HXW.out hu
   have hl := HLN.out p HMEM.out
   have hv := HVL.out
   exact rvclip_any (hf.below hu hz) hv.2.2.1 (ht.below hu hz) hv.2.2.2 ((HPA.out.fr.below hwu HHI.out).wide (Nat.zero_le _) HHI.out) HPA.out.frb ((HPA.out.tt.below hwu HHI.out).wide (Nat.zero_le _) HHI.out) HPA.out.ttb hwu.size (by omega) (by omega) (by omega) (by omega)
  have HHB := zHd hb
  have HB0Q := zHd (ext_heap HXQ.out HB0.out)
  clear hb hf ht hz
  obtain ⟨V2, hV2⟩ : ∃ V2, V2 = clip1 V p.1 := ⟨_, rfl⟩
  have HV2 := zHd hV2
  clear hV2
  refine flow_last (by kernel_rfl) [Is (.pointer (some ⟨g, 0, none⟩)), Is (.pointer (some ⟨xb, 0, none⟩)), Is (.slice p.2.frA p.1.fr.length p.2.frc), Is (.pointer (some ⟨xb, 1, none⟩)), Is (.slice p.2.ttA p.1.tt.length p.2.ttc), Is (.pointer (some ⟨xb, 2, none⟩)), Is (.bool p.1.en), ViewF C Ls V2.fr V2.tt V2.en, Is (.agg #[.slice A n c, .slice fA V.fr.length fc, .slice tA V.tt.length tc, .bool V.en]), Is (.pointer (some ⟨xb, 0, none⟩)), Is (.slice p.2.frA p.1.fr.length p.2.frc), Is (.pointer (some ⟨xb, 1, none⟩)), Is (.slice p.2.ttA p.1.tt.length p.2.ttc), Is (.pointer (some ⟨xb, 2, none⟩)), Is (.bool p.1.en), RVal w.heap.size A n c V2, ViewF C Ls V2.fr V2.tt V2.en] 17 _ (by kernel_rfl) (by kernel_rfl) rfl rfl (by kernel_rfl) ?mono (fun f1 => ?obl) ?fin
  case mono =>
   simp only [List.forall_mem_cons, List.not_mem_nil, false_imp_iff, implies_true, and_true]
   exact ⟨.is _, .is _, .is _, .is _, .is _, .is _, .is _, viewF_mono _ _ _ _ _, .is _, .is _, .is _, .is _, .is _, .is _, .is _, RVal.mono _ _ _ _ _, viewF_mono _ _ _ _ _⟩
  case fin =>
   intro g1 u hu hg
   simp only [List.take_succ_cons, List.take_zero, puts, Act.put, zq]
   obtain ⟨g2, h16, htv2⟩ : ViewF C Ls V2.fr V2.tt V2.en (g1 16) u := hg 16 (by decide)
   obtain ⟨fA2, fc2, tA2, tc2, h15, hf2, ht2, hz2⟩ : RVal w.heap.size A n c V2 (g1 15) u := hg 15 (by decide)
   rw [h15, h16]
   have HXU : Hid (Ext q1 u) := zEt (Ext.drew q1) hu
   have HTV2' := zHd htv2
   have HF2 := zHd (And.intro hf2 (And.intro ht2 hz2))
   have HU := zHd (ext_heap HXU.out HHB.out)
   have HSM := zHd ((HRBQ.out.ext HXU.out).small)
   have t0 := cell_of HU.out (k := 0) rfl
   have t1 := cell_of HU.out (k := 1) rfl
   have t2 := cell_of HU.out (k := 2) rfl
   have t3 := cell_of HU.out (k := 3) rfl
   have z0 := frozen_four (j := 0) HU.out
   have z1 := frozen_four (j := 1) HU.out
   have z2 := frozen_four (j := 2) HU.out
   have z3 := frozen_four (j := 3) HU.out
   clear h15 h16 htv2 hf2 ht2 hz2 hg hu r0 r1 r2 s0 s1 s2 s3
   go_simp
   go_wp2_with fail
   go_roundw
   case rel =>
    have hS := chg_four vb u (.slice A n c) (.slice fA2 V2.fr.length fc2) (.slice tA2 V2.tt.length tc2) (.bool V2.en)
    have hsz : ((((u.setCell ⟨vb, 0, none⟩ (.slice A n c)).setCell ⟨vb, 1, none⟩ (.slice fA2 V2.fr.length fc2)).setCell ⟨vb, 2, none⟩ (.slice tA2 V2.tt.length tc2)).setCell ⟨vb, 3, none⟩ (.bool V2.en)).heap.size = u.heap.size := by simp [World.setCell]
    refine ⟨k + 1, g2, rfl, by go_num, HLT.out, ?_, ?_, ?_, ?_⟩
    · rw [HSU.out, ← HV2.out]; exact HTV2'.out.off HSM.out hS hsz
    · rw [HSU.out, ← HV2.out]; exact ⟨fA2, fc2, tA2, tc2, set_four HU.out, HF2.out.1.setFour (Nat.le_of_lt HVB.out), HF2.out.2.1.setFour (Nat.le_of_lt HVB.out), by rw [hsz]; exact HF2.out.2.2⟩
    · exact Below.trans (zEt HXW.out HXU.out) (hS.below (fun i hi => by rw [hi]; exact Nat.le_of_lt HVB.out) (zEt HXW.out HXU.out).size)
    · exact (hS.block _ (zAg.1 (ext_heap HXU.out HB0Q.out)).1 (fun e => by have := HVB.out; omega)).trans (ext_heap HXU.out HB0Q.out)
   case measure => have := HLT.out; simp [intOf]; omega
  case obl =>
   refine ⟨fun u hu hd => ?_, fun u hu hd => ?_, fun u hu hd => ?_, fun u hu hd => ?_, fun u hu hd => ?_, fun u hu hd => ?_, fun u hu hd => ?_, fun u hu hd => ?_, fun u hu hd => ?_, fun u hu hd => ?_, fun u hu hd => ?_, fun u hu hd => ?_, fun u hu hd => ?_, fun u hu hd => ?_, fun u hu hd => ?_, fun u hu hd => ?_, fun u hu hd => ?_, trivial⟩
   all_goals try simp only [Act.put, zq]
   · go_simp
     exact zEr
   · go_simp
     exact zEr
   · have e1 : f1 1 = _ := hd 1 (by kernel_rfl)
     have hu2 := zEt (Ext.drew q1) hu
     have q0 := ext_cell hu2 r0
     go_simp
     exact zEr
   · go_simp
     exact zEr
   · have e3 : f1 3 = _ := hd 3 (by kernel_rfl)
     have hu2 := zEt (Ext.drew q1) hu
     have q0 := ext_cell hu2 r1
     go_simp
     exact zEr
   · go_simp
     exact zEr
   · have e5 : f1 5 = _ := hd 5 (by kernel_rfl)
     have hu2 := zEt (Ext.drew q1) hu
     have q0 := ext_cell hu2 r2
     go_simp
     exact zEr
   · have e0 : f1 0 = _ := hd 0 (by kernel_rfl)
     have e2 : f1 2 = _ := hd 2 (by kernel_rfl)
     have e4 : f1 4 = _ := hd 4 (by kernel_rfl)
     have e6 : f1 6 = _ := hd 6 (by kernel_rfl)
     have hu2 := zEt (Ext.drew q1) hu
     go_simp
     refine (HCP.out u hu2).mono ?_
     rintro x9 w9 ⟨hx9, g9, rfl, ht9⟩
     exact ⟨_, rfl, hx9, g9, rfl, by rw [HV2.out]; exact ht9⟩
   · have hu2 := zEt (Ext.drew q1) hu
     have q0 := ext_cell hu2 s0
     have q1 := ext_cell hu2 s1
     have q2 := ext_cell hu2 s2
     have q3 := ext_cell hu2 s3
     go_simp
     exact zEr
   · go_simp
     exact zEr
   · have e9 : f1 9 = _ := hd 9 (by kernel_rfl)
     have hu2 := zEt (Ext.drew q1) hu
     have q0 := ext_cell hu2 r0
     go_simp
     exact zEr
   · go_simp
     exact zEr
   · have e11 : f1 11 = _ := hd 11 (by kernel_rfl)
     have hu2 := zEt (Ext.drew q1) hu
     have q0 := ext_cell hu2 r1
     go_simp
     exact zEr
   · go_simp
     exact zEr
   · have e13 : f1 13 = _ := hd 13 (by kernel_rfl)
     have hu2 := zEt (Ext.drew q1) hu
     have q0 := ext_cell hu2 r2
     go_simp
     exact zEr
   · have e8 : f1 8 = _ := hd 8 (by kernel_rfl)
     have e10 : f1 10 = _ := hd 10 (by kernel_rfl)
     have e12 : f1 12 = _ := hd 12 (by kernel_rfl)
     have e14 : f1 14 = _ := hd 14 (by kernel_rfl)
     have hu2 := zEt (Ext.drew q1) hu
     go_simp
     refine (HCR.out u hu2).mono ?_
     rintro x9 w9 ⟨hx9, fA9, fc9, tA9, tc9, rfl, h1, h2⟩
     exact ⟨_, rfl, hx9, fA9, fc9, tA9, tc9, by rw [HV2.out]; exact rfl, by rw [HV2.out]; exact h1, by rw [HV2.out]; exact h2, zNt HXW.out.size (zNt hu2.size hx9.size)⟩
   · have h7 : ViewF C Ls V2.fr V2.tt V2.en (f1 7) u := hd 7 (by kernel_rfl)
     go_simp
     exact ⟨Ext.refl _, h7⟩
end Go.Proofs.YtkdidghfcfcpfaaGreat
namespace Go.Proofs.YtkdidghfcfcpfaaGreat
open Go.ChangeShapes Go.WideShapes Go.ChangeAt Go.RowKit Go.Shelf
attribute [local go_sem] Oper.semAt_some
theorem results_ent_tmp {fn : Func} {p u : Tmp} (h : fn.results = #[.cell p 50, .tmp u]) (tmps : Array Value) (w : World) (g : Nat) (c : Array Value) (v : Value) (hp : tmps.getD p undef = .pointer (some ⟨g, 0, none⟩)) (hu : tmps.getD u undef = v)
    (hc : c.size = 4) (hg : w.heap[g]? = some (.cells c 50 (0, 0))) : (results fn tmps).run Tryz.prog w = .ok (.tuple #[.agg c, v]) w := by
 have hi : (Tryz.prog.info? 50).map (·.size) = some 4 := by kernel_rfl
 have hl := run_loadVar_row (P := Tryz.prog) w g 50 50 c (0, 0) _ hg Tryz.underlying50 rfl (by rw [hc]; exact hi)
 have ha : (asAddr (.pointer (some ⟨g, 0, none⟩))).run Tryz.prog w = .ok ⟨g, 0, none⟩ w := rfl
 rw [results_cell_tmp h, hp, hu, ha, Result.andThen_ok, hl, Result.andThen_ok]
end Go.Proofs.YtkdidghfcfcpfaaGreat
namespace Go.Proofs.YtkdidghfcfcpfaaGreat
open Go.ChangeShapes Go.WideShapes Go.ChangeAt Go.RowKit Go.Shelf
def RVGetAns (w : World) (o : Option Ent) (x : Ending) (w' : World) : Prop :=
 Ext w w' ∧ match o with
  | some e => ∃ g : Hd, x = .returned (.tuple #[e.at_ g, .int .i64 0]) ∧ Em w' 0 w'.heap.size e g
  | none => x = .returned (.tuple #[noE, .int .i64 6])
set_option maxRecDepth 100000 in
set_option maxHeartbeats 8000000 in
theorem rvget_any {w : World} {lo hi lo2 hi2 lo3 hi3 lo4 hi4 c fc tc kc : Nat} {A fA tA kA : Option Addr} {L : List (Ent × Hd)} {fr tt key : List Nat} {en : Bool} {s : Int} (h : Es w lo hi A L) (hhi : hi ≤ w.heap.size) (hlen : L.length ≤ 1000000) (hf : Bs w lo3 hi3 (.slice fA fr.length fc) fr) (hhi3 : hi3 ≤ w.heap.size) (bf : ∀ x ∈ fr, x < 256) (ht : Bs w lo2 hi2 (.slice tA tt.length tc) tt) (hhi2 : hi2 ≤ w.heap.size) (bt : ∀ x ∈ tt, x < 256) (l1 : fr.length ≤ 140737488351232) (l2 : tt.length ≤ 140737488351232) (l3 : ∀ p ∈ L, p.1.key.length ≤ 140737488351232)
    (hk : Bs w lo4 hi4 (.slice kA key.length kc) key) (hhi4 : hi4 ≤ w.heap.size) (bk : ∀ x ∈ key, x < 256) :
    Calls Tryz.prog 21 #[.agg #[.slice A L.length c, .slice fA fr.length fc, .slice tA tt.length tc, .bool en], .slice kA key.length kc, .int .i64 s] w (RVGetAns w ((inV fr tt en (L.map Prod.fst)).find? (seenE key s))) := by
 obtain ⟨w1, hw1⟩ : ∃ w1, w1 = (w.alloc (.cells #[.slice A L.length c, .slice fA fr.length fc, .slice tA tt.length tc, .bool en] 45)).alloc (.cells #[.slice none 0 0, .int .i64 0, .int .i64 0, .slice none 0 0] 50) := ⟨_, rfl⟩
 have HX1 : Hid (Ext w w1) := by rw [hw1]; exact zEt (ext_alloc _ _) (ext_alloc _ _)
 have HB1 : Hid (w1.heap[w.heap.size]? = some (.cells #[.slice A L.length c, .slice fA fr.length fc, .slice tA tt.length tc, .bool en] 45 (0, 0))) := by rw [hw1]; exact ext_heap (ext_alloc _ _) (heap_at _ _ rfl)
 have HR1 : Hid (w1.heap[w.heap.size + 1]? = some (.cells #[.slice none 0 0, .int .i64 0, .int .i64 0, .slice none 0 0] 50 (0, 0))) := by rw [hw1]; exact heap_at _ _ (by simp)
 have HEN := zHd (rtents_any (c := c) (fc := fc) (tc := tc) (en := en) (h.below HX1.out hhi) (zNt hhi HX1.out.size) hlen (hf.below HX1.out hhi3) (zNt hhi3 HX1.out.size) bf (ht.below HX1.out hhi2) (zNt hhi2 HX1.out.size) bt l1 l2 l3)
 have HE := zHd (h.below HX1.out hhi)
 have HHI : Hid (hi ≤ w1.heap.size ∧ hi4 ≤ w1.heap.size ∧ L.length ≤ 1000000) := ⟨zNt hhi HX1.out.size, zNt hhi4 HX1.out.size, hlen⟩
 have HK := zHd (hk.below HX1.out hhi4)
 have HBK := zHd bk
 clear h hhi hlen hf hhi3 bf ht hhi2 bt l1 l2 l3 hk hhi4 bk
 have v0 := cell_of HB1.out (k := 0) rfl
 have v1 := cell_of HB1.out (k := 1) rfl
 have v2 := cell_of HB1.out (k := 2) rfl
 have v3 := cell_of HB1.out (k := 3) rfl
 go_enter Tryz.func21, Tryz.ntmps21
 go_upto_region 1 with (fail)
 rw [← hw1]
 clear hw1
 go_wp2_with fail
 refine HEN.out.mono ?_
 rintro x w2 ⟨hx2, A2, c2, rfl, hrow⟩
 obtain ⟨R, hR⟩ : ∃ R, R = inR fr tt en L := ⟨_, rfl⟩
 have hmap : R.map Prod.fst = inV fr tt en (L.map Prod.fst) := by rw [hR]; exact inR_map ..
 have hmem : ∀ p ∈ R, p ∈ L := fun p hp => by rw [hR] at hp; exact (List.mem_filter.1 hp).1
 have hlen : R.length ≤ 1000000 := by rw [hR]; exact zNt (inR_len ..) HHI.out.2.2
 rw [← hR] at hrow ⊢
 have HX2 := zHd hx2
 have hes : Es w2 0 w2.heap.size A2 R := ⟨(erow_sl hrow).1, fun p hp => ((HE.out.each p (hmem p hp)).below hx2 HHI.out.1).wide (Nat.zero_le _) (zNt HHI.out.1 hx2.size)⟩
 have HG := zHd (rget_any (c := c2) (s := s) hes (zNr _) hlen (HK.out.below hx2 HHI.out.2.1) (zNt HHI.out.2.1 hx2.size) HBK.out)
 obtain ⟨o, ho⟩ : ∃ o, o = (R.map Prod.fst).find? (seenE key s) := ⟨_, rfl⟩
 have HOO : Hid (o = (inV fr tt en (L.map Prod.fst)).find? (seenE key s)) := by rw [← hmap]; exact ho
 rw [← ho] at HG
 clear hx2 hrow hR hmap hmem hlen hes ho v0 v1 v2 v3 HEN
 go_wp2_with fail
 refine HG.out.mono ?_
 rintro x w3 ⟨hx3, hx⟩
 have HX13 : Hid (Ext w1 w3) := zEt HX2.out hx3
 have HR3 : Hid (w3.heap[w.heap.size + 1]? = some (.cells #[.slice none 0 0, .int .i64 0, .int .i64 0, .slice none 0 0] 50 (0, 0))) := ext_heap HX13.out HR1.out
 have b0 := cell_of HR3.out (k := 0) rfl
 have b1 := cell_of HR3.out (k := 1) rfl
 have b2 := cell_of HR3.out (k := 2) rfl
 have b3 := cell_of HR3.out (k := 3) rfl
 have z0 := frozen_four (j := 0) HR3.out
 have z1 := frozen_four (j := 1) HR3.out
 have z2 := frozen_four (j := 2) HR3.out
 have z3 := frozen_four (j := 3) HR3.out
 cases o with
 | some e =>
  obtain ⟨g, rfl, hm⟩ := hx
  have HM := zHd (hm.below hx3 (zNr _))
  have HX3 := zHd hx3
  clear hm hx3 HG
  unfold Ent.at_
  go_wp2_with fail
  have hS4 := chg_four (w.heap.size + 1) w3 (.slice g.kA e.key.length g.kc) (.int .i64 e.seq) (.int .i64 e.kind) (.slice g.vA e.val.length g.vc)
  have hR4 := set_four (x := .slice g.kA e.key.length g.kc) (y := .int .i64 e.seq) (z := .int .i64 e.kind) (t := .slice g.vA e.val.length g.vc) HR3.out
  refine bodyPost_ret (results_ent_tmp Tryz.results21 _ _ (w.heap.size + 1) _ (.int .i64 0) rfl rfl rfl hR4) rfl ?_
  refine ⟨Below.trans HX1.out (Below.trans (Below.mono HX13.out HX1.out.size) (hS4.below (fun i hi => by omega) (zNt HX1.out.size HX13.out.size))), ?_⟩
  rw [← HOO.out]
  refine ⟨g, rfl, (em_off HM.out HR3.out (fun i v hv n e => ?_) hS4).wide (zNr _) (zNt HX3.out.size hS4.size)⟩
  rcases i with _ | _ | _ | _ | i <;> simp at hv <;> (subst hv; cases e)
 | none =>
  have hx' : x = .returned (.tuple #[zeroE.at_ ⟨none, 0, none, 0⟩, .int .i64 6]) := hx
  subst hx'
  have HX3 := zHd hx3
  clear hx hx3 HG
  unfold Ent.at_ zeroE
  go_wp2_with fail
  have hS4 := chg_four (w.heap.size + 1) w3 (.slice none 0 0) (.int .i64 0) (.int .i64 0) (.slice none 0 0)
  have hR4 := set_four (x := .slice none 0 0) (y := .int .i64 0) (z := .int .i64 0) (t := .slice none 0 0) HR3.out
  refine bodyPost_ret (results_ent_tmp Tryz.results21 _ _ (w.heap.size + 1) _ (.int .i64 6) rfl rfl rfl hR4) rfl ?_
  refine ⟨Below.trans HX1.out (Below.trans (Below.mono HX13.out HX1.out.size) (hS4.below (fun i hi => by omega) (zNt HX1.out.size HX13.out.size))), ?_⟩
  rw [← HOO.out]; rfl
end Go.Proofs.YtkdidghfcfcpfaaGreat
namespace Go.Proofs.YtkdidghfcfcpfaaGreat
open Go.ChangeShapes Go.WideShapes Go.ChangeAt Go.RowKit
set_option maxRecDepth 100000 in
set_option maxHeartbeats 8000000 in
theorem rvmay_any {w : World} {lo hi lo2 hi2 lo3 hi3 lo4 hi4 c fc tc kc : Nat} {A fA tA kA : Option Addr} {L : List (Ent × Hd)} {fr tt key : List Nat} {en : Bool} (h : Es w lo hi A L) (hhi : hi ≤ w.heap.size) (hlen : L.length ≤ 4096) (hf : Bs w lo3 hi3 (.slice fA fr.length fc) fr) (hhi3 : hi3 ≤ w.heap.size) (bf : ∀ x ∈ fr, x < 256) (ht : Bs w lo2 hi2 (.slice tA tt.length tc) tt) (hhi2 : hi2 ≤ w.heap.size) (bt : ∀ x ∈ tt, x < 256) (l1 : fr.length ≤ 140737488351232) (l2 : tt.length ≤ 140737488351232) (l3 : ∀ p ∈ L, p.1.key.length ≤ 1000000)
    (hk : Bs w lo4 hi4 (.slice kA key.length kc) key) (hhi4 : hi4 ≤ w.heap.size) (bk : ∀ x ∈ key, x < 256) (l4 : key.length ≤ 1000000) :
    Calls Tryz.prog 24 #[.agg #[.slice A L.length c, .slice fA fr.length fc, .slice tA tt.length tc, .bool en], .slice kA key.length kc] w fun x w' => x = .returned (.bool (hasV fr tt en key && Bl.mayB (Bl.mk (keysT (L.map Prod.fst))) key)) ∧ Ext w w' := by
 obtain ⟨w1, hw1⟩ : ∃ w1, w1 = w.alloc (.cells #[.slice A L.length c, .slice fA fr.length fc, .slice tA tt.length tc, .bool en] 45) := ⟨_, rfl⟩
 have HX1 : Hid (Ext w w1) := by rw [hw1]; exact ext_alloc _ _
 have HB1 : Hid (w1.heap[w.heap.size]? = some (.cells #[.slice A L.length c, .slice fA fr.length fc, .slice tA tt.length tc, .bool en] 45 (0, 0))) := by rw [hw1]; exact heap_at _ _ rfl
 have HH := zHd (rthas_any (LA := A) (Ln := L.length) (Lc := c) (en := en) (hf.below HX1.out hhi3) (zNt hhi3 HX1.out.size) bf (ht.below HX1.out hhi2) (zNt hhi2 HX1.out.size) bt (hk.below HX1.out hhi4) (zNt hhi4 HX1.out.size) bk l1 l2 (by omega))
 have HE := zHd (h.below HX1.out hhi)
 have HHI : Hid (hi ≤ w1.heap.size ∧ hi4 ≤ w1.heap.size ∧ L.length ≤ 4096 ∧ key.length ≤ 1000000) := ⟨zNt hhi HX1.out.size, zNt hhi4 HX1.out.size, hlen, l4⟩
 have HK := zHd (hk.below HX1.out hhi4)
 have HBK := zHd bk
 have HL3 := zHd l3
 obtain ⟨Ls, hLs⟩ : ∃ Ls, Ls = L.map Prod.fst := ⟨_, rfl⟩
 have HLS := zHd hLs
 rw [← hLs]
 obtain ⟨Fl, hFl⟩ : ∃ Fl, Fl = Bl.mk (keysT Ls) := ⟨_, rfl⟩
 have HFLL := zHd hFl
 rw [← hFl]
 obtain ⟨q, hq⟩ : ∃ q, q = Bl.mayB Fl key := ⟨_, rfl⟩
 have HQ := zHd hq
 rw [← hq]
 obtain ⟨z, hz⟩ : ∃ z, z = hasV fr tt en key := ⟨_, rfl⟩
 rw [← hz] at HH ⊢
 have v0 := cell_of HB1.out (k := 0) rfl
 have v1 := cell_of HB1.out (k := 1) rfl
 have v2 := cell_of HB1.out (k := 2) rfl
 have v3 := cell_of HB1.out (k := 3) rfl
 clear h hhi hlen hf hhi3 bf ht hhi2 bt l1 l2 l3 hk hhi4 bk hLs hz l4 hFl hq
 cases z with
 | false =>
  rw [Bool.false_and]
  go_enter Tryz.func24, Tryz.ntmps24
  go_upto_region 1 with (fail)
  rw [← hw1]
  clear hw1
  go_wp2_with fail
  refine HH.out.mono ?_
  rintro x w2 ⟨rfl, hx2⟩
  have HX2 := zHd (zEt HX1.out hx2)
  clear hx2
  go_wp2_with fail
  refine bodyPost_ret (results_tmp rfl _ _ _) rfl ?_
  exact ⟨rfl, HX2.out⟩
 | true =>
  rw [Bool.true_and]
  go_enter Tryz.func24, Tryz.ntmps24
  go_upto_region 1 with (fail)
  rw [← hw1]
  clear hw1
  go_wp2_with fail
  refine HH.out.mono ?_
  rintro x w2 ⟨rfl, hx2⟩
  have HX2 : Hid (Ext w1 w2) := hx2
  have y0 := ext_cell hx2 v0
  have HKY := zHd (rtkeys_any (c := c) (HE.out.below hx2 HHI.out.1) (zNt HHI.out.1 hx2.size) HHI.out.2.2.1)
  rw [← HLS.out] at HKY
  clear hx2 v0 v1 v2 v3 HH
  go_wp2_with fail
  refine HKY.out.mono ?_
  rintro x w3 ⟨kv, rfl, hkr, hx3⟩
  have HX3 : Hid (Ext w1 w3) := zEt HX2.out hx3
  obtain ⟨KA, kc', xs, rfl, hrows, _, _⟩ := hkr.rows (zNt HHI.out.1 HX3.out.size)
  have hkl : (keysT Ls).length ≤ 4096 := by
   have h1 := keysTo_len Ls Ls.length
   have h2 : Ls.length = L.length := by rw [HLS.out]; exact List.length_map ..
   have := HHI.out.2.2.1
   unfold keysT; omega
  have HMK := zHd (Bl.rmake_any KA kc' 0 w3.heap.size xs (keysT Ls) w3 hrows (zNr _) (by omega) (fun l hl x hx => by
   obtain ⟨e, he, rfl⟩ := keysTo_mem hl
   rw [HLS.out] at he
   obtain ⟨p, hp, rfl⟩ := List.mem_map.1 he
   exact (HE.out.each p hp).bk x hx) (fun l hl => by
   obtain ⟨e, he, rfl⟩ := keysTo_mem hl
   rw [HLS.out] at he
   obtain ⟨p, hp, rfl⟩ := List.mem_map.1 he
   exact HL3.out p hp))
  have hok : Bl.okF Fl.length = true := by
   rw [HFLL.out, Bl.mk_length]
   have h1 := Bl.bsize_pos (keysT Ls).length
   have h2 := Bl.bsize_mod (keysT Ls).length
   have h3 := Bl.bsize_le (n := (keysT Ls).length) (by omega)
   exact Bl.okF_iff.2 ⟨by omega, h2, by omega⟩
  have HOK := zHd hok
  have HFB : Hid (∀ x ∈ Fl, x < 256) := by rw [HFLL.out]; exact Bl.mk_lt _
  rw [← Bl.mk_length, ← HFLL.out] at HMK
  clear hkr hx3 hrows hkl hok HKY
  go_wp2_with fail
  refine HMK.out.mono ?_
  rintro x w4 ⟨FA, fc4, rfl, hof, hx4⟩
  have HX4 : Hid (Ext w1 w4) := zEt HX3.out hx4
  have HMY := zHd (Bl.rmay_any hof.bs (zNr _) HFB.out (HK.out.below HX4.out HHI.out.2.1) (zNt HHI.out.2.1 HX4.out.size) HBK.out HHI.out.2.2.2)
  rw [HOK.out, Bool.not_true, Bool.false_or] at HMY
  rw [← HQ.out] at HMY
  clear hof hx4 HMK
  go_wp2_with fail
  refine HMY.out.mono ?_
  rintro x w5 ⟨rfl, hx5⟩
  have HX5 := zHd (zEt HX1.out (zEt HX4.out hx5))
  clear hx5
  go_wp2_with fail
  refine bodyPost_ret (results_tmp rfl _ _ _) rfl ?_
  exact ⟨rfl, HX5.out⟩
end Go.Proofs.YtkdidghfcfcpfaaGreat
