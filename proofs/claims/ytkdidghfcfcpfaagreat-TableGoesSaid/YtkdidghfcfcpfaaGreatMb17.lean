import Derived.Test.YtkdidghfcfcpfaaGreatMb16
import Derived.Test.YtkdidghfcfcpfaaGreatMb8
import Derived.Test.YtkdidghfcfcpfaaGreatMb3
import Derived.Test.YtkdidghfcfcpfaaGreatMb14
import Derived.Laws.OwnMore
import Derived.Test.YtkdidghfcfcpfaaGreatMb0
namespace Go.Proofs.YtkdidghfcfcpfaaGreat
open Go.ChangeShapes Go.WideShapes Go.ChangeAt Go.RowKit
structure WSt (w : World) (T at_ : List Nat) (BA : Option Addr) (bc : Nat) (RA : Option Addr) (rc : Nat) (u : World) : Prop where
 b : Own w.heap.size T (.slice BA T.length bc) u
 r : OwnI w.heap.size at_ (.slice RA at_.length rc) u
 x : Ext w u
theorem WSt.ext {w u u' : World} {T at_ : List Nat} {BA RA : Option Addr} {bc rc : Nat} (h : WSt w T at_ BA bc RA rc u) (hx : Ext u u') : WSt w T at_ BA bc RA rc u' :=
 ⟨h.b.below hx, h.r.wall fun g hg => hx.block g (row_lt h.r g hg).2, zEt h.x hx⟩
theorem wst_add {ops : Array Oper} {rest : List Oper} {o : Oper} {a : Act} {Q : Exit → Act → World → Prop} {u : World} (hgd : o.guard = none) (s x : Operand)
    (ho : o.op = .call { callee := .builtin .append, args := #[s, x], argTypes := #[22, 22] }) {w : World} {T at_ : List Nat} {BA RA : Option Addr} {bc rc : Nat} (hst : WSt w T at_ BA bc RA rc u) (hs : a.eval s = .slice BA T.length bc)
    (lo hi : Nat) (y : Value) (r : List Nat) (hx : a.eval x = y) (hy : Bs u lo hi y r) (hr : 0 < r.length) (hlen : T.length + r.length ≤ 1099511627776) (T' : List Nat) (hT : T' = T ++ r)
    (h : ∀ A' c' w', WSt w T' at_ A' c' RA rc w' → wpList Tryz.prog ops Q rest (a.put o.dst (.slice A' T'.length c')) w') :
    wpList Tryz.prog ops Q (o :: rest) a u := by
 subst hT
 refine wpList_addrow hgd s x ho w.heap.size _ T hs hst.b lo hi y r hx hy hr hlen hst.x.size fun A' c' w' hO hg => h A' c' w' ⟨hO, ?_, ?_⟩
 · exact hst.r.wall fun g hg' => hg.block g (row_lt hst.r g hg').2 (fun e => rows_apart hst.b hst.r (by decide) e.symm hg')
 · exact Below.grown hst.x hg hst.x.size (fun k hk => (row_lt hst.b k hk).1)
theorem wst_int {ops : Array Oper} {rest : List Oper} {o : Oper} {a : Act} {Q : Exit → Act → World → Prop} {u : World} (hgd : o.guard = none) (s x : Operand)
    (ho : o.op = .call { callee := .builtin .append, args := #[s, x], argTypes := #[79, 79] }) {w : World} {T at_ : List Nat} {BA RA : Option Addr} {bc rc : Nat} (hst : WSt w T at_ BA bc RA rc u) (hs : a.eval s = .slice RA at_.length rc)
    (n gb : Nat) (hx : a.eval x = .slice (some ⟨gb, 0, none⟩) 1 1) (hblk : u.heap[gb]? = some (.cells #[.int .i64 (n : Int)] 3 (0, 0))) (hlen : at_.length ≤ 1000000000000) (at2 : List Nat) (hT : at2 = at_ ++ [n])
    (h : ∀ A' c' w', WSt w T at2 BA bc A' c' w' → wpList Tryz.prog ops Q rest (a.put o.dst (.slice A' at2.length c')) w') :
    wpList Tryz.prog ops Q (o :: rest) a u := by
 subst hT
 refine wpList_pushint hgd s x ho w.heap.size _ at_ hs hst.r n gb hx hblk hlen hst.x.size fun A' c' w' hO hg => ?_
 have e : at_.length + 1 = (at_ ++ [n]).length := by simp
 rw [e] at hO ⊢
 refine h A' c' w' ⟨?_, hO, ?_⟩
 · exact hst.b.wall fun g hg' => hg.block g (row_lt hst.b g hg').2 (fun e => rows_apart hst.r hst.b (by decide) e.symm hg')
 · exact Below.grown hst.x hg hst.x.size (fun k hk => (row_lt hst.r k hk).1)
theorem NewBy.out {w : World} {l : List Nat} {e : Ending} {w' : World} (h : NewBy w l e w') : ∃ A c, e = .returned (.slice A l.length c) ∧ Bs w' 0 w'.heap.size (.slice A l.length c) l ∧ Ext w w' := by
 obtain ⟨v, rfl, ho, hb⟩ := h
 have ho' : Own w.heap.size l v w' := ho
 obtain ⟨A, c, rfl⟩ := ho'.slice
 exact ⟨A, c, rfl, ho'.bs, hb⟩
theorem bytesForm_pos (l : List Nat) : 0 < (bytesForm l).length := by
 unfold bytesForm; rw [List.length_append]; have := form_pos l.length; omega
def RWriteAns (w : World) (Ls : List Ent) (x : Ending) (w' : World) : Prop :=
 ∃ A c RA rc, x = .returned (.tuple #[.slice A (wr Ls).length c, .slice RA (ats Ls Ls.length).length rc]) ∧ WSt w (wr Ls) (ats Ls Ls.length) A c RA rc w'
set_option maxRecDepth 100000 in
set_option maxHeartbeats 16000000 in
theorem rwrite_any {w : World} {lo hi c : Nat} {A : Option Addr} {L : List (Ent × Hd)} (h : Es w lo hi A L) (hhi : hi ≤ w.heap.size) (hm : MayB (L.map Prod.fst)) :
    Calls Tryz.prog 46 #[.slice A L.length c] w (RWriteAns w (L.map Prod.fst)) := by
 have HE := zHd h
 have HHI := zHd hhi
 have HM := zHd hm
 have HLM : Hid (1 ≤ L.length ∧ L.length ≤ 1024) := by have h1 := hm.1; have h2 := hm.2.1; rw [List.length_map] at h1 h2; exact ⟨h1, h2⟩
 have HMM : Hid (∀ p ∈ L, p.1.may = true) := fun p hp => hm.2.2.2 _ (List.mem_map_of_mem hp)
 obtain ⟨Ls, hLs⟩ : ∃ Ls, Ls = L.map Prod.fst := ⟨_, rfl⟩
 have HLS := zHd hLs
 have HLL : Hid (Ls.length = L.length) := by rw [hLs]; exact List.length_map ..
 rw [← hLs] at HM ⊢
 obtain ⟨b, o, rfl⟩ := h.base (by have := HLM.out; omega)
 clear h hhi hm hLs
 go_enter Tryz.func46, Tryz.ntmps46
 go_wp2_with fail
 go_loopw [4, 5, 6, 7] (fun bv rv iv_ _ wr => ∃ (i : Nat) (BA RA : Option Addr) (bc rc : Nat), i ≤ L.length ∧ iv_ = .int .i64 (i : Int) ∧ bv = .slice BA (upto Ls i).length bc ∧ rv = .slice RA (ats Ls i).length rc ∧ Hid (WSt w (upto Ls i) (ats Ls i) BA bc RA rc wr))
  (fun _ _ x _ _ => L.length - (intOf x).toNat)
 case atStart => exact ⟨0, none, none, 0, 0, Nat.zero_le _, rfl, rfl, rfl, World.ownsRow_nil _ _ _ _, OwnI.nil _ _, Ext.refl _⟩
 case round =>
  obtain ⟨i, BA, RA, bc, rc, hi, rfl, rfl, rfl, HST⟩ := hrel
  by_cases hlt : i < L.length
  · have d : decide ((i : Int) < (L.length : Int)) = true := by rw [decide_eq_true_eq]; exact Int.ofNat_lt.2 hlt
    have dn : decide (i < L.length) = true := by rw [decide_eq_true_eq]; exact hlt
    obtain ⟨p, hp⟩ : ∃ p, L[i]? = some p := ⟨_, List.getElem?_eq_getElem hlt⟩
    have HP := zHd hp
    have HLT := zHd hlt
    have hmay := HMM.out p (List.mem_of_getElem? hp)
    have HU := zHd (Ent.may_u64 hmay)
    have HMAY := zHd (mayN_iff.1 hmay)
    have HUL : Hid ((upto Ls i).length ≤ 70000000) := by
     have h1 := upto_le HM.out.2.2.2 i
     have := HLM.out
     unfold Hid; omega
    have HPI : Hid (pieceOf Ls i = kform (ahOf Ls i) p.1) := piece_at (by rw [HLS.out, List.getElem?_map, hp]; rfl)
    have n1 : (0 : Int) ≤ (i : Int) := Int.natCast_nonneg _
    have n2 : (i : Int) < (L.length : Int) := Int.ofNat_lt.2 hlt
    obtain ⟨qn, hqn, hqt⟩ : ∃ n : Nat, p.1.seq = (n : Int) ∧ p.1.seq.toNat = n := ⟨p.1.seq.toNat, by have := HMAY.out; omega, rfl⟩
    obtain ⟨kn, hkn, hkt⟩ : ∃ n : Nat, p.1.kind = (n : Int) ∧ p.1.kind.toNat = n := ⟨p.1.kind.toNat, by have := HMAY.out; omega, rfl⟩
    have HQN := zHd hqn
    have HKN := zHd hkn
    have HQT := zHd hqt
    have HKT := zHd hkt
    have HUQ : Hid (U64 qn) := by have := HU.out.2.1; rw [hqt] at this; exact this
    have HUK : Hid (U64 kn) := by have := HU.out.2.2.1; rw [hkt] at this; exact this
    clear hlt hi hp hmay hqn hkn hqt hkt
    obtain ⟨T0, hT0⟩ : ∃ T0, T0 = upto Ls i := ⟨_, rfl⟩
    obtain ⟨a0, ha0⟩ : ∃ a0, a0 = ats Ls i := ⟨_, rfl⟩
    have HT0 := zHd hT0
    have HA0 := zHd ha0
    rw [← hT0, ← ha0] at HST ⊢
    rw [← hT0] at HUL
    clear hT0 ha0
    by_cases h4 : i % 4 = 0
    · have d4n : ((i : Int) % 4 == 0) = true := by rw [beq_iff_eq]; omega
      have HSV : Hid (0 = shr (ahOf Ls i) p.1.key) := by unfold ahOf; rw [if_pos h4, shr_nil]; exact rfl
      obtain ⟨at2, hat2⟩ : ∃ at2, at2 = a0 ++ [T0.length] := ⟨_, rfl⟩
      have HAT1 := zHd hat2
      have HAT2 : Hid (ats Ls (i + 1) = at2) := by rw [hat2, HA0.out, HT0.out]; exact ats_hit Ls h4
      have HAL : Hid (a0.length ≤ 2000) := by have h1 := ats_len Ls i; have := HLM.out; have := HLT.out; rw [HA0.out]; unfold Hid; omega
      clear h4 hat2
      go_upto_region 7 with (fail)
      go_wp2_with (at_builtin; refine wst_int rfl (.tmp 18) (.tmp 21) rfl (HST.out.ext (ext_alloc _ _)) rfl T0.length wr.heap.size rfl (heap_at _ _ rfl) (by have := HAL.out; omega) at2 HAT1.out ?_)
      intro R2 rc2 wr2 hst2
      have HST2 := zHd hst2
      clear hst2 d4n
      have hs64 : U64 0 := ⟨by omega⟩
      have HS64 := zHd hs64
      clear hs64
      have HFL : Hid ((form 0).length ≤ 10 ∧ (bytesForm (p.1.key.drop 0)).length ≤ 60 ∧ (form qn).length ≤ 10 ∧ (form kn).length ≤ 10 ∧ (bytesForm p.1.val).length ≤ 65600) := by
       have h1 := HMAY.out
       refine ⟨form_len64 HS64.out, ?_, form_len64 HUQ.out, form_len64 HUK.out, ?_⟩
       · have h2 := (bytesForm_len (l := p.1.key.drop 0) ⟨by rw [List.length_drop]; omega⟩).1
         rw [List.length_drop] at h2; omega
       · have h2 := (bytesForm_len HU.out.2.2.2).1; omega
      go_wp2_with fail
      refine (rnumber_any 0 HS64.out _).mono ?_
      intro x v2 hN
      obtain ⟨NA2, nc2, rfl, hbs, hx⟩ := hN.out
      have HBS2 := zHd hbs
      have HSX2 := zHd (HST2.out.ext hx)
      clear hN hbs hx
      obtain ⟨T2, hT2⟩ : ∃ T, T = T0 ++ form 0 := ⟨_, rfl⟩
      have HT2 := zHd hT2
      have HTL2 : Hid (T2.length = T0.length + (form 0).length) := by rw [hT2]; exact List.length_append ..
      clear hT2
      go_wp2_with (at_builtin; refine wst_add rfl (.tmp 35) (.tmp 38) rfl HSX2.out rfl _ _ _ (form 0) rfl HBS2.out (form_pos _) (by have := HUL.out; have := HFL.out; omega) T2 HT2.out ?_)
      intro B2 c2x u2 hst
      have HST3 := zHd hst
      clear hst
      obtain ⟨d0, d1, d2, d3⟩ := (HE.out.below HST3.out.x HHI.out).get HP.out
      obtain ⟨A2, hA2, hA2n, hrun⟩ := tail_run p.2.kA p.1.key.length p.2.kc 0 (Nat.zero_le _) (by obtain ⟨_, _, e1, h1, _⟩ := (HE.out.each p (List.mem_of_getElem? HP.out)).k; injection e1 with _ _ e3; rw [e3]; exact h1)
      have hrun' : ∀ w, (Instr.slice 22 (.slice p.2.kA p.1.key.length p.2.kc) (some (.int .i64 (0 : Int))) none none).run Tryz.prog w = .ok (.slice A2 (p.1.key.length - 0) (p.2.kc - 0)) w := hrun
      have HKB : Hid (∀ u, Ext w u → Bs u lo hi (.slice A2 (p.1.key.length - 0) (p.2.kc - 0)) (p.1.key.drop 0)) := fun u hu => by
       obtain ⟨A', c', e1, h1, h2, h3, h4⟩ := ((HE.out.below hu HHI.out).each p (List.mem_of_getElem? HP.out)).k
       injection e1 with e1 e2 e3
       subst e1 e3
       exact ⟨A2, _, by rw [List.length_drop], by rw [List.length_drop]; omega, by omega, fun h => by have := h3 (hA2n h); omega, hA2 p.1.key rfl _ _ _ h4⟩
      clear hA2 hA2n hrun
      go_wp2_with fail
      refine (rbytes_any _ lo hi (p.1.key.drop 0) _ (HKB.out _ HST3.out.x) (zNt HHI.out HST3.out.x.size) (by have := HMAY.out; rw [List.length_drop]; omega)).mono ?_
      intro x v3 hN
      obtain ⟨NA3, nc3, rfl, hbs, hx⟩ := hN.out
      have HBS3 := zHd hbs
      have HSX3 := zHd (HST3.out.ext hx)
      clear hN hbs hx
      clear hrun' d0 d1 d2 d3
      obtain ⟨T3, hT3⟩ : ∃ T, T = T2 ++ bytesForm (p.1.key.drop 0) := ⟨_, rfl⟩
      have HT3 := zHd hT3
      have HTL3 : Hid (T3.length = T2.length + (bytesForm (p.1.key.drop 0)).length) := by rw [hT3]; exact List.length_append ..
      clear hT3
      go_wp2_with (at_builtin; refine wst_add rfl (.tmp 40) (.tmp 48) rfl HSX3.out rfl _ _ _ (bytesForm (p.1.key.drop 0)) rfl HBS3.out (bytesForm_pos _) (by have := HUL.out; have := HFL.out; have := HTL2.out; omega) T3 HT3.out ?_)
      intro B3 c3x u3 hst
      have HST4 := zHd hst
      clear hst
      obtain ⟨d0, d1, d2, d3⟩ := (HE.out.below HST4.out.x HHI.out).get HP.out
      rw [HQN.out] at d1
      have hq : IntKind.u64.wrap (qn : Int) = (qn : Int) := by have := HMAY.out; have := HQT.out; rw [IntKind.wrap_u64]; omega
      go_wp2_with fail
      refine (rnumber_any qn HUQ.out _).mono ?_
      intro x v4 hN
      obtain ⟨NA4, nc4, rfl, hbs, hx⟩ := hN.out
      have HBS4 := zHd hbs
      have HSX4 := zHd (HST4.out.ext hx)
      clear hN hbs hx
      clear hq d0 d1 d2 d3
      obtain ⟨T4, hT4⟩ : ∃ T, T = T3 ++ form qn := ⟨_, rfl⟩
      have HT4 := zHd hT4
      have HTL4 : Hid (T4.length = T3.length + (form qn).length) := by rw [hT4]; exact List.length_append ..
      clear hT4
      go_wp2_with (at_builtin; refine wst_add rfl (.tmp 50) (.tmp 57) rfl HSX4.out rfl _ _ _ (form qn) rfl HBS4.out (form_pos _) (by have := HUL.out; have := HFL.out; have := HTL2.out; have := HTL3.out; omega) T4 HT4.out ?_)
      intro B4 c4x u4 hst
      have HST5 := zHd hst
      clear hst
      obtain ⟨d0, d1, d2, d3⟩ := (HE.out.below HST5.out.x HHI.out).get HP.out
      rw [HKN.out] at d2
      have hq : IntKind.u64.wrap (kn : Int) = (kn : Int) := by have := HMAY.out; have := HKT.out; rw [IntKind.wrap_u64]; omega
      go_wp2_with fail
      refine (rnumber_any kn HUK.out _).mono ?_
      intro x v5 hN
      obtain ⟨NA5, nc5, rfl, hbs, hx⟩ := hN.out
      have HBS5 := zHd hbs
      have HSX5 := zHd (HST5.out.ext hx)
      clear hN hbs hx
      clear hq d0 d1 d2 d3
      obtain ⟨T5, hT5⟩ : ∃ T, T = T4 ++ form kn := ⟨_, rfl⟩
      have HT5 := zHd hT5
      have HTL5 : Hid (T5.length = T4.length + (form kn).length) := by rw [hT5]; exact List.length_append ..
      clear hT5
      go_wp2_with (at_builtin; refine wst_add rfl (.tmp 59) (.tmp 66) rfl HSX5.out rfl _ _ _ (form kn) rfl HBS5.out (form_pos _) (by have := HUL.out; have := HFL.out; have := HTL2.out; have := HTL3.out; have := HTL4.out; omega) T5 HT5.out ?_)
      intro B5 c5x u5 hst
      have HST6 := zHd hst
      clear hst
      obtain ⟨d0, d1, d2, d3⟩ := (HE.out.below HST6.out.x HHI.out).get HP.out
      have HKF : Hid (∀ V, V = (if p.1.kind = 1 then bytesForm p.1.val else []) → upto Ls (i + 1) = T5 ++ V) := fun V hV => by
       rw [upto_succ, HPI.out, HT5.out, HT4.out, HT3.out, HT2.out, HT0.out, hV]
       unfold kform
       rw [HQT.out, HKT.out]
       rw [← HSV.out]
       simp only [List.append_assoc]
      by_cases hk1 : p.1.kind = 1
      · have dk : (p.1.kind == 1) = true := by rw [hk1]; rfl
        have HK1 := zHd hk1
        clear hk1
        go_wp2_with fail
        refine (rbytes_any _ lo hi p.1.val _ ((HE.out.below HST6.out.x HHI.out).each p (List.mem_of_getElem? HP.out)).v (zNt HHI.out HST6.out.x.size) (by have := HMAY.out; omega)).mono ?_
        intro x v6 hN
        obtain ⟨NA6, nc6, rfl, hbs, hx⟩ := hN.out
        have HBS6 := zHd hbs
        have HSX6 := zHd (HST6.out.ext hx)
        clear hN hbs hx
        clear dk d0 d1 d2 d3
        obtain ⟨T6, hT6⟩ : ∃ T, T = T5 ++ bytesForm p.1.val := ⟨_, rfl⟩
        have HT6 := zHd hT6
        have HTL6 : Hid (T6.length = T5.length + (bytesForm p.1.val).length) := by rw [hT6]; exact List.length_append ..
        clear hT6
        go_wp2_with (at_builtin; refine wst_add rfl (.tmp 74) (.tmp 80) rfl HSX6.out rfl _ _ _ (bytesForm p.1.val) rfl HBS6.out (bytesForm_pos _) (by have := HUL.out; have := HFL.out; have := HTL2.out; have := HTL3.out; have := HTL4.out; have := HTL5.out; omega) T6 HT6.out ?_)
        intro B6 c6x u6 hst
        have HST7 := zHd hst
        clear hst
        go_wp2_with fail
        go_roundw
        case rel =>
         have e1 : upto Ls (i + 1) = T6 := by rw [HT6.out]; exact HKF.out _ (by rw [if_pos HK1.out])
         exact ⟨i + 1, _, _, _, _, HLT.out, by rw [wrap_succ (by have := HLT.out; have := HLM.out; omega)], by rw [e1], by rw [HAT2.out], by rw [e1, HAT2.out]; exact HST7⟩
        case measure =>
         rw [wrap_succ (by have := HLT.out; have := HLM.out; omega)]
         have := HLT.out
         simp [intOf]; omega
      · have dk : (p.1.kind == 1) = false := by simpa using hk1
        have HK1 := zHd hk1
        clear hk1
        go_wp2_with fail
        go_roundw
        case rel =>
         have e1 : upto Ls (i + 1) = T5 := by have := HKF.out [] (by rw [if_neg HK1.out]); rw [List.append_nil] at this; exact this
         exact ⟨i + 1, _, _, _, _, HLT.out, by rw [wrap_succ (by have := HLT.out; have := HLM.out; omega)], by rw [e1], by rw [HAT2.out], by rw [e1, HAT2.out]; exact HST6⟩
        case measure =>
         rw [wrap_succ (by have := HLT.out; have := HLM.out; omega)]
         have := HLT.out
         simp [intOf]; omega
    · have d4n : ((i : Int) % 4 == 0) = false := by rw [beq_eq_false_iff_ne]; omega
      obtain ⟨m, him⟩ : ∃ m, m + 1 = i := ⟨i - 1, by omega⟩
      have HIM := zHd him
      obtain ⟨at2, hat2⟩ : ∃ at2, at2 = a0 := ⟨_, rfl⟩
      have HAT2 : Hid (ats Ls (i + 1) = at2) := by rw [hat2, HA0.out]; exact ats_miss Ls h4
      rw [← hat2] at HST ⊢
      have hml : m < L.length := by have := HLT.out; omega
      obtain ⟨q, hq⟩ : ∃ q, L[m]? = some q := ⟨_, List.getElem?_eq_getElem hml⟩
      have HQ := zHd hq
      obtain ⟨s, hs⟩ : ∃ s, s = shr q.1.key p.1.key := ⟨_, rfl⟩
      have HSV : Hid (s = shr (ahOf Ls i) p.1.key) := by
       have e : ahOf Ls i = q.1.key := by
        unfold ahOf
        rw [if_neg h4, HLS.out, List.getElem?_map]
        have e2 : i - 1 = m := by omega
        rw [e2, hq]; rfl
       rw [e]; exact hs
      have HSL : Hid (s ≤ p.1.key.length ∧ s ≤ 32) := by have h1 := shr_le_r q.1.key p.1.key; have := HMAY.out; rw [← hs] at h1; exact ⟨h1, by omega⟩
      have HSH : Hid (∀ u, Ext wr u → Calls Tryz.prog 85 #[.slice q.2.kA q.1.key.length q.2.kc, .slice p.2.kA p.1.key.length p.2.kc] u fun e w' => e = .returned (.int .i64 (s : Int)) ∧ Ext u w') := fun u hu => by
       have hE := HE.out.below (zEt HST.out.x hu) HHI.out
       have hle := zNt HHI.out (zEt HST.out.x hu).size
       have := HMAY.out
       have h2 := mayN_iff.1 (HMM.out q (List.mem_of_getElem? HQ.out))
       rw [hs]
       exact rshared_any (hE.each q (List.mem_of_getElem? HQ.out)).k (hE.each p (List.mem_of_getElem? HP.out)).k hle hle (by omega) (by omega)
      obtain ⟨c0, c1, c2, c3⟩ := (HE.out.below HST.out.x HHI.out).get hq
      obtain ⟨d0, d1, d2, d3⟩ := (HE.out.below HST.out.x HHI.out).get HP.out
      have hw : IntKind.i64.wrap ((i : Int) - 1) = (m : Int) := by have := HLT.out; have := HLM.out; rw [IntKind.wrap_i64]; omega
      have HW := zHd hw
      have m1 : (0 : Int) ≤ (m : Int) := Int.natCast_nonneg _
      have m2 : (m : Int) < (L.length : Int) := Int.ofNat_lt.2 hml
      clear h4 hat2 him hml hq hs hw
      go_upto_region 9 with (fail)
      refine flow (by kernel_rfl) [Is (.slice (some ⟨b, o, none⟩) L.length c), Is (.int .i64 (i : Int)), Is (.int .i64 (m : Int)), Is (.pointer (some ⟨b, o + m * 4, none⟩)), Is (.pointer (some ⟨b, o + m * 4, none⟩)), Is (.slice q.2.kA q.1.key.length q.2.kc), Is (.slice (some ⟨b, o, none⟩) L.length c), Is (.int .i64 (i : Int)), Is (.pointer (some ⟨b, o + i * 4, none⟩)), Is (.pointer (some ⟨b, o + i * 4, none⟩)), Is (.slice p.2.kA p.1.key.length p.2.kc), Is (.int .i64 (s : Int)), Is (.int .i64 (s : Int))] (by kernel_rfl) (by kernel_rfl) ?mono (fun f1 => ?obl) ?fin
      case mono =>
       simp only [List.forall_mem_cons, List.not_mem_nil, false_imp_iff, implies_true, and_true]
       and_intros <;> exact .is _
      case fin =>
       intro g1 u hu hg
       simp only [puts, Act.put, zq]
       have e11 : g1 11 = _ := hg 11 (by decide)
       have e12 : g1 12 = _ := hg 12 (by decide)
       rw [e12]
       have HST2 := zHd (HST.out.ext (zEt (Ext.drew wr) hu))
       clear hg hu e11 e12 c0 c1 c2 c3 d0 d1 d2 d3 d4n
       have hs64 : U64 s := ⟨by have := HSL.out; omega⟩
       have HS64 := zHd hs64
       clear hs64
       have HFL : Hid ((form s).length ≤ 10 ∧ (bytesForm (p.1.key.drop s)).length ≤ 60 ∧ (form qn).length ≤ 10 ∧ (form kn).length ≤ 10 ∧ (bytesForm p.1.val).length ≤ 65600) := by
        have h1 := HMAY.out
        refine ⟨form_len64 HS64.out, ?_, form_len64 HUQ.out, form_len64 HUK.out, ?_⟩
        · have h2 := (bytesForm_len (l := p.1.key.drop s) ⟨by rw [List.length_drop]; omega⟩).1
          rw [List.length_drop] at h2; omega
        · have h2 := (bytesForm_len HU.out.2.2.2).1; omega
       have hqs : IntKind.u64.wrap (s : Int) = (s : Int) := by have := HSL.out; rw [IntKind.wrap_u64]; omega
       go_wp2_with fail
       refine (rnumber_any s HS64.out _).mono ?_
       intro x v2 hN
       obtain ⟨NA2, nc2, rfl, hbs, hx⟩ := hN.out
       have HBS2 := zHd hbs
       have HSX2 := zHd (HST2.out.ext hx)
       clear hN hbs hx
       clear hqs
       obtain ⟨T2, hT2⟩ : ∃ T, T = T0 ++ form s := ⟨_, rfl⟩
       have HT2 := zHd hT2
       have HTL2 : Hid (T2.length = T0.length + (form s).length) := by rw [hT2]; exact List.length_append ..
       clear hT2
       go_wp2_with (at_builtin; refine wst_add rfl (.tmp 35) (.tmp 38) rfl HSX2.out rfl _ _ _ (form s) rfl HBS2.out (form_pos _) (by have := HUL.out; have := HFL.out; omega) T2 HT2.out ?_)
       intro B2 c2x u2 hst
       have HST3 := zHd hst
       clear hst
       obtain ⟨d0, d1, d2, d3⟩ := (HE.out.below HST3.out.x HHI.out).get HP.out
       obtain ⟨A2, hA2, hA2n, hrun⟩ := tail_run p.2.kA p.1.key.length p.2.kc s HSL.out.1 (by obtain ⟨_, _, e1, h1, _⟩ := (HE.out.each p (List.mem_of_getElem? HP.out)).k; injection e1 with _ _ e3; rw [e3]; exact h1)
       have hrun' : ∀ w, (Instr.slice 22 (.slice p.2.kA p.1.key.length p.2.kc) (some (.int .i64 (s : Int))) none none).run Tryz.prog w = .ok (.slice A2 (p.1.key.length - s) (p.2.kc - s)) w := hrun
       have HKB : Hid (∀ u, Ext w u → Bs u lo hi (.slice A2 (p.1.key.length - s) (p.2.kc - s)) (p.1.key.drop s)) := fun u hu => by
        obtain ⟨A', c', e1, h1, h2, h3, h4⟩ := ((HE.out.below hu HHI.out).each p (List.mem_of_getElem? HP.out)).k
        injection e1 with e1 e2 e3
        subst e1 e3
        exact ⟨A2, _, by rw [List.length_drop], by rw [List.length_drop]; omega, by omega, fun h => by have := h3 (hA2n h); omega, hA2 p.1.key rfl _ _ _ h4⟩
       clear hA2 hA2n hrun
       go_wp2_with fail
       refine (rbytes_any _ lo hi (p.1.key.drop s) _ (HKB.out _ HST3.out.x) (zNt HHI.out HST3.out.x.size) (by have := HMAY.out; rw [List.length_drop]; omega)).mono ?_
       intro x v3 hN
       obtain ⟨NA3, nc3, rfl, hbs, hx⟩ := hN.out
       have HBS3 := zHd hbs
       have HSX3 := zHd (HST3.out.ext hx)
       clear hN hbs hx
       clear hrun' d0 d1 d2 d3
       obtain ⟨T3, hT3⟩ : ∃ T, T = T2 ++ bytesForm (p.1.key.drop s) := ⟨_, rfl⟩
       have HT3 := zHd hT3
       have HTL3 : Hid (T3.length = T2.length + (bytesForm (p.1.key.drop s)).length) := by rw [hT3]; exact List.length_append ..
       clear hT3
       go_wp2_with (at_builtin; refine wst_add rfl (.tmp 40) (.tmp 48) rfl HSX3.out rfl _ _ _ (bytesForm (p.1.key.drop s)) rfl HBS3.out (bytesForm_pos _) (by have := HUL.out; have := HFL.out; have := HTL2.out; omega) T3 HT3.out ?_)
       intro B3 c3x u3 hst
       have HST4 := zHd hst
       clear hst
       obtain ⟨d0, d1, d2, d3⟩ := (HE.out.below HST4.out.x HHI.out).get HP.out
       rw [HQN.out] at d1
       have hq : IntKind.u64.wrap (qn : Int) = (qn : Int) := by have := HMAY.out; have := HQT.out; rw [IntKind.wrap_u64]; omega
       go_wp2_with fail
       refine (rnumber_any qn HUQ.out _).mono ?_
       intro x v4 hN
       obtain ⟨NA4, nc4, rfl, hbs, hx⟩ := hN.out
       have HBS4 := zHd hbs
       have HSX4 := zHd (HST4.out.ext hx)
       clear hN hbs hx
       clear hq d0 d1 d2 d3
       obtain ⟨T4, hT4⟩ : ∃ T, T = T3 ++ form qn := ⟨_, rfl⟩
       have HT4 := zHd hT4
       have HTL4 : Hid (T4.length = T3.length + (form qn).length) := by rw [hT4]; exact List.length_append ..
       clear hT4
       go_wp2_with (at_builtin; refine wst_add rfl (.tmp 50) (.tmp 57) rfl HSX4.out rfl _ _ _ (form qn) rfl HBS4.out (form_pos _) (by have := HUL.out; have := HFL.out; have := HTL2.out; have := HTL3.out; omega) T4 HT4.out ?_)
       intro B4 c4x u4 hst
       have HST5 := zHd hst
       clear hst
       obtain ⟨d0, d1, d2, d3⟩ := (HE.out.below HST5.out.x HHI.out).get HP.out
       rw [HKN.out] at d2
       have hq : IntKind.u64.wrap (kn : Int) = (kn : Int) := by have := HMAY.out; have := HKT.out; rw [IntKind.wrap_u64]; omega
       go_wp2_with fail
       refine (rnumber_any kn HUK.out _).mono ?_
       intro x v5 hN
       obtain ⟨NA5, nc5, rfl, hbs, hx⟩ := hN.out
       have HBS5 := zHd hbs
       have HSX5 := zHd (HST5.out.ext hx)
       clear hN hbs hx
       clear hq d0 d1 d2 d3
       obtain ⟨T5, hT5⟩ : ∃ T, T = T4 ++ form kn := ⟨_, rfl⟩
       have HT5 := zHd hT5
       have HTL5 : Hid (T5.length = T4.length + (form kn).length) := by rw [hT5]; exact List.length_append ..
       clear hT5
       go_wp2_with (at_builtin; refine wst_add rfl (.tmp 59) (.tmp 66) rfl HSX5.out rfl _ _ _ (form kn) rfl HBS5.out (form_pos _) (by have := HUL.out; have := HFL.out; have := HTL2.out; have := HTL3.out; have := HTL4.out; omega) T5 HT5.out ?_)
       intro B5 c5x u5 hst
       have HST6 := zHd hst
       clear hst
       obtain ⟨d0, d1, d2, d3⟩ := (HE.out.below HST6.out.x HHI.out).get HP.out
       have HKF : Hid (∀ V, V = (if p.1.kind = 1 then bytesForm p.1.val else []) → upto Ls (i + 1) = T5 ++ V) := fun V hV => by
        rw [upto_succ, HPI.out, HT5.out, HT4.out, HT3.out, HT2.out, HT0.out, hV]
        unfold kform
        rw [HQT.out, HKT.out]
        rw [← HSV.out]
        simp only [List.append_assoc]
       by_cases hk1 : p.1.kind = 1
       · have dk : (p.1.kind == 1) = true := by rw [hk1]; rfl
         have HK1 := zHd hk1
         clear hk1
         go_wp2_with fail
         refine (rbytes_any _ lo hi p.1.val _ ((HE.out.below HST6.out.x HHI.out).each p (List.mem_of_getElem? HP.out)).v (zNt HHI.out HST6.out.x.size) (by have := HMAY.out; omega)).mono ?_
         intro x v6 hN
         obtain ⟨NA6, nc6, rfl, hbs, hx⟩ := hN.out
         have HBS6 := zHd hbs
         have HSX6 := zHd (HST6.out.ext hx)
         clear hN hbs hx
         clear dk d0 d1 d2 d3
         obtain ⟨T6, hT6⟩ : ∃ T, T = T5 ++ bytesForm p.1.val := ⟨_, rfl⟩
         have HT6 := zHd hT6
         have HTL6 : Hid (T6.length = T5.length + (bytesForm p.1.val).length) := by rw [hT6]; exact List.length_append ..
         clear hT6
         go_wp2_with (at_builtin; refine wst_add rfl (.tmp 74) (.tmp 80) rfl HSX6.out rfl _ _ _ (bytesForm p.1.val) rfl HBS6.out (bytesForm_pos _) (by have := HUL.out; have := HFL.out; have := HTL2.out; have := HTL3.out; have := HTL4.out; have := HTL5.out; omega) T6 HT6.out ?_)
         intro B6 c6x u6 hst
         have HST7 := zHd hst
         clear hst
         go_wp2_with fail
         go_roundw
         case rel =>
          have e1 : upto Ls (i + 1) = T6 := by rw [HT6.out]; exact HKF.out _ (by rw [if_pos HK1.out])
          exact ⟨i + 1, _, _, _, _, HLT.out, by rw [wrap_succ (by have := HLT.out; have := HLM.out; omega)], by rw [e1], by rw [HAT2.out], by rw [e1, HAT2.out]; exact HST7⟩
         case measure =>
          rw [wrap_succ (by have := HLT.out; have := HLM.out; omega)]
          have := HLT.out
          simp [intOf]; omega
       · have dk : (p.1.kind == 1) = false := by simpa using hk1
         have HK1 := zHd hk1
         clear hk1
         go_wp2_with fail
         go_roundw
         case rel =>
          have e1 : upto Ls (i + 1) = T5 := by have := HKF.out [] (by rw [if_neg HK1.out]); rw [List.append_nil] at this; exact this
          exact ⟨i + 1, _, _, _, _, HLT.out, by rw [wrap_succ (by have := HLT.out; have := HLM.out; omega)], by rw [e1], by rw [HAT2.out], by rw [e1, HAT2.out]; exact HST6⟩
         case measure =>
          rw [wrap_succ (by have := HLT.out; have := HLM.out; omega)]
          have := HLT.out
          simp [intOf]; omega
      case obl =>
       refine ⟨fun u hu hd => ?_, fun u hu hd => ?_, fun u hu hd => ?_, fun u hu hd => ?_, fun u hu hd => ?_, fun u hu hd => ?_, fun u hu hd => ?_, fun u hu hd => ?_, fun u hu hd => ?_, fun u hu hd => ?_, fun u hu hd => ?_, fun u hu hd => ?_, fun u hu hd => ?_, trivial⟩
       all_goals try simp only [Act.put, zq]
       · go_simp
         exact zEr
       · go_simp
         exact zEr
       · have e1 : f1 1 = _ := hd 1 (by kernel_rfl)
         go_simp
         first | exact zEr | (rw [HW.out]; exact zEr) | exact ⟨Ext.refl _, by rw [HW.out]⟩ | exact ⟨Ext.refl _, by rw [HW.out]; rfl⟩
       · have e0 : f1 0 = _ := hd 0 (by kernel_rfl)
         have e2 : f1 2 = _ := hd 2 (by kernel_rfl)
         go_simp
         exact zEr
       · have e3 : f1 3 = _ := hd 3 (by kernel_rfl)
         go_simp
         exact zEr
       · have e4 : f1 4 = _ := hd 4 (by kernel_rfl)
         have hu2 := zEt (Ext.drew wr) hu
         have q0 := ext_cell hu2 c0
         go_simp
         exact zEr
       · go_simp
         exact zEr
       · go_simp
         exact zEr
       · have e6 : f1 6 = _ := hd 6 (by kernel_rfl)
         have e7 : f1 7 = _ := hd 7 (by kernel_rfl)
         go_simp
         exact zEr
       · have e8 : f1 8 = _ := hd 8 (by kernel_rfl)
         go_simp
         exact zEr
       · have e9 : f1 9 = _ := hd 9 (by kernel_rfl)
         have hu2 := zEt (Ext.drew wr) hu
         have q0 := ext_cell hu2 d0
         go_simp
         exact zEr
       · have e5 : f1 5 = _ := hd 5 (by kernel_rfl)
         have e10 : f1 10 = _ := hd 10 (by kernel_rfl)
         have hu2 := zEt (Ext.drew wr) hu
         go_simp
         refine (HSH.out _ hu2).mono ?_
         rintro y w9 ⟨rfl, hx9⟩
         exact ⟨_, rfl, hx9, rfl⟩
       · have e11 : f1 11 = _ := hd 11 (by kernel_rfl)
         go_simp
         exact zEr
  · have hir : i = L.length := by omega
    have d : decide ((i : Int) < (L.length : Int)) = false := by rw [decide_eq_false_iff_not]; exact fun h => hlt (Int.ofNat_lt.1 h)
    have dn : decide (i < L.length) = false := by rw [decide_eq_false_iff_not]; exact hlt
    have hil : i = Ls.length := by rw [HLL.out]; exact hir
    rw [hil] at HST ⊢
    obtain ⟨U, hU⟩ : ∃ U, U = upto Ls Ls.length := ⟨_, rfl⟩
    obtain ⟨R, hR⟩ : ∃ R, R = ats Ls Ls.length := ⟨_, rfl⟩
    have HLB : Hid (1 ≤ R.length ∧ R.length ≤ 1000 ∧ U.length ≤ 100000000) := by
     have h1 := ats_len Ls Ls.length
     have h2 := upto_le HM.out.2.2.2 Ls.length
     have h3 := HLL.out
     have h4 := HLM.out
     rw [hR, hU]
     unfold Hid; omega
    have HRB : Hid (∀ x ∈ R, x < 4294967296) := by rw [hR]; exact ats_lt HM.out.2.2.2 HM.out.2.1
    have HWR : Hid (_root_.Go.Proofs.YtkdidghfcfcpfaaGreat.wr Ls = U ++ (R.flatMap be4 ++ be4 R.length)) := by rw [hR, hU]; exact rfl
    have HRR := zHd hR
    have hdn : i = L.length := hir
    unfold RWriteAns
    rw [← hU, ← hR] at HST ⊢
    rw [HWR.out]
    clear hU hR hlt hi hil
    have hii : (Ls.length : Int) = (L.length : Int) := by rw [HLL.out]
    obtain ⟨rb, rfl⟩ : ∃ rb, RA = some ⟨rb, 0, none⟩ := by
     rcases HST.out.r.2 with ⟨h1, _⟩ | ⟨g, cap, cur, hv, _⟩
     · injection h1 with _ h2 _; have := HLB.out; omega
     · injection hv with h1 _ _; exact ⟨g, h1⟩
    rw [hir] at d dn
    have d2 : decide (((Ls.length : Nat) : Int) < (L.length : Int)) = false := by rw [hii]; simp
    have d2n : decide (Ls.length < L.length) = false := by rw [HLL.out]; simp
    clear hir hdn d dn hii
    go_wp2_with fail
    go_loopw [4, 8] (fun v x wr2 => ∃ (k : Nat) (BA : Option Addr) (bc : Nat), k ≤ R.length ∧ x = .int .i64 (k : Int) ∧ v = .slice BA (U ++ (R.take k).flatMap be4).length bc ∧ Hid (WSt w (U ++ (R.take k).flatMap be4) R BA bc (some ⟨rb, 0, none⟩) rc wr2))
     (fun _ x _ => R.length - (intOf x).toNat)
    case atStart => exact ⟨0, BA, bc, Nat.zero_le _, rfl, by simp, by simpa using HST⟩
    case round =>
     obtain ⟨k, BA, bc, hk, rfl, rfl, HST⟩ := hrel
     obtain ⟨T, hT⟩ : ∃ T, T = U ++ (R.take k).flatMap be4 := ⟨_, rfl⟩
     have HT := zHd hT
     rw [← hT] at HST ⊢
     clear hT
     by_cases hlt : k < R.length
     · have d : decide ((k : Int) < (R.length : Int)) = true := by rw [decide_eq_true_eq]; exact Int.ofNat_lt.2 hlt
       have dn : decide (k < R.length) = true := by rw [decide_eq_true_eq]; exact hlt
       have HLT := zHd hlt
       have n1 : (0 : Int) ≤ (k : Int) := by omega
       have n2 : (k : Int) < (R.length : Int) := Int.ofNat_lt.2 hlt
       obtain ⟨x, hx⟩ : ∃ x, R[k]? = some x := ⟨_, List.getElem?_eq_getElem hlt⟩
       have HXI := zHd hx
       have HX32 := zHd (HRB.out x (List.mem_of_getElem? hx))
       have c0 := HST.out.r.cells (g := rb) rfl k (.int .i64 (x : Int)) (by rw [iv, List.getElem?_map, hx]; rfl)
       rw [addr_add, Nat.zero_add] at c0
       obtain ⟨T2, hT2⟩ : ∃ T2, T2 = T ++ be4 x := ⟨_, rfl⟩
       have HT2 := zHd hT2
       have HT3 : Hid (T2 = U ++ (R.take (k + 1)).flatMap be4) := by
        rw [hT2, HT.out, List.take_succ_eq_append_getElem HLT.out, List.flatMap_append, List.append_assoc]
        have e : R[k]'HLT.out = x := by have h1 := HXI.out; rw [List.getElem?_eq_getElem HLT.out] at h1; injection h1
        rw [e]; simp [Hid]
       have HTL : Hid (T.length ≤ 200000000) := by
        have h1 := HLB.out.2
        have h3 := HLT.out
        rw [HT.out, List.length_append, flat4_len, List.length_take]
        unfold Hid; omega
       clear hlt hx hk hT2
       go_wp2_with fail
       refine (rword_any x HX32.out _).mono ?_
       rintro y v5 ⟨NA, nc, rfl, hbs, hx⟩
       have HBS := zHd hbs
       have HSX := zHd (HST.out.ext hx)
       clear hbs hx c0
       go_wp2_with (at_builtin; refine wst_add rfl (.tmp 88) (.tmp 93) rfl HSX.out rfl _ _ _ (be4 x) rfl HBS.out (by rw [be4_length]; omega) (by have := HTL.out; rw [be4_length]; omega) T2 HT2.out ?_)
       intro B6 c6 u6 hst
       have HST6 := zHd hst
       clear hst
       go_wp2_with fail
       go_roundw
       case rel => exact ⟨k + 1, B6, c6, HLT.out, by rw [wrap_succ (by have := HLT.out; have := HLB.out; omega)], by rw [HT3.out], by rw [← HT3.out]; exact HST6⟩
       case measure =>
        rw [wrap_succ (by have := HLT.out; have := HLB.out; omega)]
        have := HLT.out
        simp [intOf]; omega
     · have hir : k = R.length := by omega
       have d : decide ((k : Int) < (R.length : Int)) = false := by rw [decide_eq_false_iff_not]; exact fun h => hlt (Int.ofNat_lt.1 h)
       have dn : decide (k < R.length) = false := by rw [decide_eq_false_iff_not]; exact hlt
       have HTF : Hid (T = U ++ R.flatMap be4) := by rw [HT.out, hir, List.take_length]; exact rfl
       obtain ⟨T2, hT2⟩ : ∃ T2, T2 = T ++ be4 R.length := ⟨_, rfl⟩
       have HT2 := zHd hT2
       have HTE : Hid (U ++ (R.flatMap be4 ++ be4 R.length) = T2) := by rw [hT2, HTF.out, List.append_assoc]; exact rfl
       have HTL : Hid (T.length ≤ 200000000) := by
        have h1 := HLB.out.2
        rw [HTF.out, List.length_append, flat4_len]
        unfold Hid; omega
       clear hlt hk hir hT2
       go_wp2_with fail
       refine (rword_any R.length (by have := HLB.out; omega) _).mono ?_
       rintro y v5 ⟨NA, nc, rfl, hbs, hx⟩
       have HBS := zHd hbs
       have HSX := zHd (HST.out.ext hx)
       clear hbs hx
       go_wp2_with (at_builtin; refine wst_add rfl (.tmp 95) (.tmp 98) rfl HSX.out rfl _ _ _ (be4 R.length) rfl HBS.out (by rw [be4_length]; omega) (by have := HTL.out; rw [be4_length]; omega) T2 HT2.out ?_)
       intro B6 c6 u6 hst
       have HST6 := zHd hst
       clear hst
       go_wp2_with fail
       refine bodyPost_ret (results_tmp2 rfl _ _ _) rfl ?_
       unfold RWriteAns
       rw [HWR.out, HTE.out, ← HRR.out]
       exact ⟨B6, c6, _, _, rfl, HST6.out⟩
theorem eclone_run {u : World} {lo hi : Nat} {A : Option Addr} {c : Nat} {L : List (Ent × Hd)} (h : Sl u lo hi A (erow L)) (hnil : A = none → c = 0 ∧ L = []) (hl : L.length ≤ 1000000000000) :
    ∃ v w, (Builtin.append_ #[28, 28] 28 #[.slice none 0 0, .slice A L.length c]).run Tryz.prog u = .ok v w ∧ Ext u w ∧ w.ownsRow u.heap.size 50 4 v L.length (erow L) := by
 obtain ⟨i0, hi0, ix0, ix1, ix2⟩ := info_parts einfo
 rcases A with _ | ad
 · obtain ⟨rfl, rfl⟩ := hnil rfl
   refine ⟨.slice none 0 0, u, ?_, Ext.refl _, World.ownsRow_nil _ _ _ _⟩
   simp [Builtin.append_, run_underlying Tryz.underlying28, sizeOf, typeInfo, hi0, Builtin.lenOf, Builtin.firstCells]
 · obtain ⟨v', w', hr, ho, hg, _⟩ := run_append_own (P := Tryz.prog) u u.heap.size 28 28 50 i0 _ 4 64 Tryz.underlying28 hi0 ix0 ix1 ix2 rfl (by decide) (.slice none 0 0) 0 [] (World.ownsRow_nil _ _ _ _) ad L.length c (erow L) (erow_length L) (fun j q hj => by
       rcases h with hby | ⟨b, o, he2, _, _, hc⟩
       · rw [hby] at hj; simp at hj
       · rw [Option.some.inj he2, addr_add]
         exact hc j q hj) (erow_one L) (by unfold maxLen; omega) (by omega) (zNr _)
   refine ⟨v', w', hr, (Below.refl _ _).grown hg (zNr _) (fun k hk => by cases hk), ?_⟩
   simpa using ho
theorem eclone_obl {o : Oper} {a : Act} {x : Operand} {X : Prop} {u : World} {lo hi d : Nat} {A : Option Addr} {c : Nat} {L : List (Ent × Hd)} {R : Value → World → Prop} (ho : o.op = .call { callee := .builtin .append, args := #[.const (.slice none 0 0), x], argTypes := #[28, 28] })
    (ht : o.type = 28) (hd : o.dst = some d) (hx : a.eval x = .slice A L.length c) (hb : Sl u lo hi A (erow L)) (hnil : A = none → c = 0 ∧ L = []) (hl : L.length ≤ 1000000000000) (hR : ∀ v w, Ext u w → w.ownsRow u.heap.size 50 4 v L.length (erow L) → R v w) {Z : Prop} [Decidable Z] (hZ : Z) :
    if Z then GivesR Tryz.prog ((execOp a.eval o).run Tryz.prog u) (fun v u' => Ext u u' ∧ R (kept o v) u') else X := by
 rw [if_pos hZ]
 obtain ⟨v, w, hr, h1, h2⟩ := eclone_run hb hnil hl
 have h0 : (execOp a.eval o).run Tryz.prog u = .ok (.value v) w := by
  have hc : a.eval (.const (.slice none 0 0)) = .slice none 0 0 := rfl
  unfold execOp
  simp only [ho, ht, resolve, invoke, builtin, Sem.run_bind, Sem.run_pure, Result.andThen_ok, List.map_toArray, List.map_cons, List.map_nil, hc, hx, hr]
 rw [h0]
 have hk : kept o v = v := by unfold kept; rw [hd]
 show Ext u w ∧ R (kept o v) w
 rw [hk]
 exact ⟨h1, hR _ _ h1 h2⟩
theorem wpList_pushe {ops : Array Oper} {rest : List Oper} {o : Oper} {a : Act} {Q : Exit → Act → World → Prop} {u : World} (hgd : o.guard = none) (s x : Operand)
    (ho : o.op = .call { callee := .builtin .append, args := #[s, x], argTypes := #[28, 28] }) (B : Nat) (v : Value) (R : List (Ent × Hd)) (hs : a.eval s = v) (hown : u.ownsRow B 50 4 v R.length (erow R))
    (p : Ent × Hd) (gb : Nat) (hx : a.eval x = .slice (some ⟨gb, 0, none⟩) 1 1) (hblk : u.heap[gb]? = some (.cells (ecells p).toArray 50 (0, 0))) (hlen : R.length ≤ 1000000000000) (hB : B ≤ u.heap.size)
    (h : ∀ A' c' w', w'.ownsRow B 50 4 (.slice A' (R.length + 1) c') (R.length + 1) (erow (R ++ [p])) → u.grownBy w' v.ownBlock → wpList Tryz.prog ops Q rest (a.put o.dst (.slice A' (R.length + 1) c')) w') :
    wpList Tryz.prog ops Q (o :: rest) a u := by
 obtain ⟨i0, hi0', ix0, ix1, ix2⟩ := info_parts einfo
 refine wpList_append_own _ hgd s x 28 ho B 50 i0 _ 4 64 Tryz.underlying28 hi0' ix0 ix1 ix2 rfl (by decide) v R.length (erow R) hs hown ⟨gb, 0, none⟩ 1 1 (ecells p) hx rfl (fun j q hj => ?n1) (fun q hq => ?n2) ?n3 ?n4 hB (fun v' w5 ho hgr _ => ?rest)
 case n1 => rw [addr_add, Nat.zero_add]; exact cell_of hblk (by simpa using hj)
 case n2 => exact erow_one [p] q (by simpa [erow] using hq)
 case n3 => unfold maxLen; omega
 case n4 => omega
 case rest =>
  obtain ⟨A', c', rfl⟩ := rowN_slice ho
  exact h A' c' w5 (by rw [erow_append]; simpa [erow] using ho) hgr
theorem erowsinfo : (Tryz.prog.info? 28).map (fun i => (i.zero, i.size, i.bytes)) = some (some (.slice none 0 0), 1, 24) := by kernel_rfl
theorem erow_sl {B : Nat} {A : Option Addr} {c : Nat} {R : List (Ent × Hd)} {w : World} (h : w.ownsRow B 50 4 (.slice A R.length c) R.length (erow R)) : Sl w 0 w.heap.size A (erow R) ∧ R.length ≤ c ∧ (A = none → c = 0 ∧ R = []) := by
 rcases h.2 with ⟨he, hx⟩ | ⟨g, cap, cur, hv, hg, hh, _, hcs⟩
 · injection he with e1 e2 e3
   have : R = [] := List.eq_nil_of_length_eq_zero e2
   subst this; subst e1; subst e3
   exact ⟨Sl.nil _ _ _ _, zNr _, fun _ => ⟨rfl, rfl⟩⟩
 · injection hv with e1 e2 e3
   subst e1 e3
   refine ⟨.inr ⟨g, 0, rfl, Nat.zero_le _, (zAg.1 hh).1, fun i u hu => ?_⟩, by omega, fun e => by cases e⟩
   have := h.cells (g := g) rfl i u hu
   rwa [addr_add] at this
def CutRow (B : Nat) (v : Value) (C : List (List (Ent × Hd))) (w : World) : Prop :=
 ∃ vs : List Value, w.ownsRow B 28 1 v C.length vs ∧ ∀ (i : Nat) (q : List (Ent × Hd)), C[i]? = some q → ∃ (A : Option Addr) (c : Nat), vs[i]? = some (.slice A q.length c) ∧ w.ownsRow B 50 4 (.slice A q.length c) q.length (erow q)
theorem CutRow.nil (B : Nat) (w : World) : CutRow B (.slice none 0 0) [] w := ⟨[], World.ownsRow_nil _ _ _ _, fun i q h => by simp at h⟩
theorem CutRow.ext {B : Nat} {v : Value} {C : List (List (Ent × Hd))} {w w' : World} (h : CutRow B v C w) (hx : Ext w w') : CutRow B v C w' := by
 obtain ⟨vs, h1, h2⟩ := h
 refine ⟨vs, rowN_kept h1 fun g hg => hx.block g (rowN_lt h1 g hg).2.1, fun i q hq => ?_⟩
 obtain ⟨A, c, h3, h4⟩ := h2 i q hq
 exact ⟨A, c, h3, rowN_kept h4 fun g hg => hx.block g (rowN_lt h4 g hg).2.1⟩
structure CutTo (L : List (Ent × Hd)) (k : Nat) (C : List (List (Ent × Hd))) (l : List (Ent × Hd)) : Prop where
 cat : C.flatten ++ l = L.take k
 cuts : Cuts (C.map (·.map Prod.fst))
 piece : l ≠ [] → Piece (l.map Prod.fst)
 none : l = [] → C = [] ∧ k = 0
 link : ∀ p, (C.map (·.map Prod.fst)).getLast? = some p → ∃ e q', l.map Prod.fst = e :: q' ∧ Link p e
theorem CutTo.zero (L : List (Ent × Hd)) : CutTo L 0 [] [] := ⟨rfl, trivial, fun h => absurd rfl h, fun _ => ⟨rfl, rfl⟩, fun p h => by simp at h⟩
theorem CutTo.first {L : List (Ent × Hd)} {p : Ent × Hd} (h : L[0]? = some p) : CutTo L 1 [] [p] := by
 refine ⟨?_, trivial, fun _ => ⟨by simp, fun m h1 h2 => by simp at h2; omega⟩, fun h => by simp at h, fun p h => by simp at h⟩
 rw [List.take_add_one, h]; rfl
theorem CutTo.more {L : List (Ent × Hd)} {k : Nat} {C : List (List (Ent × Hd))} {l : List (Ent × Hd)} {p : Ent × Hd} (h : CutTo L k C l) (hl : l ≠ []) (hp : L[k]? = some p) (hw : (wr ((l ++ [p]).map Prod.fst)).length ≤ 512) : CutTo L (k + 1) C (l ++ [p]) := by
 refine ⟨?_, h.cuts, fun _ => ⟨by simp, fun m h1 h2 => ?_⟩, fun h => by simp at h, fun q hq => ?_⟩
 · rw [← List.append_assoc, h.cat, List.take_add_one, hp]; rfl
 · rw [List.length_map, List.length_append, List.length_singleton] at h2
   rcases Nat.lt_or_ge m l.length with h3 | h3
   · have h4 := (h.piece hl).2 m h1 (by rw [List.length_map]; exact h3)
     rw [List.map_append, List.take_append_of_le_length (by rw [List.length_map]; omega)]
     exact h4
   · rw [List.take_of_length_le (by simp; omega)]; exact hw
 · obtain ⟨e, q', h1, h2⟩ := h.link q hq
   exact ⟨e, q' ++ [p.1], by rw [List.map_append, h1]; rfl, h2⟩
theorem CutTo.next {L : List (Ent × Hd)} {k : Nat} {C : List (List (Ent × Hd))} {l : List (Ent × Hd)} {p : Ent × Hd} (h : CutTo L k C l) (hl : l ≠ []) (hp : L[k]? = some p) (hw : 512 < (wr ((l ++ [p]).map Prod.fst)).length) : CutTo L (k + 1) (C ++ [l]) [p] := by
 refine ⟨?_, ?_, fun _ => ⟨by simp, fun m h1 h2 => by simp at h2; omega⟩, fun h => by simp at h, fun q hq => ?_⟩
 · rw [List.flatten_append, List.take_add_one, hp, ← h.cat]; simp
 · rw [List.map_append]
   exact cuts_snoc h.cuts (h.piece hl) h.link
 · rw [List.map_append] at hq
   simp at hq
   subst hq
   refine ⟨p.1, [], rfl, ?_⟩
   unfold Link
   rw [List.map_append] at hw
   exact hw
theorem CutTo.ends {L : List (Ent × Hd)} {C : List (List (Ent × Hd))} {l : List (Ent × Hd)} (h : CutTo L L.length C l) (h0 : 1 ≤ L.length) : (C ++ [l]).flatten = L ∧ Cuts ((C ++ [l]).map (·.map Prod.fst)) := by
 have hl : l ≠ [] := fun e => by have := (h.none e).2; omega
 refine ⟨?_, ?_⟩
 · rw [List.flatten_append]
   have h1 := h.cat
   rw [List.take_length] at h1
   simpa using h1
 · rw [List.map_append]
   exact cuts_snoc h.cuts (h.piece hl) h.link
theorem CutTo.mayB {L : List (Ent × Hd)} {k : Nat} {C : List (List (Ent × Hd))} {l : List (Ent × Hd)} {p : Ent × Hd} (h : CutTo L k C l) (hm : MayT (L.map Prod.fst)) (hl : l ≠ []) (hp : L[k]? = some p) : MayB ((l ++ [p]).map Prod.fst) ∧ l.length ≤ 128 := by
 have hsub : l ++ [p] = (L.take (k + 1)).drop C.flatten.length := by
  rw [List.take_add_one, hp, ← h.cat, List.append_assoc, List.drop_left]; rfl
 have hmem : ∀ x ∈ l ++ [p], x ∈ L := fun x hx => by
  rw [hsub] at hx
  exact List.mem_of_mem_take (List.mem_of_mem_drop hx)
 have hmay : ∀ e ∈ (l ++ [p]).map Prod.fst, e.may = true := fun e he => by
  obtain ⟨x, hx, rfl⟩ := List.mem_map.1 he
  exact hm.2.2.2 _ (List.mem_map_of_mem (hmem x hx))
 have hfew := piece_few (h.piece hl) (fun e he => hmay e (by rw [List.map_append]; exact List.mem_append_left _ he))
 rw [List.length_map] at hfew
 refine ⟨⟨by simp, by simp; omega, ?_, hmay⟩, hfew⟩
 intro j a b ha hb
 have hg : ∀ i x, ((l ++ [p]).map Prod.fst)[i]? = some x → (L.map Prod.fst)[C.flatten.length + i]? = some x := fun i x hx => by
  rw [hsub, List.getElem?_map, List.getElem?_drop, List.getElem?_take] at hx
  split at hx
  · rw [List.getElem?_map]; exact hx
  · simp at hx
 exact hm.2.2.1 (C.flatten.length + j) a b (hg j a ha) (hg (j + 1) b hb)
theorem CutTo.mem {L : List (Ent × Hd)} {k : Nat} {C : List (List (Ent × Hd))} {l : List (Ent × Hd)} {p : Ent × Hd} (h : CutTo L k C l) (hp : L[k]? = some p) : ∀ q ∈ l ++ [p], q ∈ L := by
 intro q hq
 rcases List.mem_append.1 hq with h1 | h1
 · have h2 : q ∈ C.flatten ++ l := List.mem_append_right _ h1
   rw [h.cat] at h2
   exact List.mem_of_mem_take h2
 · rw [List.mem_singleton.1 h1]; exact List.mem_of_getElem? hp
theorem cuts_ne : ∀ {C : List (List Ent)}, Cuts C → ∀ p ∈ C, p ≠ []
 | [], _, _, hp => by cases hp
 | q :: C, h, p, hp => by
  rcases List.mem_cons.1 hp with rfl | h1
  · exact h.1.1
  · exact cuts_ne h.2.2 p h1
theorem flat_len {α : Type} : ∀ (C : List (List α)), (∀ p ∈ C, p ≠ []) → C.length ≤ C.flatten.length
 | [], _ => Nat.zero_le _
 | p :: C, h => by
  have h1 := flat_len C fun q hq => h q (List.mem_cons_of_mem _ hq)
  have h2 := List.length_pos_iff.2 (h p List.mem_cons_self)
  simp only [List.flatten_cons, List.length_append, List.length_cons]; omega
theorem CutTo.few {L : List (Ent × Hd)} {k : Nat} {C : List (List (Ent × Hd))} {l : List (Ent × Hd)} (h : CutTo L k C l) : C.length ≤ L.length := by
 have h1 := flat_len C fun p hp e => cuts_ne h.cuts (p.map Prod.fst) (List.mem_map_of_mem hp) (by rw [e]; rfl)
 have h2 := congrArg List.length h.cat
 rw [List.length_append, List.length_take] at h2
 omega
theorem own_apartN {w : World} {B B' s s' n n' : Nat} {e e' : TypeId} {v v' : Value} {xs xs' : List Value} (h : w.ownsRow B e s v n xs) (k : w.ownsRow B' e' s' v' n' xs') (hne : e ≠ e') : ∀ g, v.ownBlock = some g → some g ≠ v'.ownBlock := own_apart h k hne
theorem CutRow.push {B : Nat} {v : Value} {C : List (List (Ent × Hd))} {w w' : World} {o : Obj} {vs : List Value} {A' lA : Option Addr} {c' lc : Nat} {l : List (Ent × Hd)} (h1 : w.ownsRow B 28 1 v C.length vs)
    (h2 : ∀ (i : Nat) (q : List (Ent × Hd)), C[i]? = some q → ∃ (A : Option Addr) (c : Nat), vs[i]? = some (.slice A q.length c) ∧ w.ownsRow B 50 4 (.slice A q.length c) q.length (erow q))
    (hl : w.ownsRow B 50 4 (.slice lA l.length lc) l.length (erow l)) (ho : w'.ownsRow B 28 1 (.slice A' (C.length + 1) c') (C.length + 1) (vs ++ [.slice lA l.length lc])) (hg : (w.alloc o).grownBy w' v.ownBlock) :
    CutRow B (.slice A' (C.length + 1) c') (C ++ [l]) w' := by
 have hk : ∀ {A : Option Addr} {c : Nat} {q : List (Ent × Hd)}, w.ownsRow B 50 4 (.slice A q.length c) q.length (erow q) → w'.ownsRow B 50 4 (.slice A q.length c) q.length (erow q) := fun hr => by
  refine rowN_kept hr fun g hv => ?_
  have hlt := (rowN_lt hr g hv).2.1
  rw [hg.block g (by simp; omega) (own_apartN hr h1 (by decide) g hv)]
  exact Below.heap_alloc _ _ _ hlt
 have hn : vs.length = C.length := by simpa using h1.1
 refine ⟨vs ++ [.slice lA l.length lc], by rw [List.length_append]; exact ho, fun i q hq => ?_⟩
 rcases Nat.lt_or_ge i C.length with hi | hi
 · rw [List.getElem?_append_left hi] at hq
   obtain ⟨A, c, h3, h4⟩ := h2 i q hq
   exact ⟨A, c, by rw [List.getElem?_append_left (by omega)]; exact h3, hk h4⟩
 · rw [List.getElem?_append_right hi] at hq
   rcases h9 : i - C.length with _ | j
   · rw [h9] at hq
     simp at hq
     subst hq
     exact ⟨lA, lc, by rw [List.getElem?_append_right (by omega), hn, h9]; rfl, hk hl⟩
   · rw [h9] at hq; simp at hq
def RowV (B : Nat) (l : List (Ent × Hd)) (v : Value) (u : World) : Prop := u.ownsRow B 50 4 v l.length (erow l)
theorem RowV.mono (B : Nat) (l : List (Ent × Hd)) : Mono (RowV B l) := fun _ _ _ h hx => rowN_kept h fun g hg => hx.block g (rowN_lt h g hg).2.1
def OneV (p : Ent × Hd) (v : Value) (u : World) : Prop := ∃ gb, v = .slice (some ⟨gb, 0, none⟩) 1 1 ∧ u.heap[gb]? = some (.cells (ecells p).toArray 50 (0, 0))
theorem OneV.mono (p : Ent × Hd) : Mono (OneV p) := fun _ _ _ ⟨gb, h, hb⟩ hx => ⟨gb, h, ext_heap hx hb⟩
def RCutAns (w : World) (L : List (Ent × Hd)) (x : Ending) (w' : World) : Prop :=
 Ext w w' ∧ ∃ (C : List (List (Ent × Hd))) (X : Option Addr) (d : Nat), x = .returned (.slice X C.length d) ∧ C.flatten = L ∧ Cuts (C.map (·.map Prod.fst)) ∧ CutRow w.heap.size (.slice X C.length d) C w'
set_option maxRecDepth 100000 in
set_option maxHeartbeats 8000000 in
theorem rtcut_any {w : World} {lo hi c : Nat} {A : Option Addr} {L : List (Ent × Hd)} (h : Es w lo hi A L) (hhi : hi ≤ w.heap.size) (hm : MayT (L.map Prod.fst)) :
    Calls Tryz.prog 14 #[.slice A L.length c] w (RCutAns w L) := by
 have HE := zHd h
 have HHI := zHd hhi
 have HM := zHd hm
 have HLEN : Hid (1 ≤ L.length ∧ L.length ≤ 4096) := by have h1 := hm.1; have h2 := hm.2.1; rw [List.length_map] at h1 h2; exact ⟨h1, h2⟩
 obtain ⟨b, o, rfl⟩ := h.base (by have := HLEN.out; omega)
 have hll : (L.length : Int) ≤ 4096 := by have := HLEN.out; omega
 obtain ⟨i2, hi2, z1, z2, z3⟩ := info_parts erowsinfo
 have HI2 := zHd hi2
 clear h hhi hm hi2
 go_enter Tryz.func14, Tryz.ntmps14
 go_wp2_with fail
 go_loopw [3, 4, 5] (fun ov lv iv wq => ∃ (k : Nat) (C : List (List (Ent × Hd))) (l : List (Ent × Hd)) (lA : Option Addr) (lc : Nat) (oA : Option Addr) (oc : Nat), k ≤ L.length ∧ iv = .int .i64 (k : Int) ∧ lv = .slice lA l.length lc ∧ ov = .slice oA C.length oc ∧ Hid (CutTo L k C l) ∧ Hid (wq.ownsRow w.heap.size 50 4 (.slice lA l.length lc) l.length (erow l)) ∧ Hid (CutRow w.heap.size (.slice oA C.length oc) C wq) ∧ Hid (Ext w wq))
  (fun _ _ iv _ => L.length - (intOf iv).toNat)
 case atStart => exact ⟨0, [], [], none, 0, none, 0, Nat.zero_le _, rfl, rfl, rfl, CutTo.zero L, World.ownsRow_nil _ _ _ _, CutRow.nil _ _, Ext.refl _⟩
 case round =>
  rename World => wq
  obtain ⟨k, C, l, lA, lc, oA, oc, hk, rfl, rfl, rfl, HCT, HLO, HCR, HXR⟩ := hrel
  by_cases hlt : k < L.length
  · have d : decide ((k : Int) < (L.length : Int)) = true := decide_eq_true (by omega)
    have dn : decide (k < L.length) = true := decide_eq_true hlt
    obtain ⟨p, hp⟩ : ∃ p, L[k]? = some p := ⟨_, List.getElem?_eq_getElem hlt⟩
    have HP := zHd hp
    obtain ⟨c0, c1, c2, c3⟩ := (HE.out.below HXR.out HHI.out).get hp
    have n1 : (0 : Int) ≤ (k : Int) := Int.natCast_nonneg _
    have n2 : (k : Int) < (L.length : Int) := Int.ofNat_lt.2 hlt
    have HLL : Hid (l.length ≤ 4096) := by
     have h1 := congrArg List.length HCT.out.cat
     rw [List.length_append, List.length_take] at h1
     have := HLEN.out
     unfold Hid; omega
    have HLT := zHd hlt
    clear hp hk hlt
    go_upto_region 6 with (fail)
    refine flow_tail (by kernel_rfl) [Is (.slice lA l.length lc), RowV wq.heap.size l, Is (.slice (some ⟨b, o, none⟩) L.length c), Is (.int .i64 (k : Int)), Is (.pointer (some ⟨b, o + k * 4, none⟩)), Is (.agg #[.slice p.2.kA p.1.key.length p.2.kc, .int .i64 p.1.seq, .int .i64 p.1.kind, .slice p.2.vA p.1.val.length p.2.vc]), OneV p] 7 (by kernel_rfl) (by kernel_rfl) (by kernel_rfl) (by kernel_rfl) ?mono (fun f1 => ?obl) ?fin
    case mono =>
     simp only [List.forall_mem_cons, List.not_mem_nil, false_imp_iff, implies_true, and_true]
     exact ⟨.is _, RowV.mono _ _, .is _, .is _, .is _, .is _, OneV.mono _⟩
    case fin =>
     intro g1 u hu hg
     simp only [List.take_succ_cons, List.take_zero, List.drop_succ_cons, List.drop_zero, puts, Act.put, zq]
     obtain hrv := (show RowV wq.heap.size l (g1 1) u from hg 1 (by decide))
     obtain ⟨gb, h6, hgb⟩ := (show OneV p (g1 6) u from hg 6 (by decide))
     have HXU : Hid (Ext wq u) := zEt (Ext.drew wq) hu
     have HRV : Hid (u.ownsRow wq.heap.size 50 4 (g1 1) l.length (erow l)) := hrv
     have HGB := zHd hgb
     rw [h6]
     generalize g1 1 = y1 at HRV ⊢
     clear hrv h6 hgb hg hu c0 c1 c2 c3
     refine wpList_pushe rfl (.tmp 16) (.tmp 21) rfl wq.heap.size y1 l rfl HRV.out p gb rfl HGB.out (by have := HLL.out; omega) HXU.out.size (fun A7 c7 w7 ho7 hg7 => ?_)
     have HX7 : Hid (Ext wq w7) := HXU.out.grown hg7 HXU.out.size (fun g hg => (rowN_lt HRV.out g hg).1)
     have HLN : Hid (w7.ownsRow wq.heap.size 50 4 (.slice A7 (l.length + 1) c7) (l.length + 1) (erow (l ++ [p]))) := ho7
     clear ho7 hg7 HGB HRV HXU
     have hn8 : (l ++ [p]).length = l.length + 1 := by simp
     by_cases hl0 : l = []
     · have HL0 := zHd hl0
       have e1 : decide ((l.length : Int) > 0) = false := decide_eq_false (by rw [hl0]; decide)
       have e1' : decide (0 < l.length) = false := decide_eq_false (by rw [hl0]; decide)
       clear hl0
       go_wp2_with fail
       go_roundw
       case rel =>
        obtain ⟨hC, hk0⟩ := HCT.out.none HL0.out
        refine ⟨k + 1, C, l ++ [p], A7, c7, oA, oc, HLT.out, by go_num, by rw [hn8], rfl, ?_, ?_, HCR.out.ext HX7.out, zEt HXR.out HX7.out⟩
        · rw [hC, HL0.out, hk0]; exact CutTo.first (by rw [← hk0]; exact HP.out)
        · rw [hn8]; exact rowN_base HLN.out HXR.out.size
       case measure => have := HLT.out; simp [intOf]; omega
     · have HL0 := zHd hl0
       have e1 : decide ((l.length : Int) > 0) = true := decide_eq_true (by have := List.length_pos_iff.2 hl0; omega)
       have e1' : decide (0 < l.length) = true := decide_eq_true (List.length_pos_iff.2 hl0)
       obtain ⟨hmb, hl128⟩ := HCT.out.mayB HM.out hl0 HP.out
       have HMB := zHd hmb
       have HL128 := zHd hl128
       clear hl0 hmb hl128
       have HE7 : Hid (Es w7 0 w7.heap.size A7 (l ++ [p])) := by
        have h9 := HLN.out
        rw [← hn8] at h9
        refine ⟨(erow_sl h9).1, fun q hq => ?_⟩
        have hqL : q ∈ L := HCT.out.mem HP.out q hq
        exact (((HE.out.below HXR.out HHI.out).below HX7.out (zNt HHI.out HXR.out.size)).each q hqL).wide (Nat.zero_le _) (zNt HHI.out (zNt HXR.out.size HX7.out.size))
       obtain ⟨Ls1, hLs1⟩ : ∃ Ls1, Ls1 = (l ++ [p]).map Prod.fst := ⟨_, rfl⟩
       have HLS1 := zHd hLs1
       have HW7 := zHd (rwrite_any (c := c7) HE7.out (zNr _) HMB.out)
       rw [List.length_append, List.length_singleton, ← hLs1] at HW7
       clear hLs1
       go_wp2_with fail
       refine HW7.out.mono ?_
       rintro x w8 ⟨VA, vc, RA, rc, rfl, hst⟩
       have HX78 : Hid (Ext w7 w8) := hst.x
       have HX8 : Hid (Ext wq w8) := zEt HX7.out hst.x
       obtain ⟨n8, hn8⟩ : ∃ n8, n8 = (wr Ls1).length := ⟨_, rfl⟩
       rw [← hn8]
       have HN8 : Hid (n8 = (wr ((l ++ [p]).map Prod.fst)).length) := by rw [← HLS1.out]; exact hn8
       clear hst HW7 hn8
       by_cases hw : n8 ≤ 512
       · have HW := zHd hw
         have e2 : decide ((512 : Int) < (n8 : Int)) = false := decide_eq_false (by omega)
         have e2' : decide (512 < n8) = false := decide_eq_false (by omega)
         clear hw
         go_wp2_with fail
         go_roundw
         case rel =>
          refine ⟨k + 1, C, l ++ [p], A7, c7, oA, oc, HLT.out, by go_num, by rw [hn8], rfl, ?_, ?_, HCR.out.ext HX8.out, zEt HXR.out HX8.out⟩
          · exact HCT.out.more HL0.out HP.out (by rw [← HN8.out]; exact HW.out)
          · rw [hn8]; exact rowN_base (rowN_kept HLN.out fun g hg => HX78.out.block g (rowN_lt HLN.out g hg).2.1) HXR.out.size
         case measure => have := HLT.out; simp [intOf]; omega
       · have HW := zHd (Nat.lt_of_not_le hw)
         have e2 : decide ((512 : Int) < (n8 : Int)) = true := decide_eq_true (by omega)
         have e2' : decide (512 < n8) = true := decide_eq_true (by omega)
         clear hw
         obtain ⟨vs, hv1, hv2⟩ := HCR.out.ext HX8.out
         have HV1 := zHd hv1
         have HV2 := zHd hv2
         clear hv1 hv2
         have HLO8 : Hid (w8.ownsRow w.heap.size 50 4 (.slice lA l.length lc) l.length (erow l)) := rowN_kept HLO.out fun g hg => HX8.out.block g (rowN_lt HLO.out g hg).2.1
         have HCL := zHd HCT.out.few
         go_wp2_with (at_builtin; refine wpList_pushrow rfl (.tmp 34) (.tmp 36) 37 rfl w.heap.size 28 i2 (.slice none 0 0) 24 Tryz.underlying37 HI2.out z1 z2 z3 rfl _ _ _ rfl HV1.out _ rfl _ rfl rfl ?k4 ?k5 (zNt HXR.out.size HX8.out.size) ?_)
         case k4 => unfold maxLen; have := HCL.out; omega
         case k5 => have := HCL.out; omega
         intro A9 c9 w9 ho9 hg9
         have HX9 : Hid (Ext w w9) := Below.trans (zEt HXR.out HX8.out) (grown_belowR hg9 (fun g hg => (row_lt HV1.out g hg).1) (zNt HXR.out.size HX8.out.size))
         have HCR9 : Hid (CutRow w.heap.size (.slice A9 (C.length + 1) c9) (C ++ [l]) w9) := CutRow.push HV1.out HV2.out HLO8.out ho9 hg9
         clear ho9 hg9
         obtain ⟨c0, c1, c2, c3⟩ := (HE.out.below HX9.out HHI.out).get HP.out
         go_wp2_with fail
         go_roundw
         case rel =>
          refine ⟨k + 1, C ++ [l], [p], some ⟨w9.heap.size, 0, none⟩, 1, A9, c9, HLT.out, by go_num, rfl, by rw [List.length_append]; rfl, ?_, ?_, ?_, ?_⟩
          · exact HCT.out.next HL0.out HP.out (by rw [← HN8.out]; exact HW.out)
          · have h9 := World.ownsRow_lit (base := w.heap.size) (e := 50) (size := 4) w9 (ecells p).toArray 1 HX9.out.size (by unfold maxLen; omega) rfl
            show World.ownsRow _ _ _ _ _ _ _
            simpa [erow, ecells] using h9
          · rw [List.length_append]; exact HCR9.out.ext (ext_alloc _ _)
          · exact zEt HX9.out (ext_alloc _ _)
         case measure => have := HLT.out; simp [intOf]; omega
    case obl =>
     refine ⟨fun u hu hd => ?_, fun u hu hd => ?_, fun u hu hd => ?_, fun u hu hd => ?_, fun u hu hd => ?_, fun u hu hd => ?_, fun u hu hd => ?_, trivial⟩
     all_goals try simp only [Act.put, zq]
     · go_simp
       exact zEr
     · have e0 : f1 0 = _ := hd 0 (by kernel_rfl)
       have hu2 := zEt (Ext.drew wq) hu
       refine eclone_obl (x := .tmp 15) rfl rfl rfl (by exact e0) (erow_sl (rowN_kept HLO.out fun g hg => hu2.block g (rowN_lt HLO.out g hg).2.1)).1 (erow_sl HLO.out).2.2 (by have := HLL.out; omega) (fun v w9 hx9 hown => rowN_base hown hu2.size) (by kernel_rfl)
     · go_simp
       exact zEr
     · go_simp
       exact zEr
     · have e2 : f1 2 = _ := hd 2 (by kernel_rfl)
       have e3 : f1 3 = _ := hd 3 (by kernel_rfl)
       go_simp
       exact zEr
     · have e4 : f1 4 = _ := hd 4 (by kernel_rfl)
       have hu2 := zEt (Ext.drew wq) hu
       have q0 := ext_cell hu2 c0
       have q1 := ext_cell hu2 c1
       have q2 := ext_cell hu2 c2
       have q3 := ext_cell hu2 c3
       go_simp
       exact zEr
     · have e5 : f1 5 = _ := hd 5 (by kernel_rfl)
       go_simp
       exact ⟨ext_alloc _ _, _, rfl, heap_at _ _ rfl⟩
  · have hkL : k = L.length := Nat.le_antisymm hk (Nat.le_of_not_lt hlt)
    have d : decide ((k : Int) < (L.length : Int)) = false := decide_eq_false (by omega)
    have dn : decide (k < L.length) = false := decide_eq_false hlt
    have HKL := zHd hkL
    obtain ⟨vs, hv1, hv2⟩ := HCR.out
    have HV1 := zHd hv1
    have HV2 := zHd hv2
    have HCL := zHd HCT.out.few
    clear hk hlt hkL hv1 hv2
    go_wp2_with (at_builtin; refine wpList_pushrow rfl (.tmp 44) (.tmp 46) 37 rfl w.heap.size 28 i2 (.slice none 0 0) 24 Tryz.underlying37 HI2.out z1 z2 z3 rfl _ _ _ rfl HV1.out _ rfl _ rfl rfl ?k4 ?k5 HXR.out.size ?_)
    case k4 => unfold maxLen; have := HCL.out; omega
    case k5 => have := HCL.out; omega
    intro A9 c9 w9 ho9 hg9
    have HX9 : Hid (Ext w w9) := Below.trans HXR.out (grown_belowR hg9 (fun g hg => (row_lt HV1.out g hg).1) HXR.out.size)
    have HCR9 : Hid (CutRow w.heap.size (.slice A9 (C.length + 1) c9) (C ++ [l]) w9) := CutRow.push HV1.out HV2.out HLO.out ho9 hg9
    clear ho9 hg9
    go_wp2_with fail
    have he := (show CutTo L L.length C l by have := HCT.out; rw [HKL.out] at this; exact this).ends HLEN.out.1
    refine bodyPost_ret (results_tmp rfl _ _ _) rfl ?_
    refine ⟨HX9.out, C ++ [l], A9, c9, ?_, he.1, he.2, ?_⟩
    · rw [List.length_append]; rfl
    · rw [List.length_append]; exact HCR9.out
def inR (fr tt : List Nat) (en : Bool) (L : List (Ent × Hd)) : List (Ent × Hd) := L.filter fun p => hasV fr tt en p.1.key
theorem inR_map (fr tt : List Nat) (en : Bool) (L : List (Ent × Hd)) : (inR fr tt en L).map Prod.fst = inV fr tt en (L.map Prod.fst) := by
 unfold inR inV
 rw [List.filter_map]; rfl
theorem inR_succ {fr tt : List Nat} {en : Bool} {L : List (Ent × Hd)} {k : Nat} {p : Ent × Hd} (h : L[k]? = some p) : inR fr tt en (L.take (k + 1)) = inR fr tt en (L.take k) ++ if hasV fr tt en p.1.key then [p] else [] := by
 unfold inR
 rw [List.take_add_one, h, List.filter_append]
 congr 1
 simp [List.filter_cons]
theorem inR_len (fr tt : List Nat) (en : Bool) (L : List (Ent × Hd)) : (inR fr tt en L).length ≤ L.length := List.length_filter_le _ _
def REntsAns (w : World) (L : List (Ent × Hd)) (fr tt : List Nat) (en : Bool) (x : Ending) (w' : World) : Prop :=
 Ext w w' ∧ ∃ (A' : Option Addr) (c' : Nat), x = .returned (.slice A' (inR fr tt en L).length c') ∧ w'.ownsRow w.heap.size 50 4 (.slice A' (inR fr tt en L).length c') (inR fr tt en L).length (erow (inR fr tt en L))
set_option maxRecDepth 100000 in
set_option maxHeartbeats 8000000 in
theorem rtents_any {w : World} {lo hi lo2 hi2 lo3 hi3 c fc tc : Nat} {A fA tA : Option Addr} {L : List (Ent × Hd)} {fr tt : List Nat} {en : Bool} (h : Es w lo hi A L) (hhi : hi ≤ w.heap.size) (hlen : L.length ≤ 1000000) (hf : Bs w lo3 hi3 (.slice fA fr.length fc) fr) (hhi3 : hi3 ≤ w.heap.size) (bf : ∀ x ∈ fr, x < 256) (ht : Bs w lo2 hi2 (.slice tA tt.length tc) tt) (hhi2 : hi2 ≤ w.heap.size) (bt : ∀ x ∈ tt, x < 256) (l1 : fr.length ≤ 140737488351232) (l2 : tt.length ≤ 140737488351232) (l3 : ∀ p ∈ L, p.1.key.length ≤ 140737488351232) :
    Calls Tryz.prog 25 #[.agg #[.slice A L.length c, .slice fA fr.length fc, .slice tA tt.length tc, .bool en]] w (REntsAns w L fr tt en) := by
 obtain ⟨w1, hw1⟩ : ∃ w1, w1 = w.alloc (.cells #[.slice A L.length c, .slice fA fr.length fc, .slice tA tt.length tc, .bool en] 45) := ⟨_, rfl⟩
 have HX1 : Hid (Ext w w1) := by rw [hw1]; exact ext_alloc _ _
 have HB1 : Hid (w1.heap[w.heap.size]? = some (.cells #[.slice A L.length c, .slice fA fr.length fc, .slice tA tt.length tc, .bool en] 45 (0, 0))) := by rw [hw1]; exact heap_at _ _ rfl
 have HE := zHd (h.below HX1.out hhi)
 have HHI : Hid (hi ≤ w1.heap.size) := zNt hhi HX1.out.size
 have HL := zHd hlen
 have HHAS : Hid (∀ p ∈ L, ∀ u, Ext w1 u → Calls Tryz.prog 56 #[.agg #[.slice A L.length c, .slice fA fr.length fc, .slice tA tt.length tc, .bool en], .slice p.2.kA p.1.key.length p.2.kc] u fun x w' => x = .returned (.bool (hasV fr tt en p.1.key)) ∧ Ext u w') := fun p hp u hu => by
  have hwu : Ext w u := zEt HX1.out hu
  exact rthas_any (hf.below hwu hhi3) (zNt hhi3 hwu.size) bf (ht.below hwu hhi2) (zNt hhi2 hwu.size) bt ((h.each p hp).k.below hwu hhi) (zNt hhi hwu.size) (h.each p hp).bk l1 l2 (l3 p hp)
 have hlI : (L.length : Int) ≤ 1000000 := by omega
 clear h hhi hlen hf hhi3 bf ht hhi2 bt l1 l2 l3
 go_enter Tryz.func25, Tryz.ntmps25
 go_upto_region 1 with (fail)
 rw [← hw1]
 clear hw1
 go_wp2_with fail
 go_loopw [3, 4] (fun ev iv wq => ∃ (k : Nat) (A' : Option Addr) (c' : Nat), k ≤ L.length ∧ iv = .int .i64 (k : Int) ∧ ev = .slice A' (inR fr tt en (L.take k)).length c' ∧ Hid (wq.ownsRow w1.heap.size 50 4 (.slice A' (inR fr tt en (L.take k)).length c') (inR fr tt en (L.take k)).length (erow (inR fr tt en (L.take k)))) ∧ Hid (Ext w1 wq)) (fun _ iv _ => L.length - (intOf iv).toNat)
 case atStart => exact ⟨0, none, 0, Nat.zero_le _, rfl, by simp [inR], World.ownsRow_nil _ _ _ _, Ext.refl _⟩
 case round =>
  rename World => wq
  obtain ⟨k, A', c', hk, rfl, rfl, HRW, HX⟩ := hrel
  have v0 := cell_of (ext_heap HX.out HB1.out) (k := 0) rfl
  by_cases hlt : k < L.length
  rotate_left
  · have d : decide ((k : Int) < (L.length : Int)) = false := decide_eq_false (by omega)
    have dn : decide (k < L.length) = false := decide_eq_false hlt
    have hkn : L.take k = L := List.take_of_length_le (by omega)
    rw [hkn] at HRW ⊢
    clear hlt hk hkn
    go_wp2_with fail
    refine bodyPost_ret (results_tmp rfl _ _ _) rfl ?_
    exact ⟨zEt HX1.out HX.out, A', c', rfl, rowN_base HRW.out HX1.out.size⟩
  have d : decide ((k : Int) < (L.length : Int)) = true := decide_eq_true (by omega)
  have dn : decide (k < L.length) = true := decide_eq_true hlt
  have HLT := zHd hlt
  obtain ⟨b, o, hA⟩ := HE.out.base (by omega)
  subst hA
  obtain ⟨p, hp⟩ : ∃ p, L[k]? = some p := ⟨_, List.getElem?_eq_getElem hlt⟩
  have HP := zHd hp
  obtain ⟨c0, c1, c2, c3⟩ := (HE.out.below HX.out HHI.out).get hp
  have v1 := cell_of (ext_heap HX.out HB1.out) (k := 1) rfl
  have v2 := cell_of (ext_heap HX.out HB1.out) (k := 2) rfl
  have v3 := cell_of (ext_heap HX.out HB1.out) (k := 3) rfl
  have n1 : (0 : Int) ≤ (k : Int) := by omega
  have n2 : (k : Int) < (L.length : Int) := by omega
  have HRN : Hid ((inR fr tt en (L.take k)).length ≤ 1000000) := by
   have h1 := inR_len fr tt en (L.take k)
   rw [List.length_take] at h1
   have := HL.out
   unfold Hid; omega
  have HSU := zHd (inR_succ (fr := fr) (tt := tt) (en := en) hp)
  have HHP := zHd (HHAS.out p (List.mem_of_getElem? hp))
  obtain ⟨z, hz⟩ : ∃ z, z = hasV fr tt en p.1.key := ⟨_, rfl⟩
  rw [← hz] at HSU HHP
  obtain ⟨R, hR⟩ : ∃ R, R = inR fr tt en (L.take k) := ⟨_, rfl⟩
  rw [← hR] at HRW HRN HSU ⊢
  clear hp hlt hk hz hR
  go_upto_region 5 with (fail)
  refine flow (by kernel_rfl) [Is (.agg #[.slice (some ⟨b, o, none⟩) L.length c, .slice fA fr.length fc, .slice tA tt.length tc, .bool en]), Is (.pointer (some ⟨w.heap.size, 0, none⟩)), Is (.slice (some ⟨b, o, none⟩) L.length c), Is (.int .i64 (k : Int)), Is (.pointer (some ⟨b, o + k * 4, none⟩)), Is (.pointer (some ⟨b, o + k * 4, none⟩)), Is (.slice p.2.kA p.1.key.length p.2.kc), Is (.bool z)] (by kernel_rfl) (by kernel_rfl) ?mono (fun f1 => ?obl) ?fin
  case mono =>
   simp only [List.forall_mem_cons, List.not_mem_nil, false_imp_iff, implies_true, and_true]
   and_intros <;> exact .is _
  case fin =>
   intro g1 u hu hg
   simp only [puts, Act.put, zq]
   have e7 : g1 7 = _ := hg 7 (by decide)
   rw [e7]
   have HXU : Hid (Ext wq u) := zEt (Ext.drew wq) hu
   have HRU : Hid (u.ownsRow w1.heap.size 50 4 (.slice A' R.length c') R.length (erow R)) := rowN_kept HRW.out fun g hg => HXU.out.block g (rowN_lt HRW.out g hg).2.1
   have d0 := ext_cell HXU.out c0
   have d1 := ext_cell HXU.out c1
   have d2 := ext_cell HXU.out c2
   have d3 := ext_cell HXU.out c3
   have y0 := ext_cell HXU.out v0
   clear hg hu e7 c0 c1 c2 c3 v0 v1 v2 v3
   cases z with
   | false =>
    have hs : inR fr tt en (L.take (k + 1)) = R := by rw [HSU.out]; simp
    go_wp2_with fail
    go_roundw
    case rel => exact ⟨k + 1, A', c', HLT.out, by go_num, by rw [hs], by rw [hs]; exact HRU, zEt HX.out HXU.out⟩
    case measure => have := HLT.out; simp [intOf]; omega
   | true =>
    have hs : inR fr tt en (L.take (k + 1)) = R ++ [p] := by rw [HSU.out]; simp
    have HS := zHd hs
    obtain ⟨w2, hw2⟩ : ∃ w2, w2 = u.alloc (.cells #[.slice p.2.kA p.1.key.length p.2.kc, .int .i64 p.1.seq, .int .i64 p.1.kind, .slice p.2.vA p.1.val.length p.2.vc] 50) := ⟨_, rfl⟩
    have HX2 : Hid (Ext u w2) := by rw [hw2]; exact ext_alloc _ _
    have HG2 : Hid (w2.heap[u.heap.size]? = some (.cells (ecells p).toArray 50 (0, 0))) := by rw [hw2]; exact heap_at _ _ rfl
    have HO2 : Hid (w2.ownsRow w1.heap.size 50 4 (.slice A' R.length c') R.length (erow R)) := rowN_kept HRU.out fun g hg => HX2.out.block g (rowN_lt HRU.out g hg).2.1
    have HB2 : Hid (w1.heap.size ≤ w2.heap.size) := zNt HX.out.size (zNt HXU.out.size HX2.out.size)
    clear hs
    go_wp2_with (at_builtin; refine wpList_pushe rfl (.tmp 20) (.tmp 26) rfl w1.heap.size (.slice A' R.length c') R rfl (by rw [← hw2]; exact HO2.out) p u.heap.size rfl (by rw [← hw2]; exact HG2.out) (by have := HRN.out; omega) (by rw [← hw2]; exact HB2.out) ?_)
    rw [← hw2]
    intro A7 c7 w7 ho7 hg7
    have HX7 : Hid (Ext w1 w7) := Below.trans (zEt HX.out (zEt HXU.out HX2.out)) ((Below.refl _ _).grown hg7 HB2.out (fun g hg => (rowN_lt HO2.out g hg).1))
    have HO7 := zHd ho7
    clear ho7 hg7 hw2 d0 d1 d2 d3 y0
    go_wp2_with fail
    go_roundw
    case rel =>
     have e : (R ++ [p]).length = R.length + 1 := by simp
     exact ⟨k + 1, A7, c7, HLT.out, by go_num, by rw [HS.out, e], by rw [HS.out, e]; exact HO7, HX7⟩
    case measure => have := HLT.out; simp [intOf]; omega
  case obl =>
   refine ⟨fun u hu hd => ?_, fun u hu hd => ?_, fun u hu hd => ?_, fun u hu hd => ?_, fun u hu hd => ?_, fun u hu hd => ?_, fun u hu hd => ?_, fun u hu hd => ?_, trivial⟩
   all_goals try simp only [Act.put, zq]
   · have hu2 := zEt (Ext.drew wq) hu
     have q0 := ext_cell hu2 v0
     have q1 := ext_cell hu2 v1
     have q2 := ext_cell hu2 v2
     have q3 := ext_cell hu2 v3
     go_simp
     exact zEr
   · go_simp
     exact zEr
   · have e1 : f1 1 = _ := hd 1 (by kernel_rfl)
     have hu2 := zEt (Ext.drew wq) hu
     have q0 := ext_cell hu2 v0
     go_simp
     exact zEr
   · go_simp
     exact zEr
   · have e2 : f1 2 = _ := hd 2 (by kernel_rfl)
     have e3 : f1 3 = _ := hd 3 (by kernel_rfl)
     go_simp
     exact zEr
   · have e4 : f1 4 = _ := hd 4 (by kernel_rfl)
     go_simp
     exact zEr
   · have e5 : f1 5 = _ := hd 5 (by kernel_rfl)
     have hu2 := zEt (Ext.drew wq) hu
     have q0 := ext_cell hu2 c0
     go_simp
     exact zEr
   · have e0 : f1 0 = _ := hd 0 (by kernel_rfl)
     have e6 : f1 6 = _ := hd 6 (by kernel_rfl)
     have hu2 := zEt (Ext.drew wq) hu
     go_simp
     refine (HHP.out u (zEt HX.out hu2)).mono ?_
     rintro x9 w9 ⟨rfl, hx9⟩
     exact ⟨_, rfl, hx9, rfl⟩
end Go.Proofs.YtkdidghfcfcpfaaGreat
