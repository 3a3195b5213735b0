import Derived.Test.YtkdidghfcfcpfaaGreatMc7
import Derived.Test.YtkdidghfcfcpfaaGreatMc5
import Derived.Maps.AppendAt
import Derived.Test.YtkdidghfcfcpfaaGreatMc0
namespace Go.Proofs.YtkdidghfcfcpfaaGreat
open Go.ChangeShapes Go.WideShapes Go.ChangeAt Go.RowKit
structure WSt (w : World) (T at_ : List Nat) (BA : Option Addr) (bc : Nat) (RA : Option Addr) (rc : Nat) (u : World) : Prop where
 b : Own w.heap.size T (.slice BA T.length bc) u
 r : OwnI w.heap.size at_ (.slice RA at_.length rc) u
 x : Ext w u
theorem WSt.ext {w u u' : World} {T at_ : List Nat} {BA RA : Option Addr} {bc rc : Nat} (h : WSt w T at_ BA bc RA rc u) (hx : Ext u u') : WSt w T at_ BA bc RA rc u' :=
 ⟨h.b.below hx, h.r.wall fun g hg => hx.block g (row_lt h.r g hg).2, zEt h.x hx⟩
theorem wst_add {ops : Array Oper} {rest : List Oper} {o : Oper} {a : Act} {Q : Exit → Act → World → Prop} {u : World} (hgd : o.guard = none) (s x : Operand)
    (ho : o.op = .call { callee := .builtin .append, args := #[s, x], argTypes := #[22, 22] }) {w : World} {T at_ : List Nat} {BA RA : Option Addr} {bc rc : Nat} (hst : WSt w T at_ BA bc RA rc u) (hs : a.eval s = .slice BA T.length bc)
    (lo hi : Nat) (y : Value) (r : List Nat) (hx : a.eval x = y) (hy : Bs u lo hi y r) (hr : 0 < r.length) (hlen : T.length + r.length ≤ 1099511627776) (T' : List Nat) (hT : T' = T ++ r)
    (h : ∀ A' c' w', WSt w T' at_ A' c' RA rc w' → wpList Tryz.prog ops Q rest (a.put o.dst (.slice A' T'.length c')) w') :
    wpList Tryz.prog ops Q (o :: rest) a u := by
 subst hT
 refine wpList_addrow hgd s x ho w.heap.size _ T hs hst.b lo hi y r hx hy hr hlen hst.x.size fun A' c' w' hO hg => h A' c' w' ⟨hO, ?_, ?_⟩
 · exact hst.r.wall fun g hg' => hg.block g (row_lt hst.r g hg').2 (fun e => rows_apart hst.b hst.r (by decide) e.symm hg')
 · exact Below.grown hst.x hg hst.x.size (fun k hk => (row_lt hst.b k hk).1)
theorem wst_int {ops : Array Oper} {rest : List Oper} {o : Oper} {a : Act} {Q : Exit → Act → World → Prop} {u : World} (hgd : o.guard = none) (s x : Operand)
    (ho : o.op = .call { callee := .builtin .append, args := #[s, x], argTypes := #[79, 79] }) {w : World} {T at_ : List Nat} {BA RA : Option Addr} {bc rc : Nat} (hst : WSt w T at_ BA bc RA rc u) (hs : a.eval s = .slice RA at_.length rc)
    (n gb : Nat) (hx : a.eval x = .slice (some ⟨gb, 0, none⟩) 1 1) (hblk : u.heap[gb]? = some (.cells #[.int .i64 (n : Int)] 3 (0, 0))) (hlen : at_.length ≤ 1000000000000) (at2 : List Nat) (hT : at2 = at_ ++ [n])
    (h : ∀ A' c' w', WSt w T at2 BA bc A' c' w' → wpList Tryz.prog ops Q rest (a.put o.dst (.slice A' at2.length c')) w') :
    wpList Tryz.prog ops Q (o :: rest) a u := by
 subst hT
 refine wpList_pushint hgd s x ho w.heap.size _ at_ hs hst.r n gb hx hblk hlen hst.x.size fun A' c' w' hO hg => ?_
 have e : at_.length + 1 = (at_ ++ [n]).length := by simp
 rw [e] at hO ⊢
 refine h A' c' w' ⟨?_, hO, ?_⟩
 · exact hst.b.wall fun g hg' => hg.block g (row_lt hst.b g hg').2 (fun e => rows_apart hst.r hst.b (by decide) e.symm hg')
 · exact Below.grown hst.x hg hst.x.size (fun k hk => (row_lt hst.r k hk).1)
theorem NewBy.out {w : World} {l : List Nat} {e : Ending} {w' : World} (h : NewBy w l e w') : ∃ A c, e = .returned (.slice A l.length c) ∧ Bs w' 0 w'.heap.size (.slice A l.length c) l ∧ Ext w w' := by
 obtain ⟨v, rfl, ho, hb⟩ := h
 have ho' : Own w.heap.size l v w' := ho
 obtain ⟨A, c, rfl⟩ := ho'.slice
 exact ⟨A, c, rfl, ho'.bs, hb⟩
theorem bytesForm_pos (l : List Nat) : 0 < (bytesForm l).length := by
 unfold bytesForm; rw [List.length_append]; have := form_pos l.length; omega
def RWriteAns (w : World) (Ls : List Ent) (x : Ending) (w' : World) : Prop :=
 ∃ A c RA rc, x = .returned (.tuple #[.slice A (wr Ls).length c, .slice RA (ats Ls Ls.length).length rc]) ∧ WSt w (wr Ls) (ats Ls Ls.length) A c RA rc w'
set_option maxRecDepth 100000 in
set_option maxHeartbeats 16000000 in
theorem rwrite_any {w : World} {lo hi c : Nat} {A : Option Addr} {L : List (Ent × Hd)} (h : Es w lo hi A L) (hhi : hi ≤ w.heap.size) (hm : MayB (L.map Prod.fst)) :
    Calls Tryz.prog 46 #[.slice A L.length c] w (RWriteAns w (L.map Prod.fst)) := by
 have HE := zHd h
 have HHI := zHd hhi
 have HM := zHd hm
 have HLM : Hid (1 ≤ L.length ∧ L.length ≤ 1024) := by have h1 := hm.1; have h2 := hm.2.1; rw [List.length_map] at h1 h2; exact ⟨h1, h2⟩
 have HMM : Hid (∀ p ∈ L, p.1.may = true) := fun p hp => hm.2.2.2 _ (List.mem_map_of_mem hp)
 obtain ⟨Ls, hLs⟩ : ∃ Ls, Ls = L.map Prod.fst := ⟨_, rfl⟩
 have HLS := zHd hLs
 have HLL : Hid (Ls.length = L.length) := by rw [hLs]; exact List.length_map ..
 rw [← hLs] at HM ⊢
 obtain ⟨b, o, rfl⟩ := h.base (by have := HLM.out; omega)
 clear h hhi hm hLs
 go_enter Tryz.func46, Tryz.ntmps46
 go_wp2_with fail
 go_loopw [4, 5, 6, 7] (fun bv rv iv_ _ wr => ∃ (i : Nat) (BA RA : Option Addr) (bc rc : Nat), i ≤ L.length ∧ iv_ = .int .i64 (i : Int) ∧ bv = .slice BA (upto Ls i).length bc ∧ rv = .slice RA (ats Ls i).length rc ∧ Hid (WSt w (upto Ls i) (ats Ls i) BA bc RA rc wr))
  (fun _ _ x _ _ => L.length - (intOf x).toNat)
 case atStart => exact ⟨0, none, none, 0, 0, Nat.zero_le _, rfl, rfl, rfl, World.ownsRow_nil _ _ _ _, OwnI.nil _ _, Ext.refl _⟩
 case round =>
  obtain ⟨i, BA, RA, bc, rc, hi, rfl, rfl, rfl, HST⟩ := hrel
  by_cases hlt : i < L.length
  · have d : decide ((i : Int) < (L.length : Int)) = true := by rw [decide_eq_true_eq]; exact Int.ofNat_lt.2 hlt
    have dn : decide (i < L.length) = true := by rw [decide_eq_true_eq]; exact hlt
    obtain ⟨p, hp⟩ : ∃ p, L[i]? = some p := ⟨_, List.getElem?_eq_getElem hlt⟩
    have HP := zHd hp
    have HLT := zHd hlt
    have hmay := HMM.out p (List.mem_of_getElem? hp)
    have HU := zHd (Ent.may_u64 hmay)
    have HMAY := zHd (mayN_iff.1 hmay)
    have HUL : Hid ((upto Ls i).length ≤ 70000000) := by
     have h1 := upto_le HM.out.2.2.2 i
     have := HLM.out
     unfold Hid; omega
    have HPI : Hid (pieceOf Ls i = kform (ahOf Ls i) p.1) := piece_at (by rw [HLS.out, List.getElem?_map, hp]; rfl)
    have n1 : (0 : Int) ≤ (i : Int) := Int.natCast_nonneg _
    have n2 : (i : Int) < (L.length : Int) := Int.ofNat_lt.2 hlt
    obtain ⟨qn, hqn, hqt⟩ : ∃ n : Nat, p.1.seq = (n : Int) ∧ p.1.seq.toNat = n := ⟨p.1.seq.toNat, by have := HMAY.out; omega, rfl⟩
    obtain ⟨kn, hkn, hkt⟩ : ∃ n : Nat, p.1.kind = (n : Int) ∧ p.1.kind.toNat = n := ⟨p.1.kind.toNat, by have := HMAY.out; omega, rfl⟩
    have HQN := zHd hqn
    have HKN := zHd hkn
    have HQT := zHd hqt
    have HKT := zHd hkt
    have HUQ : Hid (U64 qn) := by have := HU.out.2.1; rw [hqt] at this; exact this
    have HUK : Hid (U64 kn) := by have := HU.out.2.2.1; rw [hkt] at this; exact this
    clear hlt hi hp hmay hqn hkn hqt hkt
    obtain ⟨T0, hT0⟩ : ∃ T0, T0 = upto Ls i := ⟨_, rfl⟩
    obtain ⟨a0, ha0⟩ : ∃ a0, a0 = ats Ls i := ⟨_, rfl⟩
    have HT0 := zHd hT0
    have HA0 := zHd ha0
    rw [← hT0, ← ha0] at HST ⊢
    rw [← hT0] at HUL
    clear hT0 ha0
    by_cases h4 : i % 4 = 0
    · have d4n : ((i : Int) % 4 == 0) = true := by rw [beq_iff_eq]; omega
      have HSV : Hid (0 = shr (ahOf Ls i) p.1.key) := by unfold ahOf; rw [if_pos h4, shr_nil]; exact rfl
      obtain ⟨at2, hat2⟩ : ∃ at2, at2 = a0 ++ [T0.length] := ⟨_, rfl⟩
      have HAT1 := zHd hat2
      have HAT2 : Hid (ats Ls (i + 1) = at2) := by rw [hat2, HA0.out, HT0.out]; exact ats_hit Ls h4
      have HAL : Hid (a0.length ≤ 2000) := by have h1 := ats_len Ls i; have := HLM.out; have := HLT.out; rw [HA0.out]; unfold Hid; omega
      clear h4 hat2
      go_upto_region 7 with (fail)
      go_wp2_with (at_builtin; refine wst_int rfl (.tmp 18) (.tmp 21) rfl (HST.out.ext (ext_alloc _ _)) rfl T0.length wr.heap.size rfl (heap_at _ _ rfl) (by have := HAL.out; omega) at2 HAT1.out ?_)
      intro R2 rc2 wr2 hst2
      have HST2 := zHd hst2
      clear hst2 d4n
      have hs64 : U64 0 := ⟨by omega⟩
      have HS64 := zHd hs64
      clear hs64
      have HFL : Hid ((form 0).length ≤ 10 ∧ (bytesForm (p.1.key.drop 0)).length ≤ 60 ∧ (form qn).length ≤ 10 ∧ (form kn).length ≤ 10 ∧ (bytesForm p.1.val).length ≤ 65600) := by
       have h1 := HMAY.out
       refine ⟨form_len64 HS64.out, ?_, form_len64 HUQ.out, form_len64 HUK.out, ?_⟩
       · have h2 := (bytesForm_len (l := p.1.key.drop 0) ⟨by rw [List.length_drop]; omega⟩).1
         rw [List.length_drop] at h2; omega
       · have h2 := (bytesForm_len HU.out.2.2.2).1; omega
      go_wp2_with fail
      refine (rnumber_any 0 HS64.out _).mono ?_
      intro x v2 hN
      obtain ⟨NA2, nc2, rfl, hbs, hx⟩ := hN.out
      have HBS2 := zHd hbs
      have HSX2 := zHd (HST2.out.ext hx)
      clear hN hbs hx
      obtain ⟨T2, hT2⟩ : ∃ T, T = T0 ++ form 0 := ⟨_, rfl⟩
      have HT2 := zHd hT2
      have HTL2 : Hid (T2.length = T0.length + (form 0).length) := by rw [hT2]; exact List.length_append ..
      clear hT2
      go_wp2_with (at_builtin; refine wst_add rfl (.tmp 35) (.tmp 38) rfl HSX2.out rfl _ _ _ (form 0) rfl HBS2.out (form_pos _) (by have := HUL.out; have := HFL.out; omega) T2 HT2.out ?_)
      intro B2 c2x u2 hst
      have HST3 := zHd hst
      clear hst
      obtain ⟨d0, d1, d2, d3⟩ := (HE.out.below HST3.out.x HHI.out).get HP.out
      obtain ⟨A2, hA2, hA2n, hrun⟩ := tail_run p.2.kA p.1.key.length p.2.kc 0 (Nat.zero_le _) (by obtain ⟨_, _, e1, h1, _⟩ := (HE.out.each p (List.mem_of_getElem? HP.out)).k; injection e1 with _ _ e3; rw [e3]; exact h1)
      have hrun' : ∀ w, (Instr.slice 22 (.slice p.2.kA p.1.key.length p.2.kc) (some (.int .i64 (0 : Int))) none none).run Tryz.prog w = .ok (.slice A2 (p.1.key.length - 0) (p.2.kc - 0)) w := hrun
      have HKB : Hid (∀ u, Ext w u → Bs u lo hi (.slice A2 (p.1.key.length - 0) (p.2.kc - 0)) (p.1.key.drop 0)) := fun u hu => by
       obtain ⟨A', c', e1, h1, h2, h3, h4⟩ := ((HE.out.below hu HHI.out).each p (List.mem_of_getElem? HP.out)).k
       injection e1 with e1 e2 e3
       subst e1 e3
       exact ⟨A2, _, by rw [List.length_drop], by rw [List.length_drop]; omega, by omega, fun h => by have := h3 (hA2n h); omega, hA2 p.1.key rfl _ _ _ h4⟩
      clear hA2 hA2n hrun
      go_wp2_with fail
      refine (rbytes_any _ lo hi (p.1.key.drop 0) _ (HKB.out _ HST3.out.x) (zNt HHI.out HST3.out.x.size) (by have := HMAY.out; rw [List.length_drop]; omega)).mono ?_
      intro x v3 hN
      obtain ⟨NA3, nc3, rfl, hbs, hx⟩ := hN.out
      have HBS3 := zHd hbs
      have HSX3 := zHd (HST3.out.ext hx)
      clear hN hbs hx
      clear hrun' d0 d1 d2 d3
      obtain ⟨T3, hT3⟩ : ∃ T, T = T2 ++ bytesForm (p.1.key.drop 0) := ⟨_, rfl⟩
      have HT3 := zHd hT3
      have HTL3 : Hid (T3.length = T2.length + (bytesForm (p.1.key.drop 0)).length) := by rw [hT3]; exact List.length_append ..
      clear hT3
      go_wp2_with (at_builtin; refine wst_add rfl (.tmp 40) (.tmp 48) rfl HSX3.out rfl _ _ _ (bytesForm (p.1.key.drop 0)) rfl HBS3.out (bytesForm_pos _) (by have := HUL.out; have := HFL.out; have := HTL2.out; omega) T3 HT3.out ?_)
      intro B3 c3x u3 hst
      have HST4 := zHd hst
      clear hst
      obtain ⟨d0, d1, d2, d3⟩ := (HE.out.below HST4.out.x HHI.out).get HP.out
      rw [HQN.out] at d1
      have hq : IntKind.u64.wrap (qn : Int) = (qn : Int) := by have := HMAY.out; have := HQT.out; rw [IntKind.wrap_u64]; omega
      go_wp2_with fail
      refine (rnumber_any qn HUQ.out _).mono ?_
      intro x v4 hN
      obtain ⟨NA4, nc4, rfl, hbs, hx⟩ := hN.out
      have HBS4 := zHd hbs
      have HSX4 := zHd (HST4.out.ext hx)
      clear hN hbs hx
      clear hq d0 d1 d2 d3
      obtain ⟨T4, hT4⟩ : ∃ T, T = T3 ++ form qn := ⟨_, rfl⟩
      have HT4 := zHd hT4
      have HTL4 : Hid (T4.length = T3.length + (form qn).length) := by rw [hT4]; exact List.length_append ..
      clear hT4
      go_wp2_with (at_builtin; refine wst_add rfl (.tmp 50) (.tmp 57) rfl HSX4.out rfl _ _ _ (form qn) rfl HBS4.out (form_pos _) (by have := HUL.out; have := HFL.out; have := HTL2.out; have := HTL3.out; omega) T4 HT4.out ?_)
      intro B4 c4x u4 hst
      have HST5 := zHd hst
      clear hst
      obtain ⟨d0, d1, d2, d3⟩ := (HE.out.below HST5.out.x HHI.out).get HP.out
      rw [HKN.out] at d2
      have hq : IntKind.u64.wrap (kn : Int) = (kn : Int) := by have := HMAY.out; have := HKT.out; rw [IntKind.wrap_u64]; omega
      go_wp2_with fail
      refine (rnumber_any kn HUK.out _).mono ?_
      intro x v5 hN
      obtain ⟨NA5, nc5, rfl, hbs, hx⟩ := hN.out
      have HBS5 := zHd hbs
      have HSX5 := zHd (HST5.out.ext hx)
      clear hN hbs hx
      clear hq d0 d1 d2 d3
      obtain ⟨T5, hT5⟩ : ∃ T, T = T4 ++ form kn := ⟨_, rfl⟩
      have HT5 := zHd hT5
      have HTL5 : Hid (T5.length = T4.length + (form kn).length) := by rw [hT5]; exact List.length_append ..
      clear hT5
      go_wp2_with (at_builtin; refine wst_add rfl (.tmp 59) (.tmp 66) rfl HSX5.out rfl _ _ _ (form kn) rfl HBS5.out (form_pos _) (by have := HUL.out; have := HFL.out; have := HTL2.out; have := HTL3.out; have := HTL4.out; omega) T5 HT5.out ?_)
      intro B5 c5x u5 hst
      have HST6 := zHd hst
      clear hst
      obtain ⟨d0, d1, d2, d3⟩ := (HE.out.below HST6.out.x HHI.out).get HP.out
      have HKF : Hid (∀ V, V = (if p.1.kind = 1 then bytesForm p.1.val else []) → upto Ls (i + 1) = T5 ++ V) := fun V hV => by
       rw [upto_succ, HPI.out, HT5.out, HT4.out, HT3.out, HT2.out, HT0.out, hV]
       unfold kform
       rw [HQT.out, HKT.out]
       rw [← HSV.out]
       simp only [List.append_assoc]
      by_cases hk1 : p.1.kind = 1
      · have dk : (p.1.kind == 1) = true := by rw [hk1]; rfl
        have HK1 := zHd hk1
        clear hk1
        go_wp2_with fail
        refine (rbytes_any _ lo hi p.1.val _ ((HE.out.below HST6.out.x HHI.out).each p (List.mem_of_getElem? HP.out)).v (zNt HHI.out HST6.out.x.size) (by have := HMAY.out; omega)).mono ?_
        intro x v6 hN
        obtain ⟨NA6, nc6, rfl, hbs, hx⟩ := hN.out
        have HBS6 := zHd hbs
        have HSX6 := zHd (HST6.out.ext hx)
        clear hN hbs hx
        clear dk d0 d1 d2 d3
        obtain ⟨T6, hT6⟩ : ∃ T, T = T5 ++ bytesForm p.1.val := ⟨_, rfl⟩
        have HT6 := zHd hT6
        have HTL6 : Hid (T6.length = T5.length + (bytesForm p.1.val).length) := by rw [hT6]; exact List.length_append ..
        clear hT6
        go_wp2_with (at_builtin; refine wst_add rfl (.tmp 74) (.tmp 80) rfl HSX6.out rfl _ _ _ (bytesForm p.1.val) rfl HBS6.out (bytesForm_pos _) (by have := HUL.out; have := HFL.out; have := HTL2.out; have := HTL3.out; have := HTL4.out; have := HTL5.out; omega) T6 HT6.out ?_)
        intro B6 c6x u6 hst
        have HST7 := zHd hst
        clear hst
        go_wp2_with fail
        go_roundw
        case rel =>
         have e1 : upto Ls (i + 1) = T6 := by rw [HT6.out]; exact HKF.out _ (by rw [if_pos HK1.out])
         exact ⟨i + 1, _, _, _, _, HLT.out, by rw [wrap_succ (by have := HLT.out; have := HLM.out; omega)], by rw [e1], by rw [HAT2.out], by rw [e1, HAT2.out]; exact HST7⟩
        case measure =>
         rw [wrap_succ (by have := HLT.out; have := HLM.out; omega)]
         have := HLT.out
         simp [intOf]; omega
      · have dk : (p.1.kind == 1) = false := by simpa using hk1
        have HK1 := zHd hk1
        clear hk1
        go_wp2_with fail
        go_roundw
        case rel =>
         have e1 : upto Ls (i + 1) = T5 := by have := HKF.out [] (by rw [if_neg HK1.out]); rw [List.append_nil] at this; exact this
         exact ⟨i + 1, _, _, _, _, HLT.out, by rw [wrap_succ (by have := HLT.out; have := HLM.out; omega)], by rw [e1], by rw [HAT2.out], by rw [e1, HAT2.out]; exact HST6⟩
        case measure =>
         rw [wrap_succ (by have := HLT.out; have := HLM.out; omega)]
         have := HLT.out
         simp [intOf]; omega
    · have d4n : ((i : Int) % 4 == 0) = false := by rw [beq_eq_false_iff_ne]; omega
      obtain ⟨m, him⟩ : ∃ m, m + 1 = i := ⟨i - 1, by omega⟩
      have HIM := zHd him
      obtain ⟨at2, hat2⟩ : ∃ at2, at2 = a0 := ⟨_, rfl⟩
      have HAT2 : Hid (ats Ls (i + 1) = at2) := by rw [hat2, HA0.out]; exact ats_miss Ls h4
      rw [← hat2] at HST ⊢
      have hml : m < L.length := by have := HLT.out; omega
      obtain ⟨q, hq⟩ : ∃ q, L[m]? = some q := ⟨_, List.getElem?_eq_getElem hml⟩
      have HQ := zHd hq
      obtain ⟨s, hs⟩ : ∃ s, s = shr q.1.key p.1.key := ⟨_, rfl⟩
      have HSV : Hid (s = shr (ahOf Ls i) p.1.key) := by
       have e : ahOf Ls i = q.1.key := by
        unfold ahOf
        rw [if_neg h4, HLS.out, List.getElem?_map]
        have e2 : i - 1 = m := by omega
        rw [e2, hq]; rfl
       rw [e]; exact hs
      have HSL : Hid (s ≤ p.1.key.length ∧ s ≤ 32) := by have h1 := shr_le_r q.1.key p.1.key; have := HMAY.out; rw [← hs] at h1; exact ⟨h1, by omega⟩
      have HSH : Hid (∀ u, Ext wr u → Calls Tryz.prog 85 #[.slice q.2.kA q.1.key.length q.2.kc, .slice p.2.kA p.1.key.length p.2.kc] u fun e w' => e = .returned (.int .i64 (s : Int)) ∧ Ext u w') := fun u hu => by
       have hE := HE.out.below (zEt HST.out.x hu) HHI.out
       have hle := zNt HHI.out (zEt HST.out.x hu).size
       have := HMAY.out
       have h2 := mayN_iff.1 (HMM.out q (List.mem_of_getElem? HQ.out))
       rw [hs]
       exact rshared_any (hE.each q (List.mem_of_getElem? HQ.out)).k (hE.each p (List.mem_of_getElem? HP.out)).k hle hle (by omega) (by omega)
      obtain ⟨c0, c1, c2, c3⟩ := (HE.out.below HST.out.x HHI.out).get hq
      obtain ⟨d0, d1, d2, d3⟩ := (HE.out.below HST.out.x HHI.out).get HP.out
      have hw : IntKind.i64.wrap ((i : Int) - 1) = (m : Int) := by have := HLT.out; have := HLM.out; rw [IntKind.wrap_i64]; omega
      have HW := zHd hw
      have m1 : (0 : Int) ≤ (m : Int) := Int.natCast_nonneg _
      have m2 : (m : Int) < (L.length : Int) := Int.ofNat_lt.2 hml
      clear h4 hat2 him hml hq hs hw
      go_upto_region 9 with (fail)
      refine flow (by kernel_rfl) [Is (.slice (some ⟨b, o, none⟩) L.length c), Is (.int .i64 (i : Int)), Is (.int .i64 (m : Int)), Is (.pointer (some ⟨b, o + m * 4, none⟩)), Is (.pointer (some ⟨b, o + m * 4, none⟩)), Is (.slice q.2.kA q.1.key.length q.2.kc), Is (.slice (some ⟨b, o, none⟩) L.length c), Is (.int .i64 (i : Int)), Is (.pointer (some ⟨b, o + i * 4, none⟩)), Is (.pointer (some ⟨b, o + i * 4, none⟩)), Is (.slice p.2.kA p.1.key.length p.2.kc), Is (.int .i64 (s : Int)), Is (.int .i64 (s : Int))] (by kernel_rfl) (by kernel_rfl) ?mono (fun f1 => ?obl) ?fin
      case mono =>
       simp only [List.forall_mem_cons, List.not_mem_nil, false_imp_iff, implies_true, and_true]
       and_intros <;> exact .is _
      case fin =>
       intro g1 u hu hg
       simp only [puts, Act.put, zq]
       have e11 : g1 11 = _ := hg 11 (by decide)
       have e12 : g1 12 = _ := hg 12 (by decide)
       rw [e12]
       have HST2 := zHd (HST.out.ext (zEt (Ext.drew wr) hu))
       clear hg hu e11 e12 c0 c1 c2 c3 d0 d1 d2 d3 d4n
       have hs64 : U64 s := ⟨by have := HSL.out; omega⟩
       have HS64 := zHd hs64
       clear hs64
       have HFL : Hid ((form s).length ≤ 10 ∧ (bytesForm (p.1.key.drop s)).length ≤ 60 ∧ (form qn).length ≤ 10 ∧ (form kn).length ≤ 10 ∧ (bytesForm p.1.val).length ≤ 65600) := by
        have h1 := HMAY.out
        refine ⟨form_len64 HS64.out, ?_, form_len64 HUQ.out, form_len64 HUK.out, ?_⟩
        · have h2 := (bytesForm_len (l := p.1.key.drop s) ⟨by rw [List.length_drop]; omega⟩).1
          rw [List.length_drop] at h2; omega
        · have h2 := (bytesForm_len HU.out.2.2.2).1; omega
       have hqs : IntKind.u64.wrap (s : Int) = (s : Int) := by have := HSL.out; rw [IntKind.wrap_u64]; omega
       go_wp2_with fail
       refine (rnumber_any s HS64.out _).mono ?_
       intro x v2 hN
       obtain ⟨NA2, nc2, rfl, hbs, hx⟩ := hN.out
       have HBS2 := zHd hbs
       have HSX2 := zHd (HST2.out.ext hx)
       clear hN hbs hx
       clear hqs
       obtain ⟨T2, hT2⟩ : ∃ T, T = T0 ++ form s := ⟨_, rfl⟩
       have HT2 := zHd hT2
       have HTL2 : Hid (T2.length = T0.length + (form s).length) := by rw [hT2]; exact List.length_append ..
       clear hT2
       go_wp2_with (at_builtin; refine wst_add rfl (.tmp 35) (.tmp 38) rfl HSX2.out rfl _ _ _ (form s) rfl HBS2.out (form_pos _) (by have := HUL.out; have := HFL.out; omega) T2 HT2.out ?_)
       intro B2 c2x u2 hst
       have HST3 := zHd hst
       clear hst
       obtain ⟨d0, d1, d2, d3⟩ := (HE.out.below HST3.out.x HHI.out).get HP.out
       obtain ⟨A2, hA2, hA2n, hrun⟩ := tail_run p.2.kA p.1.key.length p.2.kc s HSL.out.1 (by obtain ⟨_, _, e1, h1, _⟩ := (HE.out.each p (List.mem_of_getElem? HP.out)).k; injection e1 with _ _ e3; rw [e3]; exact h1)
       have hrun' : ∀ w, (Instr.slice 22 (.slice p.2.kA p.1.key.length p.2.kc) (some (.int .i64 (s : Int))) none none).run Tryz.prog w = .ok (.slice A2 (p.1.key.length - s) (p.2.kc - s)) w := hrun
       have HKB : Hid (∀ u, Ext w u → Bs u lo hi (.slice A2 (p.1.key.length - s) (p.2.kc - s)) (p.1.key.drop s)) := fun u hu => by
        obtain ⟨A', c', e1, h1, h2, h3, h4⟩ := ((HE.out.below hu HHI.out).each p (List.mem_of_getElem? HP.out)).k
        injection e1 with e1 e2 e3
        subst e1 e3
        exact ⟨A2, _, by rw [List.length_drop], by rw [List.length_drop]; omega, by omega, fun h => by have := h3 (hA2n h); omega, hA2 p.1.key rfl _ _ _ h4⟩
       clear hA2 hA2n hrun
       go_wp2_with fail
       refine (rbytes_any _ lo hi (p.1.key.drop s) _ (HKB.out _ HST3.out.x) (zNt HHI.out HST3.out.x.size) (by have := HMAY.out; rw [List.length_drop]; omega)).mono ?_
       intro x v3 hN
       obtain ⟨NA3, nc3, rfl, hbs, hx⟩ := hN.out
       have HBS3 := zHd hbs
       have HSX3 := zHd (HST3.out.ext hx)
       clear hN hbs hx
       clear hrun' d0 d1 d2 d3
       obtain ⟨T3, hT3⟩ : ∃ T, T = T2 ++ bytesForm (p.1.key.drop s) := ⟨_, rfl⟩
       have HT3 := zHd hT3
       have HTL3 : Hid (T3.length = T2.length + (bytesForm (p.1.key.drop s)).length) := by rw [hT3]; exact List.length_append ..
       clear hT3
       go_wp2_with (at_builtin; refine wst_add rfl (.tmp 40) (.tmp 48) rfl HSX3.out rfl _ _ _ (bytesForm (p.1.key.drop s)) rfl HBS3.out (bytesForm_pos _) (by have := HUL.out; have := HFL.out; have := HTL2.out; omega) T3 HT3.out ?_)
       intro B3 c3x u3 hst
       have HST4 := zHd hst
       clear hst
       obtain ⟨d0, d1, d2, d3⟩ := (HE.out.below HST4.out.x HHI.out).get HP.out
       rw [HQN.out] at d1
       have hq : IntKind.u64.wrap (qn : Int) = (qn : Int) := by have := HMAY.out; have := HQT.out; rw [IntKind.wrap_u64]; omega
       go_wp2_with fail
       refine (rnumber_any qn HUQ.out _).mono ?_
       intro x v4 hN
       obtain ⟨NA4, nc4, rfl, hbs, hx⟩ := hN.out
       have HBS4 := zHd hbs
       have HSX4 := zHd (HST4.out.ext hx)
       clear hN hbs hx
       clear hq d0 d1 d2 d3
       obtain ⟨T4, hT4⟩ : ∃ T, T = T3 ++ form qn := ⟨_, rfl⟩
       have HT4 := zHd hT4
       have HTL4 : Hid (T4.length = T3.length + (form qn).length) := by rw [hT4]; exact List.length_append ..
       clear hT4
       go_wp2_with (at_builtin; refine wst_add rfl (.tmp 50) (.tmp 57) rfl HSX4.out rfl _ _ _ (form qn) rfl HBS4.out (form_pos _) (by have := HUL.out; have := HFL.out; have := HTL2.out; have := HTL3.out; omega) T4 HT4.out ?_)
       intro B4 c4x u4 hst
       have HST5 := zHd hst
       clear hst
       obtain ⟨d0, d1, d2, d3⟩ := (HE.out.below HST5.out.x HHI.out).get HP.out
       rw [HKN.out] at d2
       have hq : IntKind.u64.wrap (kn : Int) = (kn : Int) := by have := HMAY.out; have := HKT.out; rw [IntKind.wrap_u64]; omega
       go_wp2_with fail
       refine (rnumber_any kn HUK.out _).mono ?_
       intro x v5 hN
       obtain ⟨NA5, nc5, rfl, hbs, hx⟩ := hN.out
       have HBS5 := zHd hbs
       have HSX5 := zHd (HST5.out.ext hx)
       clear hN hbs hx
       clear hq d0 d1 d2 d3
       obtain ⟨T5, hT5⟩ : ∃ T, T = T4 ++ form kn := ⟨_, rfl⟩
       have HT5 := zHd hT5
       have HTL5 : Hid (T5.length = T4.length + (form kn).length) := by rw [hT5]; exact List.length_append ..
       clear hT5
       go_wp2_with (at_builtin; refine wst_add rfl (.tmp 59) (.tmp 66) rfl HSX5.out rfl _ _ _ (form kn) rfl HBS5.out (form_pos _) (by have := HUL.out; have := HFL.out; have := HTL2.out; have := HTL3.out; have := HTL4.out; omega) T5 HT5.out ?_)
       intro B5 c5x u5 hst
       have HST6 := zHd hst
       clear hst
       obtain ⟨d0, d1, d2, d3⟩ := (HE.out.below HST6.out.x HHI.out).get HP.out
       have HKF : Hid (∀ V, V = (if p.1.kind = 1 then bytesForm p.1.val else []) → upto Ls (i + 1) = T5 ++ V) := fun V hV => by
        rw [upto_succ, HPI.out, HT5.out, HT4.out, HT3.out, HT2.out, HT0.out, hV]
        unfold kform
        rw [HQT.out, HKT.out]
        rw [← HSV.out]
        simp only [List.append_assoc]
       by_cases hk1 : p.1.kind = 1
       · have dk : (p.1.kind == 1) = true := by rw [hk1]; rfl
         have HK1 := zHd hk1
         clear hk1
         go_wp2_with fail
         refine (rbytes_any _ lo hi p.1.val _ ((HE.out.below HST6.out.x HHI.out).each p (List.mem_of_getElem? HP.out)).v (zNt HHI.out HST6.out.x.size) (by have := HMAY.out; omega)).mono ?_
         intro x v6 hN
         obtain ⟨NA6, nc6, rfl, hbs, hx⟩ := hN.out
         have HBS6 := zHd hbs
         have HSX6 := zHd (HST6.out.ext hx)
         clear hN hbs hx
         clear dk d0 d1 d2 d3
         obtain ⟨T6, hT6⟩ : ∃ T, T = T5 ++ bytesForm p.1.val := ⟨_, rfl⟩
         have HT6 := zHd hT6
         have HTL6 : Hid (T6.length = T5.length + (bytesForm p.1.val).length) := by rw [hT6]; exact List.length_append ..
         clear hT6
         go_wp2_with (at_builtin; refine wst_add rfl (.tmp 74) (.tmp 80) rfl HSX6.out rfl _ _ _ (bytesForm p.1.val) rfl HBS6.out (bytesForm_pos _) (by have := HUL.out; have := HFL.out; have := HTL2.out; have := HTL3.out; have := HTL4.out; have := HTL5.out; omega) T6 HT6.out ?_)
         intro B6 c6x u6 hst
         have HST7 := zHd hst
         clear hst
         go_wp2_with fail
         go_roundw
         case rel =>
          have e1 : upto Ls (i + 1) = T6 := by rw [HT6.out]; exact HKF.out _ (by rw [if_pos HK1.out])
          exact ⟨i + 1, _, _, _, _, HLT.out, by rw [wrap_succ (by have := HLT.out; have := HLM.out; omega)], by rw [e1], by rw [HAT2.out], by rw [e1, HAT2.out]; exact HST7⟩
         case measure =>
          rw [wrap_succ (by have := HLT.out; have := HLM.out; omega)]
          have := HLT.out
          simp [intOf]; omega
       · have dk : (p.1.kind == 1) = false := by simpa using hk1
         have HK1 := zHd hk1
         clear hk1
         go_wp2_with fail
         go_roundw
         case rel =>
          have e1 : upto Ls (i + 1) = T5 := by have := HKF.out [] (by rw [if_neg HK1.out]); rw [List.append_nil] at this; exact this
          exact ⟨i + 1, _, _, _, _, HLT.out, by rw [wrap_succ (by have := HLT.out; have := HLM.out; omega)], by rw [e1], by rw [HAT2.out], by rw [e1, HAT2.out]; exact HST6⟩
         case measure =>
          rw [wrap_succ (by have := HLT.out; have := HLM.out; omega)]
          have := HLT.out
          simp [intOf]; omega
      case obl =>
       refine ⟨fun u hu hd => ?_, fun u hu hd => ?_, fun u hu hd => ?_, fun u hu hd => ?_, fun u hu hd => ?_, fun u hu hd => ?_, fun u hu hd => ?_, fun u hu hd => ?_, fun u hu hd => ?_, fun u hu hd => ?_, fun u hu hd => ?_, fun u hu hd => ?_, fun u hu hd => ?_, trivial⟩
       all_goals try simp only [Act.put, zq]
       · go_simp
         exact zEr
       · go_simp
         exact zEr
       · have e1 : f1 1 = _ := hd 1 (by kernel_rfl)
         go_simp
         first | exact zEr | (rw [HW.out]; exact zEr) | exact ⟨Ext.refl _, by rw [HW.out]⟩ | exact ⟨Ext.refl _, by rw [HW.out]; rfl⟩
       · have e0 : f1 0 = _ := hd 0 (by kernel_rfl)
         have e2 : f1 2 = _ := hd 2 (by kernel_rfl)
         go_simp
         exact zEr
       · have e3 : f1 3 = _ := hd 3 (by kernel_rfl)
         go_simp
         exact zEr
       · have e4 : f1 4 = _ := hd 4 (by kernel_rfl)
         have hu2 := zEt (Ext.drew wr) hu
         have q0 := ext_cell hu2 c0
         go_simp
         exact zEr
       · go_simp
         exact zEr
       · go_simp
         exact zEr
       · have e6 : f1 6 = _ := hd 6 (by kernel_rfl)
         have e7 : f1 7 = _ := hd 7 (by kernel_rfl)
         go_simp
         exact zEr
       · have e8 : f1 8 = _ := hd 8 (by kernel_rfl)
         go_simp
         exact zEr
       · have e9 : f1 9 = _ := hd 9 (by kernel_rfl)
         have hu2 := zEt (Ext.drew wr) hu
         have q0 := ext_cell hu2 d0
         go_simp
         exact zEr
       · have e5 : f1 5 = _ := hd 5 (by kernel_rfl)
         have e10 : f1 10 = _ := hd 10 (by kernel_rfl)
         have hu2 := zEt (Ext.drew wr) hu
         go_simp
         refine (HSH.out _ hu2).mono ?_
         rintro y w9 ⟨rfl, hx9⟩
         exact ⟨_, rfl, hx9, rfl⟩
       · have e11 : f1 11 = _ := hd 11 (by kernel_rfl)
         go_simp
         exact zEr
  · have hir : i = L.length := by omega
    have d : decide ((i : Int) < (L.length : Int)) = false := by rw [decide_eq_false_iff_not]; exact fun h => hlt (Int.ofNat_lt.1 h)
    have dn : decide (i < L.length) = false := by rw [decide_eq_false_iff_not]; exact hlt
    have hil : i = Ls.length := by rw [HLL.out]; exact hir
    rw [hil] at HST ⊢
    obtain ⟨U, hU⟩ : ∃ U, U = upto Ls Ls.length := ⟨_, rfl⟩
    obtain ⟨R, hR⟩ : ∃ R, R = ats Ls Ls.length := ⟨_, rfl⟩
    have HLB : Hid (1 ≤ R.length ∧ R.length ≤ 1000 ∧ U.length ≤ 100000000) := by
     have h1 := ats_len Ls Ls.length
     have h2 := upto_le HM.out.2.2.2 Ls.length
     have h3 := HLL.out
     have h4 := HLM.out
     rw [hR, hU]
     unfold Hid; omega
    have HRB : Hid (∀ x ∈ R, x < 4294967296) := by rw [hR]; exact ats_lt HM.out.2.2.2 HM.out.2.1
    have HWR : Hid (_root_.Go.Proofs.YtkdidghfcfcpfaaGreat.wr Ls = U ++ (R.flatMap be4 ++ be4 R.length)) := by rw [hR, hU]; exact rfl
    have HRR := zHd hR
    have hdn : i = L.length := hir
    unfold RWriteAns
    rw [← hU, ← hR] at HST ⊢
    rw [HWR.out]
    clear hU hR hlt hi hil
    have hii : (Ls.length : Int) = (L.length : Int) := by rw [HLL.out]
    obtain ⟨rb, rfl⟩ : ∃ rb, RA = some ⟨rb, 0, none⟩ := by
     rcases HST.out.r.2 with ⟨h1, _⟩ | ⟨g, cap, cur, hv, _⟩
     · injection h1 with _ h2 _; have := HLB.out; omega
     · injection hv with h1 _ _; exact ⟨g, h1⟩
    rw [hir] at d dn
    have d2 : decide (((Ls.length : Nat) : Int) < (L.length : Int)) = false := by rw [hii]; simp
    have d2n : decide (Ls.length < L.length) = false := by rw [HLL.out]; simp
    clear hir hdn d dn hii
    go_wp2_with fail
    go_loopw [4, 8] (fun v x wr2 => ∃ (k : Nat) (BA : Option Addr) (bc : Nat), k ≤ R.length ∧ x = .int .i64 (k : Int) ∧ v = .slice BA (U ++ (R.take k).flatMap be4).length bc ∧ Hid (WSt w (U ++ (R.take k).flatMap be4) R BA bc (some ⟨rb, 0, none⟩) rc wr2))
     (fun _ x _ => R.length - (intOf x).toNat)
    case atStart => exact ⟨0, BA, bc, Nat.zero_le _, rfl, by simp, by simpa using HST⟩
    case round =>
     obtain ⟨k, BA, bc, hk, rfl, rfl, HST⟩ := hrel
     obtain ⟨T, hT⟩ : ∃ T, T = U ++ (R.take k).flatMap be4 := ⟨_, rfl⟩
     have HT := zHd hT
     rw [← hT] at HST ⊢
     clear hT
     by_cases hlt : k < R.length
     · have d : decide ((k : Int) < (R.length : Int)) = true := by rw [decide_eq_true_eq]; exact Int.ofNat_lt.2 hlt
       have dn : decide (k < R.length) = true := by rw [decide_eq_true_eq]; exact hlt
       have HLT := zHd hlt
       have n1 : (0 : Int) ≤ (k : Int) := by omega
       have n2 : (k : Int) < (R.length : Int) := Int.ofNat_lt.2 hlt
       obtain ⟨x, hx⟩ : ∃ x, R[k]? = some x := ⟨_, List.getElem?_eq_getElem hlt⟩
       have HXI := zHd hx
       have HX32 := zHd (HRB.out x (List.mem_of_getElem? hx))
       have c0 := HST.out.r.cells (g := rb) rfl k (.int .i64 (x : Int)) (by rw [iv, List.getElem?_map, hx]; rfl)
       rw [addr_add, Nat.zero_add] at c0
       obtain ⟨T2, hT2⟩ : ∃ T2, T2 = T ++ be4 x := ⟨_, rfl⟩
       have HT2 := zHd hT2
       have HT3 : Hid (T2 = U ++ (R.take (k + 1)).flatMap be4) := by
        rw [hT2, HT.out, List.take_succ_eq_append_getElem HLT.out, List.flatMap_append, List.append_assoc]
        have e : R[k]'HLT.out = x := by have h1 := HXI.out; rw [List.getElem?_eq_getElem HLT.out] at h1; injection h1
        rw [e]; simp [Hid]
       have HTL : Hid (T.length ≤ 200000000) := by
        have h1 := HLB.out.2
        have h3 := HLT.out
        rw [HT.out, List.length_append, flat4_len, List.length_take]
        unfold Hid; omega
       clear hlt hx hk hT2
       go_wp2_with fail
       refine (rword_any x HX32.out _).mono ?_
       rintro y v5 ⟨NA, nc, rfl, hbs, hx⟩
       have HBS := zHd hbs
       have HSX := zHd (HST.out.ext hx)
       clear hbs hx c0
       go_wp2_with (at_builtin; refine wst_add rfl (.tmp 88) (.tmp 93) rfl HSX.out rfl _ _ _ (be4 x) rfl HBS.out (by rw [be4_length]; omega) (by have := HTL.out; rw [be4_length]; omega) T2 HT2.out ?_)
       intro B6 c6 u6 hst
       have HST6 := zHd hst
       clear hst
       go_wp2_with fail
       go_roundw
       case rel => exact ⟨k + 1, B6, c6, HLT.out, by rw [wrap_succ (by have := HLT.out; have := HLB.out; omega)], by rw [HT3.out], by rw [← HT3.out]; exact HST6⟩
       case measure =>
        rw [wrap_succ (by have := HLT.out; have := HLB.out; omega)]
        have := HLT.out
        simp [intOf]; omega
     · have hir : k = R.length := by omega
       have d : decide ((k : Int) < (R.length : Int)) = false := by rw [decide_eq_false_iff_not]; exact fun h => hlt (Int.ofNat_lt.1 h)
       have dn : decide (k < R.length) = false := by rw [decide_eq_false_iff_not]; exact hlt
       have HTF : Hid (T = U ++ R.flatMap be4) := by rw [HT.out, hir, List.take_length]; exact rfl
       obtain ⟨T2, hT2⟩ : ∃ T2, T2 = T ++ be4 R.length := ⟨_, rfl⟩
       have HT2 := zHd hT2
       have HTE : Hid (U ++ (R.flatMap be4 ++ be4 R.length) = T2) := by rw [hT2, HTF.out, List.append_assoc]; exact rfl
       have HTL : Hid (T.length ≤ 200000000) := by
        have h1 := HLB.out.2
        rw [HTF.out, List.length_append, flat4_len]
        unfold Hid; omega
       clear hlt hk hir hT2
       go_wp2_with fail
       refine (rword_any R.length (by have := HLB.out; omega) _).mono ?_
       rintro y v5 ⟨NA, nc, rfl, hbs, hx⟩
       have HBS := zHd hbs
       have HSX := zHd (HST.out.ext hx)
       clear hbs hx
       go_wp2_with (at_builtin; refine wst_add rfl (.tmp 95) (.tmp 98) rfl HSX.out rfl _ _ _ (be4 R.length) rfl HBS.out (by rw [be4_length]; omega) (by have := HTL.out; rw [be4_length]; omega) T2 HT2.out ?_)
       intro B6 c6 u6 hst
       have HST6 := zHd hst
       clear hst
       go_wp2_with fail
       refine bodyPost_ret (results_tmp2 rfl _ _ _) rfl ?_
       unfold RWriteAns
       rw [HWR.out, HTE.out, ← HRR.out]
       exact ⟨B6, c6, _, _, rfl, HST6.out⟩
theorem OutText.zero {most : Int} {l bs rest : List Nat} (h : OutText most l bs 0 rest) : l = bytesForm bs ++ rest := by
 rcases h with ⟨_, _, _, h⟩ | ⟨h, _⟩
 · exact h
 · exact absurd rfl h
theorem OutNum.zero {l rest : List Nat} {n : Nat} (h : OutNum l n 0 rest) : l = form n ++ rest := by
 rcases h with ⟨_, h⟩ | ⟨h, _⟩
 · exact h.eq
 · cases h
theorem Em.setCell {w : World} {lo hi : Nat} {e : Ent} {h : Hd} (m : Em w lo hi e h) {p : Addr} (hp : p.block < lo ∨ hi ≤ p.block) (u : Value) : Em (w.setCell p u) lo hi e h := ⟨m.k.setCell hp u, m.v.setCell hp u, m.bk, m.bv, m.s1, m.s2, m.d1, m.d2⟩
theorem RBytes_slice {q lo hi : Nat} {l : List Nat} {w : World} (h : Qd w q lo hi l) (hl : l.length ≤ 1000000000000) {most : Int} (hm1 : 0 ≤ most) (hm2 : most ≤ 9223372036854775807) :
    Calls Tryz.prog 38 #[.pointer (some ⟨q, 0, none⟩), .int .i64 most] w fun e w' => ∃ (A : Option Addr) (c : Nat) (bs : List Nat) (k : Int) (rest : List Nat), OutText most l bs k rest ∧ Bs w' w.heap.size w'.heap.size (.slice A bs.length c) bs ∧ e = .returned (.tuple #[.slice A bs.length c, .int .i64 k]) ∧ Qd w' q lo hi rest ∧ w.grownBy w' (some q) := by
 refine (RBytes_out h hl hm1 hm2).mono ?_
 rintro e w' ⟨v, bs, k, rest, ho, hb, rfl, hq, hg⟩
 have hb' := hb
 obtain ⟨A, c, rfl, _⟩ := hb
 exact ⟨A, c, bs, k, rest, ho, hb', rfl, hq, hg⟩
structure Held (B : Nat) (v : Value) (R : List (Ent × Hd)) (w : World) : Prop where
 row : w.ownsRow B 50 4 v R.length (erow R)
 each : ∀ p ∈ R, ∃ lo hi, B ≤ lo ∧ hi ≤ w.heap.size ∧ Em w lo hi p.1 p.2 ∧ ∀ g, v.ownBlock = some g → g < lo ∨ hi ≤ g
theorem Held.nil (B : Nat) (w : World) : Held B (.slice none 0 0) [] w := ⟨World.ownsRow_nil _ _ _ _, fun p hp => by cases hp⟩
theorem Em.grown {w w' : World} {lo hi : Nat} {e : Ent} {g : Hd} {row : Option Nat} (m : Em w lo hi e g) (hg : w.grownBy w' row) (hB : hi ≤ w.heap.size) (hr : ∀ k, row = some k → k < lo ∨ hi ≤ k) : Em w' lo hi e g := ⟨m.k.grown hg hB hr, m.v.grown hg hB hr, m.bk, m.bv, m.s1, m.s2, m.d1, m.d2⟩
theorem Held.grown {B q : Nat} {v : Value} {R : List (Ent × Hd)} {w w' : World} (h : Held B v R w) (hg : w.grownBy w' (some q)) (hq : q < B) : Held B v R w' := by
 refine ⟨rowN_kept h.row fun g hgo => hg.block g (rowN_lt h.row g hgo).2.1 (fun e => by injection e with e; have := (rowN_lt h.row g hgo).1; omega), fun p hp => ?_⟩
 obtain ⟨lo, hi, h1, h2, h3, h4⟩ := h.each p hp
 exact ⟨lo, hi, h1, zNt h2 hg.size, h3.grown hg h2 (fun k hk => by injection hk with hk; omega), h4⟩
theorem Held.below {B : Nat} {v : Value} {R : List (Ent × Hd)} {w w' : World} (h : Held B v R w) (hx : Ext w w') : Held B v R w' := by
 refine ⟨rowN_kept h.row fun g hgo => hx.block g (rowN_lt h.row g hgo).2.1, fun p hp => ?_⟩
 obtain ⟨lo, hi, h1, h2, h3, h4⟩ := h.each p hp
 exact ⟨lo, hi, h1, zNt h2 hx.size, h3.below hx h2, h4⟩
theorem Held.es {B : Nat} {A : Option Addr} {c : Nat} {R : List (Ent × Hd)} {w : World} (h : Held B (.slice A R.length c) R w) : Es w 0 w.heap.size A R := by
 refine ⟨?_, fun p hp => ?_⟩
 · rcases h.row.2 with ⟨h1, h2⟩ | ⟨g, cap, cur, hv, hg, hh, r⟩
   · injection h1 with e1 e2 _
     have : R = [] := List.eq_nil_of_length_eq_zero e2
     subst this; exact Sl.nil _ _ _ _
   · injection hv with e1 _ _
     subst e1
     refine .inr ⟨g, 0, rfl, Nat.zero_le _, (zAg.1 hh).1, fun i u hu => ?_⟩
     have := h.row.cells (g := g) rfl i u hu
     rwa [addr_add] at this
 · obtain ⟨lo, hi, _, h2, h3, _⟩ := h.each p hp
   exact h3.wide (Nat.zero_le _) h2
theorem Qd.set {w : World} {r lo hi g j : Nat} {l : List Nat} (h : Qd w r lo hi l) (hg : hi ≤ g) (hr : r ≠ g) (u : Value) : Qd (w.setCell ⟨g, j, none⟩ u) r lo hi l := by
 obtain ⟨v, h1, h2⟩ := h.ex
 exact ⟨⟨v, (Below.heap_setCell _ _ _ _ hr).trans h1, h2.setCell (.inr hg) u⟩, h.apart, by have := h.top; simpa [World.setCell] using this, h.byt⟩
def REntAns (ah l : List Nat) (w : World) (r lo hi : Nat) (x : Ending) (w' : World) : Prop :=
 w.grownBy w' (some r) ∧ ((∃ (e : Ent) (g : Hd) (rest : List Nat), Stands ah l e rest ∧ x = .returned (.tuple #[e.at_ g, .bool true]) ∧ Qd w' r lo hi rest ∧ Em w' w.heap.size w'.heap.size e g) ∨
  ((∃ (e : Ent) (g : Hd), x = .returned (.tuple #[e.at_ g, .bool false])) ∧ ∀ e rest, ¬ Stands ah l e rest))
theorem Stands.of {ah l l1 l2 l3 l4 rest sb vb : List Nat} {n sq kd : Nat} (hn : n ≤ ah.length) (h0 : l = form n ++ l1) (h1 : l1 = bytesForm sb ++ l2) (h2 : l2 = form sq ++ l3) (h3 : l3 = form kd ++ l4)
    (h4 : l4 = (if (kd : Int) = 1 then bytesForm vb else []) ++ rest) (hm : mayN (ah.take n ++ sb).length (sq : Int) (kd : Int) vb.length = true) : Stands ah l ⟨ah.take n ++ sb, sq, kd, vb⟩ rest := by
 have hl : (ah.take n).length = n := by rw [List.length_take]; omega
 have e1 : (ah.take n ++ sb).take n = ah.take n := by
  rw [List.take_append_of_le_length (by omega), List.take_of_length_le (by omega)]
 have e2 : (ah.take n ++ sb).drop n = sb := by
  rw [List.drop_append_of_le_length (by omega), List.drop_of_length_le (by omega), List.nil_append]
 refine ⟨hm, n, hn, by rw [List.length_append]; omega, e1.symm, ?_⟩
 show l = form n ++ (bytesForm ((ah.take n ++ sb).drop n) ++ (form (sq : Int).toNat ++ (form (kd : Int).toNat ++ ((if (kd : Int) = 1 then bytesForm vb else []) ++ rest))))
 rw [e2, Int.toNat_natCast, Int.toNat_natCast, h0, h1, h2, h3, h4]
set_option maxRecDepth 100000 in
set_option maxHeartbeats 16000000 in
theorem rent_any {w : World} {r lo hi lo2 hi2 c : Nat} {l ah : List Nat} {A : Option Addr} (h : Qd w r lo hi l) (hv : Bs w lo2 hi2 (.slice A ah.length c) ah) (hhi2 : hi2 ≤ w.heap.size) (hr2 : r < lo2 ∨ hi2 ≤ r) (hah : ∀ x ∈ ah, x < 256) (hal : ah.length ≤ 1000000000000) (hl : l.length ≤ 1000000000000) :
    Calls Tryz.prog 75 #[.pointer (some ⟨r, 0, none⟩), .slice A ah.length c] w (REntAns ah l w r lo hi) := by
 obtain ⟨w1, hw1⟩ : ∃ w1, w1 = w.alloc (.cells #[.slice none 0 0, .int .i64 0, .int .i64 0, .slice none 0 0] 50) := ⟨_, rfl⟩
 have HX1 : Hid (Ext w w1) := by rw [hw1]; exact ext_alloc _ _
 have HZ1 : Hid (w1.heap.size = w.heap.size + 1) := by rw [hw1]; simp [Hid]
 have HR1 : Hid (w1.heap[w.heap.size]? = some (.cells #[.slice none 0 0, .int .i64 0, .int .i64 0, .slice none 0 0] 50 (0, 0))) := by rw [hw1]; exact heap_at _ _ rfl
 have HV := zHd (hv.below HX1.out hhi2)
 have HQ1 := zHd (h.below HX1.out h.top h.lt)
 have HTOP := zHd h.top
 have HRW := zHd h.lt
 have HH := zHd (And.intro hhi2 hr2)
 have HAH := zHd hah
 have HL := zHd (And.intro hal hl)
 have HBYT := zHd h.byt
 have HRB : Hid (∀ u : World, w1.grownBy u (some r) → u.heap[w.heap.size]? = some (.cells #[.slice none 0 0, .int .i64 0, .int .i64 0, .slice none 0 0] 50 (0, 0))) := fun u hg =>
  (hg.block _ (by rw [HZ1.out]; omega) (fun e => by injection e with e; have := HRW.out; omega)).trans HR1.out
 have HWG : Hid (∀ u : World, w1.grownBy u (some r) → w.grownBy u (some r)) := fun u hg =>
  ⟨hg.os.trans HX1.out.os, hg.tape.trans HX1.out.tape, hg.output.trans HX1.out.output, zNt HX1.out.size hg.size, fun i hi hne => (hg.block i (Nat.lt_of_lt_of_le hi HX1.out.size) hne).trans (HX1.out.block i hi)⟩
 have hu : IntKind.u64.wrap (ah.length : Int) = (ah.length : Int) := by rw [IntKind.wrap_u64]; omega
 have HC : Hid (ah.length ≤ c ∧ c ≤ maxLen) := by obtain ⟨_, _, e1, h1, h2, _⟩ := hv; injection e1 with _ _ e3; rw [e3]; exact ⟨h1, h2⟩
 clear h hv hhi2 hr2 hah hal hl
 go_enter Tryz.func75, Tryz.ntmps75
 go_wp2_with fail
 rw [← hw1]
 clear hw1
 refine (RNumber_out HQ1.out).mono ?_
 rintro x w2 ⟨n, k1, l1, ho, rfl, hqd, hg⟩
 have HO1 := zHd ho
 have HQ2 := zHd hqd
 have HG2 := zHd hg
 clear ho hqd hg HQ1
 by_cases hk : k1 = 0
 rotate_left
 · have hk1 : (k1 != 0) = true := by simpa using hk
   have HNO : Hid (∀ e rest, ¬ Stands ah l e rest) := fun e rest hs => by
    obtain ⟨m, r9, hb, _⟩ := hs.num
    exact hk (HO1.out.same (.inl ⟨rfl, hb.n64, hb.eq⟩)).2.1
   clear hk
   have HRM := zHd (HRB.out _ HG2.out)
   have q0 := cell_of HRM.out (k := 0) rfl
   have q1 := cell_of HRM.out (k := 1) rfl
   have q2 := cell_of HRM.out (k := 2) rfl
   have q3 := cell_of HRM.out (k := 3) rfl
   have z0 := frozen_four HRM.out (j := 0)
   have z1 := frozen_four HRM.out (j := 1)
   have z2 := frozen_four HRM.out (j := 2)
   have z3 := frozen_four HRM.out (j := 3)
   go_wp2_with fail
   refine entry_ret (p := 4) (q := 5) (by kernel_rfl) rfl rfl rfl (set_four HRM.out) ?_
   exact ⟨grown_new (grown_new (grown_new (grown_new (HWG.out _ HG2.out) (zNr _)) (zNr _)) (zNr _)) (zNr _), .inr ⟨⟨⟨[], 0, 0, []⟩, ⟨none, 0, none, 0⟩, rfl⟩, HNO.out⟩⟩
 subst hk
 have HB : Hid (Begins l n l1) := by
  rcases HO1.out with ⟨_, hb⟩ | ⟨h0, _⟩
  · exact hb
  · exact absurd h0 (by decide)
 by_cases hn : ah.length < n
 · have d : decide (ah.length < n) = true := by simpa using hn
   have dI : decide ((ah.length : Int) < (n : Int)) = true := by simp; omega
   have HNO : Hid (∀ e rest, ¬ Stands ah l e rest) := fun e rest hs => by
    have h1 := (hs.one HB.out).1
    omega
   clear hn
   have HRM := zHd (HRB.out _ HG2.out)
   have q0 := cell_of HRM.out (k := 0) rfl
   have q1 := cell_of HRM.out (k := 1) rfl
   have q2 := cell_of HRM.out (k := 2) rfl
   have q3 := cell_of HRM.out (k := 3) rfl
   have z0 := frozen_four HRM.out (j := 0)
   have z1 := frozen_four HRM.out (j := 1)
   have z2 := frozen_four HRM.out (j := 2)
   have z3 := frozen_four HRM.out (j := 3)
   go_wp2_with fail
   refine entry_ret (p := 4) (q := 5) (by kernel_rfl) rfl rfl rfl (set_four HRM.out) ?_
   exact ⟨grown_new (grown_new (grown_new (grown_new (HWG.out _ HG2.out) (zNr _)) (zNr _)) (zNr _)) (zNr _), .inr ⟨⟨⟨[], 0, 0, []⟩, ⟨none, 0, none, 0⟩, rfl⟩, HNO.out⟩⟩
 have d : decide (ah.length < n) = false := by simpa using hn
 have dI : decide ((ah.length : Int) < (n : Int)) = false := by simp; omega
 have HN : Hid (n ≤ ah.length) := by unfold Hid; omega
 clear hn
 have HL1 : Hid (l1.length < l.length) := by
  have h1 := HB.out.eq
  have h2 := congrArg List.length h1
  rw [List.length_append] at h2
  have := form_pos n
  unfold Hid; omega
 go_wp2_with fail
 refine (RBytes_slice HQ2.out (zNt (Nat.le_of_lt HL1.out) HL.out.2) (by decide) (by decide)).mono ?_
 rintro x w3 ⟨sA, sc, sb, k2, l2, ho, hbs, rfl, hqd, hg⟩
 have HO2 := zHd ho
 have HS3 := zHd hbs
 have HQ3 := zHd hqd
 have HG3 := zHd (HG2.out.trans hg)
 have HZ3 : Hid (w1.heap.size ≤ w2.heap.size ∧ w2.heap.size ≤ w3.heap.size) := ⟨HG2.out.size, hg.size⟩
 clear ho hbs hqd hg HQ2
 go_wp2_with fail
 refine (RNumber_out HQ3.out).mono ?_
 rintro x w4 ⟨sq, k3, l3, ho, rfl, hqd, hg⟩
 have HO3 := zHd ho
 have HS4 := zHd (HS3.out.grown hg (zNr _) (fun k hk => by injection hk with hk; left; have := HRW.out; have := HZ1.out; have := HZ3.out; omega))
 have HQ4 := zHd hqd
 have HG4 := zHd (HG3.out.trans hg)
 have HZ4 : Hid (w3.heap.size ≤ w4.heap.size) := hg.size
 clear ho hqd hg HQ3
 go_wp2_with fail
 refine (RNumber_out HQ4.out).mono ?_
 rintro x w5 ⟨kd, k4, l4, ho, rfl, hqd, hg⟩
 have HO4 := zHd ho
 have HS5 := zHd (HS4.out.grown hg HZ4.out (fun k hk => by injection hk with hk; left; have := HRW.out; have := HZ1.out; have := HZ3.out; omega))
 have HQ5 := zHd hqd
 have HG5 := zHd (HG4.out.trans hg)
 have HZ5 : Hid (w3.heap.size ≤ w5.heap.size) := zNt HZ4.out hg.size
 clear ho hqd hg HQ4
 have HALL : Hid (∀ e rest, Stands ah l e rest → (k2 = 0 ∧ k3 = 0 ∧ k4 = 0) ∧ e.key = ah.take n ++ sb ∧ e.seq = (sq : Int) ∧ e.kind = (kd : Int) ∧ Stands4 l4 e rest) := fun e rest hs => by
  obtain ⟨_, h1⟩ := hs.one HB.out
  obtain ⟨a2, h2, h3⟩ := h1.two HO2.out
  obtain ⟨a3, h4, h5⟩ := h3.three HO3.out
  obtain ⟨a4, h6, h7⟩ := h5.four HO4.out
  exact ⟨⟨a2, a3, a4⟩, h2, h4, h6, h7⟩
 have HBD : Hid (∀ e rest, Stands ah l e rest → sq ≤ 2147483647 ∧ 1 ≤ kd ∧ kd ≤ 2) := fun e rest hs => by
  obtain ⟨_, _, h3, h4, _⟩ := HALL.out e rest hs
  obtain ⟨b1, b2, b3, b4, b5⟩ := mayN_iff.1 hs.1
  refine ⟨by omega, ?_, ?_⟩ <;> rcases b5 with ⟨b, _⟩ | ⟨b, _⟩ <;> omega
 by_cases hc : k2 = 0
 rotate_left
 · have HNO : Hid (∀ e rest, ¬ Stands ah l e rest) := fun e rest hs => hc (HALL.out e rest hs).1.1
   have g : (k2 != 0) = true := by simpa using hc
   clear hc
   have HRM := zHd (HRB.out _ HG5.out)
   have q0 := cell_of HRM.out (k := 0) rfl
   have q1 := cell_of HRM.out (k := 1) rfl
   have q2 := cell_of HRM.out (k := 2) rfl
   have q3 := cell_of HRM.out (k := 3) rfl
   have z0 := frozen_four HRM.out (j := 0)
   have z1 := frozen_four HRM.out (j := 1)
   have z2 := frozen_four HRM.out (j := 2)
   have z3 := frozen_four HRM.out (j := 3)
   go_wp2_with fail
   refine entry_ret (p := 4) (q := 5) (by kernel_rfl) rfl rfl rfl (set_four HRM.out) ?_
   exact ⟨grown_new (grown_new (grown_new (grown_new (HWG.out _ HG5.out) (zNr _)) (zNr _)) (zNr _)) (zNr _), .inr ⟨⟨⟨[], 0, 0, []⟩, ⟨none, 0, none, 0⟩, rfl⟩, HNO.out⟩⟩
 subst hc
 by_cases hc : k3 = 0
 rotate_left
 · have HNO : Hid (∀ e rest, ¬ Stands ah l e rest) := fun e rest hs => hc (HALL.out e rest hs).1.2.1
   have g : (k3 != 0) = true := by simpa using hc
   clear hc
   have HRM := zHd (HRB.out _ HG5.out)
   have q0 := cell_of HRM.out (k := 0) rfl
   have q1 := cell_of HRM.out (k := 1) rfl
   have q2 := cell_of HRM.out (k := 2) rfl
   have q3 := cell_of HRM.out (k := 3) rfl
   have z0 := frozen_four HRM.out (j := 0)
   have z1 := frozen_four HRM.out (j := 1)
   have z2 := frozen_four HRM.out (j := 2)
   have z3 := frozen_four HRM.out (j := 3)
   go_wp2_with fail
   refine entry_ret (p := 4) (q := 5) (by kernel_rfl) rfl rfl rfl (set_four HRM.out) ?_
   exact ⟨grown_new (grown_new (grown_new (grown_new (HWG.out _ HG5.out) (zNr _)) (zNr _)) (zNr _)) (zNr _), .inr ⟨⟨⟨[], 0, 0, []⟩, ⟨none, 0, none, 0⟩, rfl⟩, HNO.out⟩⟩
 subst hc
 by_cases hc : k4 = 0
 rotate_left
 · have HNO : Hid (∀ e rest, ¬ Stands ah l e rest) := fun e rest hs => hc (HALL.out e rest hs).1.2.2
   have g : (k4 != 0) = true := by simpa using hc
   clear hc
   have HRM := zHd (HRB.out _ HG5.out)
   have q0 := cell_of HRM.out (k := 0) rfl
   have q1 := cell_of HRM.out (k := 1) rfl
   have q2 := cell_of HRM.out (k := 2) rfl
   have q3 := cell_of HRM.out (k := 3) rfl
   have z0 := frozen_four HRM.out (j := 0)
   have z1 := frozen_four HRM.out (j := 1)
   have z2 := frozen_four HRM.out (j := 2)
   have z3 := frozen_four HRM.out (j := 3)
   go_wp2_with fail
   refine entry_ret (p := 4) (q := 5) (by kernel_rfl) rfl rfl rfl (set_four HRM.out) ?_
   exact ⟨grown_new (grown_new (grown_new (grown_new (HWG.out _ HG5.out) (zNr _)) (zNr _)) (zNr _)) (zNr _), .inr ⟨⟨⟨[], 0, 0, []⟩, ⟨none, 0, none, 0⟩, rfl⟩, HNO.out⟩⟩
 subst hc
 by_cases hc : sq ≤ 2147483647
 rotate_left
 · have HNO : Hid (∀ e rest, ¬ Stands ah l e rest) := fun e rest hs => hc (HBD.out e rest hs).1
   have g : decide ((2147483647 : Int) < (sq : Int)) = true := by simp; omega
   have gn : decide (2147483647 < sq) = true := by simp; omega
   clear hc
   have HRM := zHd (HRB.out _ HG5.out)
   have q0 := cell_of HRM.out (k := 0) rfl
   have q1 := cell_of HRM.out (k := 1) rfl
   have q2 := cell_of HRM.out (k := 2) rfl
   have q3 := cell_of HRM.out (k := 3) rfl
   have z0 := frozen_four HRM.out (j := 0)
   have z1 := frozen_four HRM.out (j := 1)
   have z2 := frozen_four HRM.out (j := 2)
   have z3 := frozen_four HRM.out (j := 3)
   go_wp2_with fail
   refine entry_ret (p := 4) (q := 5) (by kernel_rfl) rfl rfl rfl (set_four HRM.out) ?_
   exact ⟨grown_new (grown_new (grown_new (grown_new (HWG.out _ HG5.out) (zNr _)) (zNr _)) (zNr _)) (zNr _), .inr ⟨⟨⟨[], 0, 0, []⟩, ⟨none, 0, none, 0⟩, rfl⟩, HNO.out⟩⟩
 have g5 : decide ((2147483647 : Int) < (sq : Int)) = false := by simp; omega
 have g5n : decide (2147483647 < sq) = false := by simp; omega
 have HSQ := zHd hc
 clear hc
 by_cases hc : 1 ≤ kd
 rotate_left
 · have HNO : Hid (∀ e rest, ¬ Stands ah l e rest) := fun e rest hs => hc (HBD.out e rest hs).2.1
   obtain rfl : kd = 0 := by omega
   clear hc
   have HRM := zHd (HRB.out _ HG5.out)
   have q0 := cell_of HRM.out (k := 0) rfl
   have q1 := cell_of HRM.out (k := 1) rfl
   have q2 := cell_of HRM.out (k := 2) rfl
   have q3 := cell_of HRM.out (k := 3) rfl
   have z0 := frozen_four HRM.out (j := 0)
   have z1 := frozen_four HRM.out (j := 1)
   have z2 := frozen_four HRM.out (j := 2)
   have z3 := frozen_four HRM.out (j := 3)
   go_wp2_with fail
   refine entry_ret (p := 4) (q := 5) (by kernel_rfl) rfl rfl rfl (set_four HRM.out) ?_
   exact ⟨grown_new (grown_new (grown_new (grown_new (HWG.out _ HG5.out) (zNr _)) (zNr _)) (zNr _)) (zNr _), .inr ⟨⟨⟨[], 0, 0, []⟩, ⟨none, 0, none, 0⟩, rfl⟩, HNO.out⟩⟩
 have g6 : decide ((kd : Int) < 1) = false := by simp; omega
 have g6n : decide (kd < 1) = false := by simp; omega
 have g6z : decide (kd = 0) = false := by simp; omega
 have g6e : (kd == 0) = false := by simp; omega
 have HK1 := zHd hc
 clear hc
 by_cases hc : kd ≤ 2
 rotate_left
 · have HNO : Hid (∀ e rest, ¬ Stands ah l e rest) := fun e rest hs => hc (HBD.out e rest hs).2.2
   have g : decide ((2 : Int) < (kd : Int)) = true := by simp; omega
   have gn : decide (2 < kd) = true := by simp; omega
   clear hc
   have HRM := zHd (HRB.out _ HG5.out)
   have q0 := cell_of HRM.out (k := 0) rfl
   have q1 := cell_of HRM.out (k := 1) rfl
   have q2 := cell_of HRM.out (k := 2) rfl
   have q3 := cell_of HRM.out (k := 3) rfl
   have z0 := frozen_four HRM.out (j := 0)
   have z1 := frozen_four HRM.out (j := 1)
   have z2 := frozen_four HRM.out (j := 2)
   have z3 := frozen_four HRM.out (j := 3)
   go_wp2_with fail
   refine entry_ret (p := 4) (q := 5) (by kernel_rfl) rfl rfl rfl (set_four HRM.out) ?_
   exact ⟨grown_new (grown_new (grown_new (grown_new (HWG.out _ HG5.out) (zNr _)) (zNr _)) (zNr _)) (zNr _), .inr ⟨⟨⟨[], 0, 0, []⟩, ⟨none, 0, none, 0⟩, rfl⟩, HNO.out⟩⟩
 have g7 : decide ((2 : Int) < (kd : Int)) = false := by simp; omega
 have g7n : decide (2 < kd) = false := by simp; omega
 have HK2 := zHd hc
 clear hc
 have HE1 : Hid (l = form n ++ l1) := HB.out.eq
 have HE2 : Hid (l1 = bytesForm sb ++ l2) := HO2.out.zero
 have HE3 : Hid (l2 = form sq ++ l3) := HO3.out.zero
 have HE4 : Hid (l3 = form kd ++ l4) := HO4.out.zero
 have HS32 : Hid (sb.length ≤ 32) := by
  rcases HO2.out with ⟨_, h1, _⟩ | ⟨h0, _⟩
  · unfold Hid; omega
  · exact absurd rfl h0
 have HSB : Hid (∀ x ∈ sb, x < 256) := fun x hx => HBYT.out x (by rw [HE1.out, HE2.out]; exact List.mem_append.2 (.inr (List.mem_append.2 (.inl (List.mem_append.2 (.inr hx))))))
 have HSUB : Hid (∀ x ∈ l4, x ∈ l) := fun x hx => by rw [HE1.out, HE2.out, HE3.out, HE4.out]; simp [hx]
 have HL4 : Hid (l4.length ≤ 1000000000000) := by
  have := HL.out; have := HO2.out.len.2.1; have := HO3.out.len.1; have := HO4.out.len.1; have := HL1.out; unfold Hid; omega
 obtain ⟨A2, hA2, hA2n, hrun⟩ := head_run .u64 A ah.length c n HN.out HC.out.1
 have hrun' : ∀ w, (Instr.slice 22 (.slice A ah.length c) none (some (.int .u64 (n : Int))) none).run Tryz.prog w = .ok (.slice A2 n c) w := hrun
 have HAB : Hid (Bs w5 lo2 hi2 (.slice A2 n c) (ah.take n)) := by
  obtain ⟨A', c', e1, h1, h2, h3, h4⟩ := HV.out
  injection e1 with e1 e2 e3
  subst e1 e3
  have hl : (ah.take n).length = n := by rw [List.length_take]; have := HN.out; omega
  have h5 : By w5 lo2 hi2 A ah := Sl.grown h4 HG5.out (by have := HH.out.1; have := HZ1.out; omega) (fun k hk => by injection hk with hk; have := HH.out.2; omega)
  have h6 := hA2 ah rfl _ _ _ h5
  exact ⟨A2, c, by rw [hl], by rw [hl]; have := HN.out; have := HC.out.1; omega, h2, fun e => h3 (hA2n e), h6⟩
 clear hA2 hA2n hrun
 have e1 : wrap64 (sq : Int) = (sq : Int) := wrap_small (by have := HSQ.out; omega)
 have e2 : wrap64 (kd : Int) = (kd : Int) := wrap_small (by have := HK2.out; omega)
 have e1' : IntKind.i64.wrap (sq : Int) = (sq : Int) := by have := HSQ.out; rw [IntKind.wrap_i64]; omega
 have e2' : IntKind.i64.wrap (kd : Int) = (kd : Int) := by have := HK2.out; rw [IntKind.wrap_i64]; omega
 obtain ⟨p0, hp0⟩ : ∃ p, p = ah.take n := ⟨_, rfl⟩
 have HP0 := zHd hp0
 have HP0L : Hid (p0.length ≤ 1000000000000) := by rw [hp0]; have := HL.out.1; unfold Hid; rw [List.length_take]; omega
 have HP0B : Hid (∀ x ∈ p0, x < 256) := fun x hx => HAH.out x (List.mem_of_mem_take (by rw [← hp0]; exact hx))
 rw [← hp0] at HAB
 clear hp0
 go_wp2_with (at_builtin; refine wpList_addbytes rfl (.const (.slice none 0 0)) (.tmp 72) rfl w5.heap.size _ [] rfl (Own.nil _ _) lo2 hi2 _ p0 rfl HAB.out (by have := HP0L.out; simp; omega) (zNr _) ?_)
 intro A6 c6 w6 ho6 hb6
 have HO6 := zHd ho6
 have HX6 : Hid (Ext w5 w6) := hb6 _ (Below.refl _ _)
 have HS6 := zHd (HS5.out.below HX6.out HZ5.out)
 obtain ⟨key, hkey⟩ : ∃ key, key = p0 ++ sb := ⟨_, rfl⟩
 have HKEY := zHd hkey
 clear ho6 hb6 hrun' hkey
 go_wp2_with (at_builtin; refine wpList_addbytes rfl (.tmp 73) (.tmp 74) rfl w5.heap.size _ p0 rfl HO6.out w2.heap.size w3.heap.size _ sb rfl HS6.out (by have := HP0L.out; have := HS32.out; omega) HX6.out.size ?_)
 intro kA kc w7 ho7 hb7
 have hln : p0.length + sb.length = key.length := by rw [HKEY.out, List.length_append]
 rw [hln] at ho7 ⊢
 rw [← HKEY.out] at ho7
 clear hln
 have HX7 : Hid (Ext w5 w7) := hb7 _ HX6.out
 have HO7 := zHd ho7
 have HKB : Hid (∀ x ∈ key, x < 256) := fun x hx => by
  rw [HKEY.out] at hx
  rcases List.mem_append.1 hx with hx | hx
  · exact HP0B.out x hx
  · exact HSB.out x hx
 clear ho7 hb7 d dI
 by_cases hk1 : kd = 1
 · subst hk1
   have e3 : ((1 : Int) == 1) = true := rfl
   go_upto_region 11 with (fail)
   obtain ⟨w8, hw8⟩ : ∃ w8, w8 = w7.alloc (.cells #[.slice kA key.length kc, .int .i64 (sq : Int), .int .i64 1, .slice none 0 0] 50) := ⟨_, rfl⟩
   rw [← hw8]
   have HX8 : Hid (Ext w7 w8) := by rw [hw8]; exact ext_alloc _ _
   have HB8 : Hid (w8.heap[w7.heap.size]? = some (.cells #[.slice kA key.length kc, .int .i64 (sq : Int), .int .i64 1, .slice none 0 0] 50 (0, 0))) := by rw [hw8]; exact heap_at _ _ rfl
   have HZ8 : Hid (w8.heap.size = w7.heap.size + 1) := by rw [hw8]; simp [Hid]
   have HX58 : Hid (Ext w5 w8) := zEt HX7.out HX8.out
   have HQ8 := zHd (HQ5.out.below HX58.out HQ5.out.top HQ5.out.lt)
   have HG8 := zHd (grown_ext HG5.out HX58.out)
   obtain ⟨g, hg⟩ : ∃ g, g = w7.heap.size := ⟨_, rfl⟩
   have HGG : Hid (w1.heap.size ≤ g ∧ w5.heap.size ≤ g ∧ r < w.heap.size ∧ w8.heap.size = g + 1 ∧ w1.heap.size = w.heap.size + 1) := by have := HG5.out.size; have := HX7.out.size; have := HZ8.out; have := HRW.out; have := HZ1.out; unfold Hid; omega
   have HK8 : Hid (Own w1.heap.size key (.slice kA key.length kc) w8) := (HO7.out.below HX8.out).base HG5.out.size
   have HKG : Hid (∀ b, (Value.slice kA key.length kc).ownBlock = some b → b < g) := fun b hb => by rw [hg]; exact (row_lt HO7.out b hb).2
   rw [← hg] at HB8 ⊢
   clear hw8 hg
   go_wp2_with fail
   refine (RBytes_slice HQ8.out HL4.out (by decide) (by decide)).mono ?_
   rintro x w9 ⟨vA, vc, vb, k5, l5, ho5, hbs, rfl, hqd, hg⟩
   have HO5 := zHd ho5
   have HV9 := zHd hbs
   have HQ9 := zHd hqd
   have HG9 := zHd (HG8.out.trans hg)
   have HZ9 : Hid (w8.heap.size ≤ w9.heap.size) := hg.size
   have HE9 : Hid (w9.heap[g]? = some (.cells #[.slice kA key.length kc, .int .i64 (sq : Int), .int .i64 1, .slice none 0 0] 50 (0, 0))) := (hg.block g (zAg.1 HB8.out).1 (fun e => by injection e with e; have := HGG.out; omega)).trans HB8.out
   have HK9 : Hid (Own w1.heap.size key (.slice kA key.length kc) w9) := HK8.out.grown hg (by have := HGG.out; omega)
   clear ho5 hbs hqd hg
   by_cases hk5 : k5 = 0
   rotate_left
   · have g5' : (k5 != 0) = true := by simpa using hk5
     have HNO : Hid (∀ e rest, ¬ Stands ah l e rest) := fun e rest hs => by
      obtain ⟨_, _, _, h3, h4⟩ := HALL.out e rest hs
      exact hk5 (h4.put h3 HO5.out).1
     clear hk5
     have HRM := zHd (HRB.out _ HG9.out)
     have q0 := cell_of HRM.out (k := 0) rfl
     have q1 := cell_of HRM.out (k := 1) rfl
     have q2 := cell_of HRM.out (k := 2) rfl
     have q3 := cell_of HRM.out (k := 3) rfl
     have z0 := frozen_four HRM.out (j := 0)
     have z1 := frozen_four HRM.out (j := 1)
     have z2 := frozen_four HRM.out (j := 2)
     have z3 := frozen_four HRM.out (j := 3)
     go_wp2_with fail
     refine entry_ret (p := 4) (q := 5) (by kernel_rfl) rfl rfl rfl (set_four HRM.out) ?_
     exact ⟨grown_new (grown_new (grown_new (grown_new (HWG.out _ HG9.out) (zNr _)) (zNr _)) (zNr _)) (zNr _), .inr ⟨⟨⟨[], 0, 0, []⟩, ⟨none, 0, none, 0⟩, rfl⟩, HNO.out⟩⟩
   subst hk5
   obtain ⟨wz, hwz⟩ : ∃ wz, wz = w9.setCell ⟨g, 3, none⟩ (.slice vA vb.length vc) := ⟨_, rfl⟩
   have HEZ : Hid (wz.heap[g]? = some (.cells #[.slice kA key.length kc, .int .i64 (sq : Int), .int .i64 1, .slice vA vb.length vc] 50 (0, 0))) := by rw [hwz]; exact heap_setCell_same w9 g 3 _ _ _ HE9.out
   have HGZ : Hid (w1.grownBy wz (some r)) := by rw [hwz]; exact grown_new HG9.out HGG.out.1
   have HQZ : Hid (Qd wz r lo hi l5) := by rw [hwz]; exact HQ9.out.set (by have := HTOP.out; have := HGG.out; omega) (by have := HGG.out; omega) _
   have HKZ : Hid (Own w1.heap.size key (.slice kA key.length kc) wz) := by
    rw [hwz]; exact HK9.out.wall fun b hb => Below.heap_setCell _ _ _ _ (by have := HKG.out b hb; show b ≠ g; omega)
   have HVZ : Hid (Bs wz w8.heap.size w9.heap.size (.slice vA vb.length vc) vb) := by rw [hwz]; exact HV9.out.setCell (.inl (by have := HGG.out; show g < w8.heap.size; omega)) _
   have HZZ : Hid (wz.heap.size = w9.heap.size) := by rw [hwz]; simp [Hid, World.setCell]
   have c3 := cell_of HE9.out (k := 3) rfl
   have z3 := frozen_four (j := 3) HE9.out
   obtain ⟨z, hz⟩ : ∃ z, z = mayN key.length (sq : Int) 1 vb.length := ⟨_, rfl⟩
   have HMAY : Hid (∀ u, Calls Tryz.prog 87 #[.agg #[.slice kA key.length kc, .int .i64 (sq : Int), .int .i64 1, .slice vA vb.length vc]] u fun e w' => e = .returned (.bool z) ∧ Ext u w') := fun u => by
    rw [hz]; exact rmay_any kA vA key.length kc vb.length vc (sq : Int) 1 u
   have HST : Hid (z = true → Stands ah l ⟨key, sq, 1, vb⟩ l5) := fun ht => by
    have hm : mayN (ah.take n ++ sb).length (sq : Int) ((1 : Nat) : Int) vb.length = true := by rw [← HP0.out, ← HKEY.out, ← ht, hz]; rfl
    have hs := Stands.of HN.out HE1.out HE2.out HE3.out HE4.out (by rw [if_pos (by rfl)]; exact HO5.out.zero) hm
    rw [← HP0.out, ← HKEY.out] at hs
    exact hs
   have HNO : Hid (z = false → ∀ e rest, ¬ Stands ah l e rest) := fun ht e rest hs => by
    obtain ⟨_, h1, h2, h3, h4⟩ := HALL.out e rest hs
    obtain ⟨_, h5, _⟩ := h4.put h3 HO5.out
    have hm := hs.1
    unfold Ent.may at hm
    rw [h1, h2, h3, h5, ← HP0.out, ← HKEY.out] at hm
    rw [ht] at hz
    exact absurd (hz.trans hm) (by decide)
   have HEM : Hid (∀ u, Ext wz u → Em u w1.heap.size u.heap.size ⟨key, sq, 1, vb⟩ ⟨kA, kc, vA, vc⟩) := fun u hu => by
    have hs := hu.size
    have := HZZ.out; have := HZ9.out; have := HGG.out
    exact ⟨Bs.of_own (HKZ.out.below hu), (HVZ.out.below hu (by omega)).wide (by omega) (by omega), HKB.out, fun x hx => HBYT.out x (HSUB.out x (HO5.out.len.2.2 x hx)), by dsimp only; omega, by have := HSQ.out; dsimp only; omega, by dsimp only; omega, by dsimp only; omega⟩
   clear hz
   go_upto_region 15 with (fail)
   rw [← hwz]
   clear c3 z3 hwz
   have p0c := cell_of HEZ.out (k := 0) rfl
   have p1c := cell_of HEZ.out (k := 1) rfl
   have p2c := cell_of HEZ.out (k := 2) rfl
   have p3c := cell_of HEZ.out (k := 3) rfl
   refine flow_tail (by kernel_rfl) [Is (.agg #[.slice kA key.length kc, .int .i64 (sq : Int), .int .i64 1, .slice vA vb.length vc]), Is (.agg #[.slice kA key.length kc, .int .i64 (sq : Int), .int .i64 1, .slice vA vb.length vc]), Is (.bool z)] 3 (by kernel_rfl) (by kernel_rfl) (by kernel_rfl) (by kernel_rfl) ?mono (fun f1 => ?obl) ?fin
   case mono =>
    simp only [List.forall_mem_cons, List.not_mem_nil, false_imp_iff, implies_true, and_true]
    and_intros <;> exact .is _
   case fin =>
    intro g1 u hu hg
    simp only [List.take_succ_cons, List.take_zero, List.drop_succ_cons, List.drop_zero, puts, Act.put, zq]
    have e0 : g1 0 = _ := hg 0 (by decide)
    have e2 : g1 2 = _ := hg 2 (by decide)
    rw [e0, e2]
    have HXU : Hid (Ext wz u) := zEt (Ext.drew wz) hu
    have HGU := zHd (grown_ext HGZ.out HXU.out)
    clear hg hu e0 e2 p0c p1c p2c p3c
    have HRM := zHd (HRB.out _ HGU.out)
    have q0 := cell_of HRM.out (k := 0) rfl
    have q1 := cell_of HRM.out (k := 1) rfl
    have q2 := cell_of HRM.out (k := 2) rfl
    have q3 := cell_of HRM.out (k := 3) rfl
    have z0 := frozen_four HRM.out (j := 0)
    have z1 := frozen_four HRM.out (j := 1)
    have z2 := frozen_four HRM.out (j := 2)
    have z3 := frozen_four HRM.out (j := 3)
    go_wp2_with fail
    refine entry_ret (p := 4) (q := 5) (by kernel_rfl) rfl rfl rfl (set_four HRM.out) ?_
    refine ⟨grown_new (grown_new (grown_new (grown_new (HWG.out _ HGU.out) (zNr _)) (zNr _)) (zNr _)) (zNr _), ?_⟩
    rcases hzz : z with _ | _
    · exact .inr ⟨⟨⟨key, sq, 1, vb⟩, ⟨kA, kc, vA, vc⟩, rfl⟩, HNO.out hzz⟩
    · refine .inl ⟨⟨key, sq, 1, vb⟩, ⟨kA, kc, vA, vc⟩, l5, HST.out hzz, rfl, ?_, ?_⟩
      · have hq := HQZ.out.below HXU.out HQZ.out.top HQZ.out.lt
        have hne : r ≠ w.heap.size := by have := HRW.out; omega
        exact (((hq.set HTOP.out hne _).set HTOP.out hne _).set HTOP.out hne _).set HTOP.out hne _
      · have h0 : w.heap.size < w1.heap.size := by have := HZ1.out; omega
        exact (((((HEM.out u HXU.out).setCell (.inl h0) _).setCell (.inl h0) _).setCell (.inl h0) _).setCell (.inl h0) _).wide (Nat.le_of_lt h0) (by simp [World.setCell])
   case obl =>
    refine ⟨fun u hu hd => ?_, fun u hu hd => ?_, fun u hu hd => ?_, trivial⟩
    all_goals try simp only [Act.put, zq]
    · have hu2 := zEt (Ext.drew wz) hu
      have q0 := ext_cell hu2 p0c
      have q1 := ext_cell hu2 p1c
      have q2 := ext_cell hu2 p2c
      have q3 := ext_cell hu2 p3c
      go_simp
      exact zEr
    · have hu2 := zEt (Ext.drew wz) hu
      have q0 := ext_cell hu2 p0c
      have q1 := ext_cell hu2 p1c
      have q2 := ext_cell hu2 p2c
      have q3 := ext_cell hu2 p3c
      go_simp
      exact zEr
    · have e1 : f1 1 = _ := hd 1 (by kernel_rfl)
      have hu2 := zEt (Ext.drew wz) hu
      go_simp
      refine (HMAY.out u).mono ?_
      rintro y w9 ⟨rfl, hx9⟩
      exact ⟨_, rfl, hx9, rfl⟩
 · have e3 : ((kd : Int) == 1) = false := by simp; omega
   have e3n : (kd == 1) = false := by simp; omega
   have HD1 := zHd hk1
   clear hk1
   obtain ⟨g, hg⟩ : ∃ g, g = w7.heap.size := ⟨_, rfl⟩
   obtain ⟨w8, hw8⟩ : ∃ w8, w8 = w7.alloc (.cells #[.slice kA key.length kc, .int .i64 (sq : Int), .int .i64 (kd : Int), .slice none 0 0] 50) := ⟨_, rfl⟩
   have HX8 : Hid (Ext w7 w8) := by rw [hw8]; exact ext_alloc _ _
   have HB8 : Hid (w8.heap[g]? = some (.cells #[.slice kA key.length kc, .int .i64 (sq : Int), .int .i64 (kd : Int), .slice none 0 0] 50 (0, 0))) := by rw [hw8, hg]; exact heap_at _ _ rfl
   have HX58 : Hid (Ext w5 w8) := zEt HX7.out HX8.out
   have HQ8 := zHd (HQ5.out.below HX58.out HQ5.out.top HQ5.out.lt)
   have HG8 := zHd (grown_ext HG5.out HX58.out)
   have HK8 : Hid (Own w1.heap.size key (.slice kA key.length kc) w8) := (HO7.out.below HX8.out).base HG5.out.size
   obtain ⟨z, hz⟩ : ∃ z, z = mayN key.length (sq : Int) (kd : Int) 0 := ⟨_, rfl⟩
   have HMAY : Hid (∀ u, Calls Tryz.prog 87 #[.agg #[.slice kA key.length kc, .int .i64 (sq : Int), .int .i64 (kd : Int), .slice none 0 0]] u fun e w' => e = .returned (.bool z) ∧ Ext u w') := fun u => by
    rw [hz]; exact rmay_any kA none key.length kc 0 0 (sq : Int) (kd : Int) u
   have HST : Hid (z = true → Stands ah l ⟨key, sq, kd, []⟩ l4) := fun ht => by
    have hm : mayN (ah.take n ++ sb).length (sq : Int) (kd : Int) ([] : List Nat).length = true := by rw [← HP0.out, ← HKEY.out, ← ht, hz]; rfl
    have hs := Stands.of HN.out HE1.out HE2.out HE3.out HE4.out (by rw [if_neg (by have := HD1.out; omega)]; rfl) hm
    rw [← HP0.out, ← HKEY.out] at hs
    exact hs
   have HNO : Hid (z = false → ∀ e rest, ¬ Stands ah l e rest) := fun ht e rest hs => by
    obtain ⟨_, h1, h2, h3, h4⟩ := HALL.out e rest hs
    obtain ⟨h5, _⟩ := h4.del (by rw [h3]; have := HD1.out; omega)
    have hm := hs.1
    unfold Ent.may at hm
    rw [h1, h2, h3, h5, ← HP0.out, ← HKEY.out] at hm
    rw [ht] at hz
    exact absurd (hz.trans hm) (by decide)
   have HEM : Hid (∀ u, Ext w8 u → Em u w1.heap.size u.heap.size ⟨key, sq, kd, []⟩ ⟨kA, kc, none, 0⟩) := fun u hu => by
    exact ⟨Bs.of_own (HK8.out.below hu), Bs.nil _ _ _, HKB.out, by simp, by dsimp only; omega, by have := HSQ.out; dsimp only; omega, by dsimp only; omega, by have := HK2.out; dsimp only; omega⟩
   clear hz
   go_upto_region 15 with (fail)
   rw [← hw8, ← hg]
   clear hw8 hg
   have p0c := cell_of HB8.out (k := 0) rfl
   have p1c := cell_of HB8.out (k := 1) rfl
   have p2c := cell_of HB8.out (k := 2) rfl
   have p3c := cell_of HB8.out (k := 3) rfl
   refine flow_tail (by kernel_rfl) [Is (.agg #[.slice kA key.length kc, .int .i64 (sq : Int), .int .i64 (kd : Int), .slice none 0 0]), Is (.agg #[.slice kA key.length kc, .int .i64 (sq : Int), .int .i64 (kd : Int), .slice none 0 0]), Is (.bool z)] 3 (by kernel_rfl) (by kernel_rfl) (by kernel_rfl) (by kernel_rfl) ?mono (fun f1 => ?obl) ?fin
   case mono =>
    simp only [List.forall_mem_cons, List.not_mem_nil, false_imp_iff, implies_true, and_true]
    and_intros <;> exact .is _
   case fin =>
    intro g1 u hu hg
    simp only [List.take_succ_cons, List.take_zero, List.drop_succ_cons, List.drop_zero, puts, Act.put, zq]
    have e0 : g1 0 = _ := hg 0 (by decide)
    have e2 : g1 2 = _ := hg 2 (by decide)
    rw [e0, e2]
    have HXU : Hid (Ext w8 u) := zEt (Ext.drew w8) hu
    have HGU := zHd (grown_ext HG8.out HXU.out)
    clear hg hu e0 e2 p0c p1c p2c p3c
    have HRM := zHd (HRB.out _ HGU.out)
    have q0 := cell_of HRM.out (k := 0) rfl
    have q1 := cell_of HRM.out (k := 1) rfl
    have q2 := cell_of HRM.out (k := 2) rfl
    have q3 := cell_of HRM.out (k := 3) rfl
    have z0 := frozen_four HRM.out (j := 0)
    have z1 := frozen_four HRM.out (j := 1)
    have z2 := frozen_four HRM.out (j := 2)
    have z3 := frozen_four HRM.out (j := 3)
    go_wp2_with fail
    refine entry_ret (p := 4) (q := 5) (by kernel_rfl) rfl rfl rfl (set_four HRM.out) ?_
    refine ⟨grown_new (grown_new (grown_new (grown_new (HWG.out _ HGU.out) (zNr _)) (zNr _)) (zNr _)) (zNr _), ?_⟩
    rcases hzz : z with _ | _
    · exact .inr ⟨⟨⟨key, sq, kd, []⟩, ⟨kA, kc, none, 0⟩, rfl⟩, HNO.out hzz⟩
    · refine .inl ⟨⟨key, sq, kd, []⟩, ⟨kA, kc, none, 0⟩, l4, HST.out hzz, rfl, ?_, ?_⟩
      · have hq := HQ8.out.below HXU.out HQ8.out.top HQ8.out.lt
        have hne : r ≠ w.heap.size := by have := HRW.out; omega
        exact (((hq.set HTOP.out hne _).set HTOP.out hne _).set HTOP.out hne _).set HTOP.out hne _
      · have h0 : w.heap.size < w1.heap.size := by have := HZ1.out; omega
        exact (((((HEM.out u HXU.out).setCell (.inl h0) _).setCell (.inl h0) _).setCell (.inl h0) _).setCell (.inl h0) _).wide (Nat.le_of_lt h0) (by simp [World.setCell])
   case obl =>
    refine ⟨fun u hu hd => ?_, fun u hu hd => ?_, fun u hu hd => ?_, trivial⟩
    all_goals try simp only [Act.put, zq]
    · have hu2 := zEt (Ext.drew w8) hu
      have q0 := ext_cell hu2 p0c
      have q1 := ext_cell hu2 p1c
      have q2 := ext_cell hu2 p2c
      have q3 := ext_cell hu2 p3c
      go_simp
      exact zEr
    · have hu2 := zEt (Ext.drew w8) hu
      have q0 := ext_cell hu2 p0c
      have q1 := ext_cell hu2 p1c
      have q2 := ext_cell hu2 p2c
      have q3 := ext_cell hu2 p3c
      go_simp
      exact zEr
    · have e1 : f1 1 = _ := hd 1 (by kernel_rfl)
      have hu2 := zEt (Ext.drew w8) hu
      go_simp
      refine (HMAY.out u).mono ?_
      rintro y w9 ⟨rfl, hx9⟩
      exact ⟨_, rfl, hx9, rfl⟩
end Go.Proofs.YtkdidghfcfcpfaaGreat
