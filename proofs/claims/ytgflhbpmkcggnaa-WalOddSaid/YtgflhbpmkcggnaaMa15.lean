/- Ircopy Icopies, joined. -/
import Derived.Test.YtgflhbpmkcggnaaMa4
import Derived.Laws.AppendOwn
import Derived.Test.YtgflhbpmkcggnaaMa6

/- The reference's Copy. -/
namespace Go.Proofs.Ytgflhbpmkcggnaa
open Go.ChangeShapes Go.WideShapes Go.ChangeAt Go.RowKit

set_option maxRecDepth 100000 in
/-- 'append([]byte(nil), s...)' as a run. -/
theorem clone_run {u : World} {lo hi : Nat} {A : Option Addr} {c : Nat} {l : List Nat} (h : Bs u lo hi (.slice A l.length c) l) (hl : l.length ≤ 1099511627776) :
    ∃ v w, (Builtin.append_ #[29, 29] 29 #[.slice none 0 0, .slice A l.length c]).run Try.prog u = .ok v w ∧ Ext u w ∧ Own u.heap.size l v w := by
  obtain ⟨i0, hi0, ix0, ix1, ix2⟩ := info_parts t5info
  obtain ⟨A', c', he, h1, h2, hnil, hby⟩ := h
  injection he with e1 _ e3
  subst e1 e3
  rcases A with _ | ad
  · obtain rfl := hnil rfl
    have hl0 : l = [] := List.eq_nil_of_length_eq_zero (by omega)
    subst hl0
    refine ⟨.slice none 0 0, u, ?_, Ext.refl _, Own.nil _ _⟩
    simp [Builtin.append_, run_underlying Try.underlying29, sizeOf, typeInfo, hi0, Builtin.lenOf, Builtin.firstCells]
  · obtain ⟨v', w', hr, ho, hg, _⟩ := run_append_own (P := Try.prog) u u.heap.size 29 29 5 i0 (.int .u8 0) 1 1 Try.underlying29 hi0 ix0 ix1 ix2 rfl (by omega) (.slice none 0 0) 0 [] (World.ownsRow_nil _ _ _ _) ad l.length c (bv l) (by rw [bv_length]; omega) (fun j q hj => by
        rcases hby with hby | ⟨b, o, he2, _, _, hc⟩
        · rw [hby] at hj; simp at hj
        · rw [Option.some.inj he2, addr_add]
          exact hc j q hj) (bv_one l) (by unfold maxLen; omega) (by omega) (Nat.le_refl _)
    refine ⟨v', w', hr, (Below.refl _ _).grown hg (Nat.le_refl _) (fun k hk => by cases hk), ?_⟩
    unfold Own
    simpa using ho

/-- The same, where a region draws its order. -/
theorem clone_obl {o : Oper} {a : Act} {x : Operand} {X : Prop} {u : World} {lo hi d : Nat} {A : Option Addr} {c : Nat} {l : List Nat} {R : Value → World → Prop} (_hg : o.guard = none) (ho : o.op = .call { callee := .builtin .append, args := #[.const (.slice none 0 0), x], argTypes := #[29, 29] })
    (ht : o.type = 29) (hd : o.dst = some d) (hx : a.eval x = .slice A l.length c) (hb : Bs u lo hi (.slice A l.length c) l) (hl : l.length ≤ 1099511627776) (hR : ∀ v w, Ext u w → Own u.heap.size l v w → R v w) {Z : Prop} [Decidable Z] (hZ : Z) :
    if Z then GivesR Try.prog ((execOp a.eval o).run Try.prog u) (fun v u' => Ext u u' ∧ R (kept o v) u') else X := by
  rw [if_pos hZ]
  obtain ⟨v, w, hr, h1, h2⟩ := clone_run hb hl
  have h0 : (execOp a.eval o).run Try.prog u = .ok (.value v) w := by
    have hc : a.eval (.const (.slice none 0 0)) = .slice none 0 0 := rfl
    unfold execOp
    simp only [ho, ht, resolve, invoke, builtin, Sem.run_bind, Sem.run_pure, Result.andThen_ok, List.map_toArray, List.map_cons, List.map_nil, hc, hx, hr]
  rw [h0]
  have hk : kept o v = v := by unfold kept; rw [hd]
  show Ext u w ∧ R (kept o v) w
  rw [hk]
  exact ⟨h1, hR _ _ h1 h2⟩

set_option maxRecDepth 100000 in
set_option maxHeartbeats 4000000 in
theorem rcopy_any {w : World} {lo hi : Nat} {e : Ent} {g : Hd} (hm : Em w lo hi e g) (hhi : hi ≤ w.heap.size) (hk : e.key.length ≤ 1099511627776) (hv : e.val.length ≤ 1099511627776) : Calls Try.prog 25 #[e.at_ g] w (CopyAns w e) := by
  obtain ⟨w1, hw1⟩ : ∃ w1, w1 = (w.alloc (.cells #[.slice g.kA e.key.length g.kc, .int .i64 e.seq, .int .i64 e.kind, .slice g.vA e.val.length g.vc] 48)).alloc (.cells #[.slice none 0 0, .int .i64 0, .int .i64 0, .slice none 0 0] 48) := ⟨_, rfl⟩
  have HX : Hid (Ext w w1) := by rw [hw1]; exact Ext.trans (ext_alloc _ _) (ext_alloc _ _)
  have HZ1 : Hid (w1.heap.size = w.heap.size + 2) := by rw [hw1]; simp [Hid]
  have HBX : Hid (w1.heap[w.heap.size]? = some (.cells #[.slice g.kA e.key.length g.kc, .int .i64 e.seq, .int .i64 e.kind, .slice g.vA e.val.length g.vc] 48 (0, 0))) := by rw [hw1]; exact ext_heap (ext_alloc _ _) (heap_at _ _ rfl)
  have HRX : Hid (w1.heap[w.heap.size + 1]? = some (.cells #[.slice none 0 0, .int .i64 0, .int .i64 0, .slice none 0 0] 48 (0, 0))) := by rw [hw1]; exact heap_at _ _ (by simp)
  have HM := Lib.hid hm
  have HHI := Lib.hid hhi
  have HK := Lib.hid hk
  have HV := Lib.hid hv
  clear hm hhi hk hv
  have c0 := cell_of HBX.out (k := 0) rfl
  have c3 := cell_of HBX.out (k := 3) rfl
  unfold Ent.at_
  go_enter Try.func25, Try.ntmps25
  go_upto_region 1 with (fail)
  rw [← hw1]
  clear hw1
  refine flow_tail (by kernel_rfl) [Is (.pointer (some ⟨w.heap.size, 0, none⟩)), Is (.slice g.kA e.key.length g.kc), Own w1.heap.size e.key, Is (.pointer (some ⟨w.heap.size, 3, none⟩)), Is (.slice g.vA e.val.length g.vc), Own w1.heap.size e.val, Is (.pointer (some ⟨w.heap.size, 0, none⟩))] 7 (by kernel_rfl) (by kernel_rfl) (by kernel_rfl) (by kernel_rfl) ?mono (fun f => ?obl) ?fin
  case mono =>
    simp only [List.forall_mem_cons, List.not_mem_nil, false_imp_iff, implies_true, and_true]
    exact ⟨.is _, .is _, .own _ _, .is _, .is _, .own _ _, .is _⟩
  case fin =>
    intro g1 u hu hg
    simp only [List.take_succ_cons, List.take_zero, List.drop_succ_cons, List.drop_zero, puts, Act.put, List.setIfInBounds_toArray, List.set_cons_zero, List.set_cons_succ]
    have h2 : Own w1.heap.size e.key (g1 2) u := hg 2 (by decide)
    have h5 : Own w1.heap.size e.val (g1 5) u := hg 5 (by decide)
    have h6 : g1 6 = .pointer (some ⟨w.heap.size, 0, none⟩) := hg 6 (by decide)
    obtain ⟨v2, e2⟩ : ∃ v, v = g1 2 := ⟨_, rfl⟩
    obtain ⟨v5, e5⟩ : ∃ v, v = g1 5 := ⟨_, rfl⟩
    rw [h6]
    rw [← e2] at h2 ⊢
    rw [← e5] at h5 ⊢
    have H2 := Lib.hid h2
    have H5 := Lib.hid h5
    obtain ⟨A2, c2, rfl⟩ := h2.slice
    obtain ⟨A5, c5, rfl⟩ := h5.slice
    have HU : Hid (Ext w1 u) := Ext.trans (Ext.drew w1) hu
    have hb1 := ext_heap HU.out HBX.out
    have hb2 := ext_heap HU.out HRX.out
    have q0 := cell_of hb1 (k := 0) rfl
    have q1 := cell_of hb1 (k := 1) rfl
    have q2 := cell_of hb1 (k := 2) rfl
    have q3 := cell_of hb1 (k := 3) rfl
    have z0 := frozen_four hb1 (j := 0)
    have z3 := frozen_four hb1 (j := 3)
    have r0 := cell_of hb2 (k := 0) rfl
    have r1 := cell_of hb2 (k := 1) rfl
    have r2 := cell_of hb2 (k := 2) rfl
    have r3 := cell_of hb2 (k := 3) rfl
    have y0 := frozen_four hb2 (j := 0)
    have y1 := frozen_four hb2 (j := 1)
    have y2 := frozen_four hb2 (j := 2)
    have y3 := frozen_four hb2 (j := 3)
    have HB2 := Lib.hid hb2
    clear h2 h5 h6 e2 e5 hb1 hb2 hg hu c0 c3
    go_wp2_with fail
    have n1 : w.heap.size < w1.heap.size := by have := HZ1.out; omega
    have n2 : w.heap.size + 1 < w1.heap.size := by have := HZ1.out; omega
    have n3 : w.heap.size ≤ w1.heap.size := Nat.le_of_lt n1
    have HUW := Ext.trans HX.out HU.out
    refine entry_ret1 (p := 2) (by kernel_rfl) rfl rfl (set_four (a := .slice none 0 0) (b := .int .i64 0) (c := .int .i64 0) (d := .slice none 0 0) ?_) ?_
    · rw [Below.heap_setCell _ _ _ _ (by simp), Below.heap_setCell _ _ _ _ (by simp)]; exact HB2.out
    · refine ⟨Below.setCell (Below.setCell (Below.setCell (Below.setCell (Below.setCell (Below.setCell HUW (Nat.le_refl _) _) (Nat.le_refl _) _) (Nat.le_succ _) _) (Nat.le_succ _) _) (Nat.le_succ _) _) (Nat.le_succ _) _, ⟨A2, c2, A5, c5⟩, rfl, ?_, ?_⟩
      · exact ((((((H2.out.far n1).far n1).far n2).far n2).far n2).far n2).base n3
      · exact ((((((H5.out.far n1).far n1).far n2).far n2).far n2).far n2).base n3
  case obl =>
    refine ⟨fun u hu hd => ?_, ?_⟩
    · go_simp
      exact ⟨Ext.refl _, rfl⟩
    refine ⟨fun u hu hd => ?_, ?_⟩
    · simp only [Act.put, List.setIfInBounds_toArray, List.set_cons_zero, List.set_cons_succ]
      have e0 : f 0 = (.pointer (some ⟨w.heap.size, 0, none⟩)) := hd 0 (by kernel_rfl)
      have q := ext_cell hu c0
      go_simp
      exact ⟨Ext.refl _, rfl⟩
    refine ⟨fun u hu hd => ?_, ?_⟩
    · simp only [Act.put, List.setIfInBounds_toArray, List.set_cons_zero, List.set_cons_succ]
      have e1 : f 1 = (.slice g.kA e.key.length g.kc) := hd 1 (by kernel_rfl)
      have hb := HM.out.k.below (Ext.trans HX.out (Ext.trans (Ext.drew w1) hu)) HHI.out
      refine clone_obl (x := .tmp 4) rfl rfl rfl rfl (by exact e1) hb HK.out (fun v w9 hx9 hown => hown.base (Ext.trans (Ext.drew w1) hu).size) (by kernel_rfl)
    refine ⟨fun u hu hd => ?_, ?_⟩
    · simp only [Act.put, List.setIfInBounds_toArray, List.set_cons_zero, List.set_cons_succ]
      go_simp
      exact ⟨Ext.refl _, rfl⟩
    refine ⟨fun u hu hd => ?_, ?_⟩
    · simp only [Act.put, List.setIfInBounds_toArray, List.set_cons_zero, List.set_cons_succ]
      have e3 : f 3 = (.pointer (some ⟨w.heap.size, 3, none⟩)) := hd 3 (by kernel_rfl)
      have q := ext_cell hu c3
      go_simp
      exact ⟨Ext.refl _, rfl⟩
    refine ⟨fun u hu hd => ?_, ?_⟩
    · simp only [Act.put, List.setIfInBounds_toArray, List.set_cons_zero, List.set_cons_succ]
      have e4 : f 4 = (.slice g.vA e.val.length g.vc) := hd 4 (by kernel_rfl)
      have hb := HM.out.v.below (Ext.trans HX.out (Ext.trans (Ext.drew w1) hu)) HHI.out
      refine clone_obl (x := .tmp 7) rfl rfl rfl rfl (by exact e4) hb HV.out (fun v w9 hx9 hown => hown.base (Ext.trans (Ext.drew w1) hu).size) (by kernel_rfl)
    refine ⟨fun u hu hd => ?_, ?_⟩
    · simp only [Act.put, List.setIfInBounds_toArray, List.set_cons_zero, List.set_cons_succ]
      go_simp
      exact ⟨Ext.refl _, rfl⟩
    trivial
end Go.Proofs.Ytgflhbpmkcggnaa

/- The reference's CopyList. -/
namespace Go.Proofs.Ytgflhbpmkcggnaa
open Go.ChangeShapes Go.WideShapes Go.ChangeAt Go.RowKit

set_option maxRecDepth 100000 in
set_option maxHeartbeats 4000000 in
theorem copies_any {w : World} {lo hi : Nat} {A : Option Addr} {c : Nat} {L : List (Ent × Hd)} (h : Es w lo hi A L) (hhi : hi ≤ w.heap.size) (hlen : L.length ≤ 1000000) (hln : ∀ p ∈ L, p.1.key.length + p.1.val.length < 100000) :
    Calls Try.prog 11 #[.slice A L.length c] w fun x w' => ∃ (R : List (Ent × Hd)) (v : Value), R.map Prod.fst = L.map Prod.fst ∧ x = .returned v ∧ Got w.heap.size v R w' ∧ Ext w w' := by
  have HE := Lib.hid h
  have HHI := Lib.hid hhi
  have HL := Lib.hid hlen
  have HLN := Lib.hid hln
  clear h hhi hln
  go_enter Try.func11, Try.ntmps11
  go_wp2_with fail
  go_loopw [3, 4] (fun v i wr => ∃ (k : Nat) (R : List (Ent × Hd)), k ≤ L.length ∧ i = .int .i64 (k : Int) ∧ Hid (R.map Prod.fst = (L.map Prod.fst).take k) ∧ Hid (Got w.heap.size v R wr) ∧ Hid (Ext w wr)) (fun _ i _ => L.length - (intOf i).toNat)
  case atStart => exact ⟨0, [], by omega, rfl, by simp [Hid], Lib.hid (Got.nil _ _), Lib.hid (Ext.refl _)⟩
  case round =>
    obtain ⟨k, R, hk, rfl, HR, HG, HX⟩ := hrel
    by_cases hlt : k < L.length
    · have d : decide ((k : Int) < (L.length : Int)) = true := decide_eq_true (by omega)
      have dn : decide (k < L.length) = true := decide_eq_true hlt
      obtain ⟨b, o, hA⟩ := HE.out.base (by omega)
      subst hA
      obtain ⟨p, hp⟩ : ∃ p, L[k]? = some p := ⟨_, List.getElem?_eq_getElem hlt⟩
      obtain ⟨c0, c1, c2, c3⟩ := (HE.out.below HX.out HHI.out).get hp
      have HP := Lib.hid hp
      have HEM : Hid (Em wr lo hi p.1 p.2) := (HE.out.below HX.out HHI.out).each p (List.mem_of_getElem? hp)
      have HRC := Lib.hid (rcopy_any HEM.out (Nat.le_trans HHI.out HX.out.size) (by have := HLN.out p (List.mem_of_getElem? hp); omega) (by have := HLN.out p (List.mem_of_getElem? hp); omega))
      unfold Ent.at_ at HRC
      have HRL : Hid (R.length = k) := by have h := congrArg List.length HR.out; simp at h; unfold Hid; omega
      have n1 : (0 : Int) ≤ (k : Int) := by omega
      have n2 : (k : Int) < (L.length : Int) := by omega
      clear hp
      go_wp2_with fail
      refine HRC.out.mono ?_
      rintro x w2 ⟨hx2, g, rfl, ho1, ho2⟩
      have HX2 : Hid (Ext wr w2) := hx2
      have HMI : Hid (Mine w.heap.size (p.1, g) w2) := ⟨ho1.base HX.out.size, ho2.base HX.out.size, ⟨HEM.out.bk, HEM.out.bv, HEM.out.s1, HEM.out.s2, HEM.out.d1, HEM.out.d2⟩⟩
      have HG2 := Lib.hid (HG.out.below hx2)
      clear hx2 ho1 ho2 c0 c1 c2 c3 HRC
      unfold Ent.at_
      go_wp2_with (at_builtin; refine wpList_pushent rfl (.tmp 11) (.tmp 17) rfl w.heap.size _ R rfl (HG2.out.below (ext_alloc _ _)) (p.1, g) w2.heap.size rfl ?blk (HMI.out.below (ext_alloc _ _)) ?len ?hB ?_)
      case blk => exact heap_at _ _ rfl
      case len => have := HRL.out; omega
      case hB => exact Nat.le_trans (Nat.le_trans HX.out.size HX2.out.size) (ext_alloc _ _).size
      intro A3 c3' w3 hgot3 hb3
      have HX3 : Hid (Ext w w3) := hb3 _ (Below.alloc (Ext.trans HX.out HX2.out) (Nat.le_trans HX.out.size HX2.out.size) _)
      have HG3 := Lib.hid hgot3
      clear hgot3 hb3
      go_wp2_with fail
      go_roundw
      case rel => exact ⟨k + 1, R ++ [(p.1, g)], by omega, by go_num, Lib.hid (by
        have e1 : k < (L.map Prod.fst).length := by rw [List.length_map]; exact hlt
        rw [List.take_succ_eq_append_getElem e1, List.map_append, HR.out]
        have h1 := (List.getElem?_eq_some_iff.1 HP.out).2
        simp [h1]), HG3, HX3⟩
      case measure => simp [intOf]; omega
    · have d : decide ((k : Int) < (L.length : Int)) = false := decide_eq_false (by omega)
      have dn : decide (k < L.length) = false := decide_eq_false hlt
      have HF : Hid (R.map Prod.fst = L.map Prod.fst) := by have h := HR.out; rwa [List.take_of_length_le (by rw [List.length_map]; omega)] at h
      clear hlt hk
      go_wp2_with fail
      go_ret
      exact ⟨R, u3, HF.out, rfl, HG.out, HX.out⟩
end Go.Proofs.Ytgflhbpmkcggnaa
