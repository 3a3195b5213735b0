import Derived.Test.YtkdidghfcfcpfaaGreatMb18
import Derived.Test.YtkdidghfcfcpfaaGreatMb11
import Derived.Test.YtkdidghfcfcpfaaGreatMb14
import Derived.Test.YtkdidghfcfcpfaaGreatMb2
import Derived.Test.YtkdidghfcfcpfaaGreatMb3
import Derived.Lib.SlBytesConst
import Derived.Lib.SmallJoins
import Derived.Test.YtkdidghfcfcpfaaGreatMb15
import Derived.Test.YtkdidghfcfcpfaaGreatMb0
namespace Go.Proofs.YtkdidghfcfcpfaaGreat
open Go.ChangeShapes Go.WideShapes Go.ChangeAt Go.RowKit
theorem idxs_take_le : ∀ (C : List (List Ent)) (k a : Nat), (idxs a (C.take k)).length ≤ (idxs a C).length
 | [], k, a => by simp
 | p :: C, 0, a => by simp [idxs]
 | p :: C, k + 1, a => by
  have := idxs_take_le C k (a + (wr p).length)
  simp only [List.take_succ_cons, idxs, List.length_append]; omega
theorem idxs_at {C : List (List Ent)} {k : Nat} {p : List Ent} (h : C[k]? = some p) : idxs 0 (C.take (k + 1)) = idxs 0 (C.take k) ++ idx1 p (blks (C.take k)).length (wr p).length := by
 obtain ⟨hk, rfl⟩ := zLg.1 h
 rw [List.take_succ_eq_append_getElem hk, idxs_snoc, Nat.zero_add]
theorem idx1_at {q : List Ent} {m : Nat} {e : Ent} (hm : q.length = m + 1) (he : q[m]? = some e) (a n : Nat) : idx1 q a n = bytesForm e.key ++ (form e.seq.toNat ++ (form a ++ form n)) := by
 unfold idx1
 have : q.getLast? = some e := by rw [List.getLast?_eq_getElem?, hm]; exact he
 rw [this]; rfl
def BoxV (B : Nat) (v : Value) (u : World) : Prop := ∃ (g : Nat) (cs : Array Value), v = .pointer (some ⟨g, 0, none⟩) ∧ B ≤ g ∧ u.heap[g]? = some (.cells cs 50 (0, 0)) ∧ cs.size = 4
theorem BoxV.mono (B : Nat) : Mono (BoxV B) := fun _ _ _ ⟨g, cs, h, hb, hg, hs⟩ hx => ⟨g, cs, h, hb, ext_heap hx hg, hs⟩
def RTAns (w : World) (Ls : List Ent) (x : Ending) (w' : World) : Prop :=
 Ext w w' ∧ ∃ (C : List (List Ent)) (v : Value), x = .returned v ∧ C.flatten = Ls ∧ Cuts C ∧ Own w.heap.size (tb C Ls) v w'
set_option maxRecDepth 100000 in
set_option maxHeartbeats 16000000 in
theorem rtwrite_any {w : World} {lo hi c : Nat} {A : Option Addr} {L : List (Ent × Hd)} (h : Es w lo hi A L) (hhi : hi ≤ w.heap.size) (hm : MayT (L.map Prod.fst)) :
    Calls Tryz.prog 30 #[.slice A L.length c] w (RTAns w (L.map Prod.fst)) := by
 have HE := zHd h
 have HHI := zHd hhi
 have HM := zHd hm
 have HLEN : Hid (1 ≤ L.length ∧ L.length ≤ 4096) := by have h1 := hm.1; have h2 := hm.2.1; rw [List.length_map] at h1 h2; exact ⟨h1, h2⟩
 have HC := zHd (rtcut_any (c := c) h hhi hm)
 obtain ⟨Ls, hLs⟩ : ∃ Ls, Ls = L.map Prod.fst := ⟨_, rfl⟩
 have HLS := zHd hLs
 rw [← hLs] at HM ⊢
 clear h hhi hm hLs
 go_enter Tryz.func30, Tryz.ntmps30
 go_wp2_with fail
 refine HC.out.mono ?_
 rintro x w3 ⟨hx3, C, X, dd, rfl, hfl, hcuts, hrow⟩
 have hne : C ≠ [] := fun e => by rw [e] at hfl; have := HLEN.out; rw [← hfl] at this; simp at this
 obtain ⟨gO, rfl, hpc⟩ := hrow.pcs HE.out HHI.out hx3 hfl hne
 obtain ⟨Cs, hCs⟩ : ∃ Cs, Cs = C.map (·.map Prod.fst) := ⟨_, rfl⟩
 have HX3 : Hid (Ext w w3) := hx3
 have HPC := zHd hpc
 have HCS := zHd hCs
 have HCU : Hid (Cuts Cs) := by rw [hCs]; exact hcuts
 have HCF : Hid (Cs.flatten = Ls) := by unfold Hid; rw [hCs, HLS.out, ← hfl, List.map_flatten]
 have HMY : Hid (∀ e ∈ Cs.flatten, e.may = true) := by rw [HCF.out]; exact HM.out.2.2.2
 have HMB : Hid (∀ p ∈ Cs, MayB p) := pieces_mayB (by rw [HCF.out]; exact HM.out.2.2.1) HMY.out HCU.out
 have HCL : Hid (Cs.length = C.length) := by rw [hCs]; simp [Hid]
 have HCN : Hid (1 ≤ C.length ∧ C.length ≤ 4096) := by
  have h1 := tcuts_len HCU.out
  rw [HCF.out, HLS.out, List.length_map, HCL.out] at h1
  have h2 := List.length_pos_iff.2 hne
  have := HLEN.out
  unfold Hid; omega
 have HBM : Hid ((blks Cs).length ≤ 269144064) := by
  have h1 := blks_most HCU.out HMY.out
  rw [HCF.out, HLS.out, List.length_map] at h1
  have := HLEN.out
  unfold Hid; omega
 have HIM : Hid ((idxs 0 Cs).length ≤ 294912) := by
  have h1 := idxs_most (a := 0) HCU.out HMY.out (by have := HBM.out; omega)
  rw [HCL.out] at h1
  have := HCN.out
  unfold Hid; omega
 have HFN : Hid ((form C.length).length ≤ 10) := form_len64 ⟨by have := HCN.out; omega⟩
 obtain ⟨N, hN⟩ : ∃ N, N = C.length := ⟨_, rfl⟩
 have HN := zHd hN
 rw [← hN] at HCN HCL HFN ⊢
 have hnI : (N : Int) ≤ 4096 := by have := HCN.out; omega
 clear hx3 hfl hcuts hrow hne hpc hCs hN HC
 have hq : IntKind.u64.wrap (N : Int) = (N : Int) := by have := HCN.out; rw [IntKind.wrap_u64]; omega
 go_wp2_with fail
 refine (rnumber_any N ⟨by have := HCN.out; omega⟩ _).mono ?_
 rintro x w4 ⟨v4, rfl, ho4, hx4⟩
 have ho4' : Own w3.heap.size (form N) v4 w4 := ho4
 obtain ⟨A4, c4, rfl⟩ := ho4'.slice
 have HST4 : Hid (W2 w3 (blks (Cs.take 0)) (form N ++ idxs 0 (Cs.take 0)) none 0 A4 c4 w4) := by
  have e : form N ++ idxs 0 (Cs.take 0) = form N := by simp [idxs]
  unfold Hid
  rw [e]
  exact ⟨World.ownsRow_nil _ _ _ _, ho4', hx4, fun g hg => by cases hg⟩
 have HAL : Hid ((form N).length = (form N ++ idxs 0 (Cs.take 0)).length) := by simp [idxs, Hid]
 rw [HAL.out]
 clear ho4 hx4 hq ho4' HAL
 go_wp2_with fail
 go_loopw [4, 5, 6, 7, 8, 9] (fun bv_ rv iv_ _ _ _ wq => ∃ (k : Nat) (BA RA : Option Addr) (bc rc : Nat), k ≤ N ∧ iv_ = .int .i64 (k : Int) ∧ bv_ = .slice BA (blks (Cs.take k)).length bc ∧ rv = .slice RA (form N ++ idxs 0 (Cs.take k)).length rc ∧ Hid (W2 w3 (blks (Cs.take k)) (form N ++ idxs 0 (Cs.take k)) BA bc RA rc wq))
  (fun _ _ x _ _ _ _ => N - (intOf x).toNat)
 case atStart => exact ⟨0, none, A4, 0, c4, Nat.zero_le _, rfl, rfl, by simp, HST4⟩
 case round =>
  rename World => wq
  obtain ⟨k, BA, RA, bc, rc, hk, rfl, rfl, rfl, HST⟩ := hrel
  by_cases hlt : k < N
  · have d : decide ((k : Int) < (N : Int)) = true := decide_eq_true (by omega)
    have dn : decide (k < N) = true := decide_eq_true hlt
    have HLT := zHd hlt
    have HKC : Hid (k < C.length) := by rw [← HN.out]; exact hlt
    obtain ⟨q, hq⟩ : ∃ q, C[k]? = some q := ⟨_, List.getElem?_eq_getElem HKC.out⟩
    have HQS : Hid (Cs[k]? = some (q.map Prod.fst)) := by unfold Hid; rw [HCS.out, List.getElem?_map, hq]; rfl
    have HMQ := zHd (HMB.out _ (List.mem_of_getElem? HQS.out))
    obtain ⟨qA, qc, hcl, hes⟩ := HPC.out k q hq
    have HESQ := zHd hes
    obtain ⟨m, hm⟩ : ∃ m, q.length = m + 1 := ⟨q.length - 1, by have := HMQ.out.1; rw [List.length_map] at this; omega⟩
    have HQM := zHd hm
    obtain ⟨qb, qo, rfl⟩ := hes.base (by omega)
    rw [hm] at hcl
    have HCL3 := zHd hcl
    have HHS : Hid (w3.heap.size ≤ w3.heap.size) := zNr _
    obtain ⟨pe, hpe⟩ : ∃ pe, q[m]? = some pe := ⟨_, List.getElem?_eq_getElem (by omega)⟩
    have HPE := zHd hpe
    obtain ⟨ql, hql⟩ : ∃ ql, ql = q.map Prod.fst := ⟨_, rfl⟩
    have HQL := zHd hql
    rw [← hql] at HQS HMQ
    have HPM : Hid (ql[m]? = some pe.1) := by unfold Hid; rw [hql, List.getElem?_map, hpe]; rfl
    have HQLM : Hid (ql.length = m + 1) := by rw [hql, List.length_map]; exact hm
    have n1 : (0 : Int) ≤ (k : Int) := Int.natCast_nonneg _
    have n2 : (k : Int) < (N : Int) := Int.ofNat_lt.2 hlt
    have HW7 := zHd (rwrite_any (c := qc) (HESQ.out.below HST.out.x (zNr _)) HST.out.x.size (by rw [← hql]; exact HMQ.out))
    rw [hm, ← hql] at HW7
    have c0 := ext_cell HST.out.x HCL3.out
    clear hk hlt hq hm hcl hes hpe hql
    obtain ⟨T0, hT0⟩ : ∃ T0, T0 = blks (Cs.take k) := ⟨_, rfl⟩
    obtain ⟨S0, hS0⟩ : ∃ S0, S0 = form N ++ idxs 0 (Cs.take k) := ⟨_, rfl⟩
    have HT0 := zHd hT0
    have HS0 := zHd hS0
    rw [← hT0, ← hS0] at HST ⊢
    have HTM : Hid (T0.length ≤ 269144064 ∧ S0.length ≤ 294922) := by
     have h1 := blks_take_le Cs k
     have h2 := idxs_take_le Cs k 0
     have := HBM.out; have := HIM.out; have := HFN.out
     refine ⟨by rw [hT0]; omega, by rw [hS0, List.length_append]; omega⟩
    clear hT0 hS0
    go_wp2_with fail
    refine HW7.out.mono ?_
    rintro x w8 ⟨VA, vc, RA8, rc8, rfl, hst8⟩
    have HX8 : Hid (Ext wq w8) := hst8.x
    obtain ⟨n8, hn8⟩ : ∃ n8, n8 = (wr ql).length := ⟨_, rfl⟩
    have HN8 := zHd hn8
    have HB8 : Hid (Bs w8 wq.heap.size w8.heap.size (.slice VA (wr ql).length vc) (wr ql)) := Bs.of_own hst8.b
    have HRA9 : Hid (∀ g, (Value.slice RA S0.length rc).ownBlock = some g → g < wq.heap.size ∨ w8.heap.size ≤ g) := fun g hg => .inl (row_lt HST.out.r g hg).2
    rw [← hn8] at HB8 ⊢
    have HST8 := zHd (HST.out.ext hst8.x)
    have d0 := ext_cell hst8.x c0
    obtain ⟨e0, e1, e2, e3⟩ := (HESQ.out.below HST8.out.x (zNr _)).get HPE.out
    have m1 : (0 : Int) ≤ (m : Int) := Int.natCast_nonneg _
    have m2 : (m : Int) < ((m + 1 : Nat) : Int) := by omega
    have m3 : (m : Int) < (m : Int) + 1 := by omega
    clear hst8 hn8 c0 HW7
    go_upto_region 8 with (fail)
    refine flow_tail (by kernel_rfl) [Is (.slice (some ⟨gO, 0, none⟩) N dd), Is (.int .i64 (k : Int)), Is (.pointer (some ⟨gO, k, none⟩)), Is (.slice (some ⟨qb, qo, none⟩) (m + 1) qc), Is (.slice (some ⟨gO, 0, none⟩) N dd), Is (.int .i64 (k : Int)), Is (.pointer (some ⟨gO, k, none⟩)), Is (.slice (some ⟨qb, qo, none⟩) (m + 1) qc), Is (.int .i64 ((m + 1 : Nat) : Int)), Is (.int .i64 (m : Int)), Is (.pointer (some ⟨qb, qo + m * 4, none⟩)), Is (.agg #[.slice pe.2.kA pe.1.key.length pe.2.kc, .int .i64 pe.1.seq, .int .i64 pe.1.kind, .slice pe.2.vA pe.1.val.length pe.2.vc]), BoxV w8.heap.size] 13 (by kernel_rfl) (by kernel_rfl) (by kernel_rfl) (by kernel_rfl) ?mono (fun f1 => ?obl) ?fin
    case mono =>
     simp only [List.forall_mem_cons, List.not_mem_nil, false_imp_iff, implies_true, and_true]
     exact ⟨.is _, .is _, .is _, .is _, .is _, .is _, .is _, .is _, .is _, .is _, .is _, .is _, BoxV.mono _⟩
    case fin =>
     intro g1 u hu hg
     simp only [List.take_succ_cons, List.take_zero, List.drop_succ_cons, List.drop_zero, puts, Act.put, zq]
     obtain ⟨gb, cs, h12, hgb0, hgb, hcs⟩ := (show BoxV w8.heap.size (g1 12) u from hg 12 (by decide))
     have e11 : g1 11 = _ := hg 11 (by decide)
     rw [h12, e11]
     have HXU : Hid (Ext w8 u) := zEt (Ext.drew w8) hu
     refine wpList_store_row rfl 50 (.tmp 9) (.tmp 46) rfl gb _ rfl rfl 50 cs hgb (by kernel_rfl) (by rw [hcs]; rfl) (by simp [Value.oneCell']) ?_
     obtain ⟨w9, hw9⟩ : ∃ w9, w9 = u.setRow gb #[.slice pe.2.kA pe.1.key.length pe.2.kc, .int .i64 pe.1.seq, .int .i64 pe.1.kind, .slice pe.2.vA pe.1.val.length pe.2.vc] := ⟨_, rfl⟩
     rw [← hw9]
     have HX9 : Hid (Ext w8 w9) := by rw [hw9]; exact below_sr HXU.out hgb0 _
     have HBX9 : Hid (w9.heap[gb]? = some (.cells #[.slice pe.2.kA pe.1.key.length pe.2.kc, .int .i64 pe.1.seq, .int .i64 pe.1.kind, .slice pe.2.vA pe.1.val.length pe.2.vc] 50 (0, 0))) := by rw [hw9]; exact setRow_heap _ _ _ _ _ _ hgb
     have HST9 := zHd (HST8.out.ext HX9.out)
     have HB9 := zHd (HB8.out.below HX9.out (zNr _))
     have HSZ9 : Hid (w8.heap.size ≤ w9.heap.size) := HX9.out.size
     have hmp := HMY.out pe.1 (List.mem_flatten.2 ⟨ql, List.mem_of_getElem? HQS.out, List.mem_of_getElem? HPM.out⟩)
     have HMP := zHd (mayN_iff.1 hmp)
     have HEM : Hid (Em w3 0 w3.heap.size pe.1 pe.2) := HESQ.out.each pe (List.mem_of_getElem? HPE.out)
     obtain ⟨qn, hqn, hqt⟩ : ∃ n : Nat, pe.1.seq = (n : Int) ∧ pe.1.seq.toNat = n := ⟨pe.1.seq.toNat, by have := HMP.out; omega, rfl⟩
     have HQN := zHd hqn
     have HQT := zHd hqt
     have HUQ : Hid (U64 qn) := by have := (Ent.may_u64 hmp).2.1; rw [hqt] at this; exact this
     have HTN : Hid (T0.length + n8 ≤ 269144064 ∧ 0 < n8) := by
      have h1 := blks_take_le Cs (k + 1)
      rw [offB_succ HQS.out, ← HT0.out, List.length_append, ← HN8.out] at h1
      have h2 := wr_pos ql
      rw [← HN8.out] at h2
      have := HBM.out
      refine ⟨by omega, by omega⟩
     have HFL : Hid ((bytesForm pe.1.key).length ≤ 60 ∧ (form qn).length ≤ 10 ∧ (form T0.length).length ≤ 10 ∧ (form n8).length ≤ 10) := by
      have h1 := HMP.out
      have h2 := (bytesForm_len (l := pe.1.key) ⟨by omega⟩).1
      exact ⟨by omega, form_len64 HUQ.out, form_len64 ⟨by have := HTM.out; omega⟩, form_len64 ⟨by have := HTN.out; omega⟩⟩
     clear h12 e11 hg hu hgb0 hgb hcs hw9 hmp hqn hqt d0 e0 e1 e2 e3 HXU HB8
     have b0 := cell_of HBX9.out (k := 0) rfl
     go_wp2_with fail
     refine (rbytes_any _ 0 w3.heap.size pe.1.key _ (HEM.out.k.below HST9.out.x (zNr _)) HST9.out.x.size (by have := HMP.out; omega)).mono ?_
     intro x v9 hN
     obtain ⟨NA9, nc9, rfl, hbs, hx⟩ := hN.out
     have HBS9 := zHd hbs
     have HSX9 := zHd (HST9.out.ext hx)
     have hx9 := hx
     clear b0
     obtain ⟨S9, hS9⟩ : ∃ T, T = S0 ++ bytesForm pe.1.key := ⟨_, rfl⟩
     have HS9 := zHd hS9
     have HSL9 : Hid (S9.length = S0.length + (bytesForm pe.1.key).length) := by rw [hS9]; exact List.length_append ..
     clear hS9
     go_wp2_with (at_builtin; refine w2_addr rfl (.tmp 47) (.tmp 50) rfl HSX9.out rfl _ _ _ (bytesForm pe.1.key) rfl HBS9.out (bytesForm_pos _) (by have := HTM.out; have := HFL.out;  omega) S9 HS9.out ?_)
     intro B9 c9x u9 hst hgr hf
     have HST10 := zHd hst
     have HBX10 : Hid (u9.heap[gb]? = _) := box_kept HSX9.out.r (ext_heap hx9 HBX9.out) hgr
     have HSV9 : Hid (w8.heap.size ≤ v9.heap.size) := zNt HSZ9.out hx.size
     have HB10 := zHd ((HB9.out.below hx HSZ9.out).grown hgr HSV9.out HRA9.out)
     have HSZ10 : Hid (w8.heap.size ≤ u9.heap.size) := zNt HSV9.out hgr.size
     have HRA10 : Hid (∀ g, (Value.slice B9 S9.length c9x).ownBlock = some g → g < wq.heap.size ∨ w8.heap.size ≤ g) := fun g hg => by
      rcases hf with hf | hf
      · exact HRA9.out g (by rw [← hf]; exact hg)
      · rw [hf] at hg; injection hg with hg; have := HSV9.out; omega
     clear hN hbs hx hst hgr hf hx9
     have b1 := cell_of HBX10.out (k := 1) rfl
     rw [HQN.out] at b1
     have hq : IntKind.u64.wrap (qn : Int) = (qn : Int) := by have := HMP.out; have := HQT.out; rw [IntKind.wrap_u64]; omega
     go_wp2_with fail
     refine (rnumber_any qn HUQ.out _).mono ?_
     intro x v10 hN
     obtain ⟨NA10, nc10, rfl, hbs, hx⟩ := hN.out
     have HBS10 := zHd hbs
     have HSX10 := zHd (HST10.out.ext hx)
     have hx10 := hx
     clear b1 hq
     obtain ⟨S10, hS10⟩ : ∃ T, T = S9 ++ form qn := ⟨_, rfl⟩
     have HS10 := zHd hS10
     have HSL10 : Hid (S10.length = S9.length + (form qn).length) := by rw [hS10]; exact List.length_append ..
     clear hS10
     go_wp2_with (at_builtin; refine w2_addr rfl (.tmp 52) (.tmp 56) rfl HSX10.out rfl _ _ _ (form qn) rfl HBS10.out (form_pos _) (by have := HTM.out; have := HFL.out; have := HSL9.out; omega) S10 HS10.out ?_)
     intro B10 c10x u10 hst hgr hf
     have HST11 := zHd hst
     have HSV10 : Hid (w8.heap.size ≤ v10.heap.size) := zNt HSZ10.out hx.size
     have HB11 := zHd ((HB10.out.below hx HSZ10.out).grown hgr HSV10.out HRA10.out)
     have HSZ11 : Hid (w8.heap.size ≤ u10.heap.size) := zNt HSV10.out hgr.size
     have HRA11 : Hid (∀ g, (Value.slice B10 S10.length c10x).ownBlock = some g → g < wq.heap.size ∨ w8.heap.size ≤ g) := fun g hg => by
      rcases hf with hf | hf
      · exact HRA10.out g (by rw [← hf]; exact hg)
      · rw [hf] at hg; injection hg with hg; have := HSV10.out; omega
     clear hN hbs hx hst hgr hf hx10
     have hq : IntKind.u64.wrap (T0.length : Int) = (T0.length : Int) := by have := HTM.out; rw [IntKind.wrap_u64]; omega
     go_wp2_with fail
     refine (rnumber_any T0.length ⟨by have := HTM.out; omega⟩ _).mono ?_
     intro x v11 hN
     obtain ⟨NA11, nc11, rfl, hbs, hx⟩ := hN.out
     have HBS11 := zHd hbs
     have HSX11 := zHd (HST11.out.ext hx)
     clear hq
     obtain ⟨S11, hS11⟩ : ∃ T, T = S10 ++ form T0.length := ⟨_, rfl⟩
     have HS11 := zHd hS11
     have HSL11 : Hid (S11.length = S10.length + (form T0.length).length) := by rw [hS11]; exact List.length_append ..
     clear hS11
     go_wp2_with (at_builtin; refine w2_addr rfl (.tmp 58) (.tmp 62) rfl HSX11.out rfl _ _ _ (form T0.length) rfl HBS11.out (form_pos _) (by have := HTM.out; have := HFL.out; have := HSL9.out; have := HSL10.out; omega) S11 HS11.out ?_)
     intro B11 c11x u11 hst hgr hf
     have HST12 := zHd hst
     have HSV11 : Hid (w8.heap.size ≤ v11.heap.size) := zNt HSZ11.out hx.size
     have HB12 := zHd ((HB11.out.below hx HSZ11.out).grown hgr HSV11.out HRA11.out)
     have HSZ12 : Hid (w8.heap.size ≤ u11.heap.size) := zNt HSV11.out hgr.size
     have HRA12 : Hid (∀ g, (Value.slice B11 S11.length c11x).ownBlock = some g → g < wq.heap.size ∨ w8.heap.size ≤ g) := fun g hg => by
      rcases hf with hf | hf
      · exact HRA11.out g (by rw [← hf]; exact hg)
      · rw [hf] at hg; injection hg with hg; have := HSV11.out; omega
     clear hN hbs hx hst hgr hf
     have hq : IntKind.u64.wrap (n8 : Int) = (n8 : Int) := by have := HTN.out; rw [IntKind.wrap_u64]; omega
     go_wp2_with fail
     refine (rnumber_any n8 ⟨by have := HTN.out; omega⟩ _).mono ?_
     intro x v12 hN
     obtain ⟨NA12, nc12, rfl, hbs, hx⟩ := hN.out
     have HBS12 := zHd hbs
     have HSX12 := zHd (HST12.out.ext hx)
     clear hq
     obtain ⟨S12, hS12⟩ : ∃ T, T = S11 ++ form n8 := ⟨_, rfl⟩
     have HS12 := zHd hS12
     have HSL12 : Hid (S12.length = S11.length + (form n8).length) := by rw [hS12]; exact List.length_append ..
     clear hS12
     go_wp2_with (at_builtin; refine w2_addr rfl (.tmp 64) (.tmp 68) rfl HSX12.out rfl _ _ _ (form n8) rfl HBS12.out (form_pos _) (by have := HTM.out; have := HFL.out; have := HSL9.out; have := HSL10.out; have := HSL11.out; omega) S12 HS12.out ?_)
     intro B12 c12x u12 hst hgr hf
     have HST13 := zHd hst
     have HSV12 : Hid (w8.heap.size ≤ v12.heap.size) := zNt HSZ12.out hx.size
     have HB13 := zHd ((HB12.out.below hx HSZ12.out).grown hgr HSV12.out HRA12.out)
     have HSZ13 : Hid (w8.heap.size ≤ u12.heap.size) := zNt HSV12.out hgr.size
     have HRA13 : Hid (∀ g, (Value.slice B12 S12.length c12x).ownBlock = some g → g < wq.heap.size ∨ w8.heap.size ≤ g) := fun g hg => by
      rcases hf with hf | hf
      · exact HRA12.out g (by rw [← hf]; exact hg)
      · rw [hf] at hg; injection hg with hg; have := HSV12.out; omega
     clear hN hbs hx hst hgr hf
     obtain ⟨T13, hT13⟩ : ∃ T, T = T0 ++ wr ql := ⟨_, rfl⟩
     have HT13 := zHd hT13
     clear hT13
     go_wp2_with (at_builtin; refine w2_addb rfl (.tmp 70) (.tmp 71) rfl HST13.out rfl _ _ _ (wr ql) rfl HB13.out (by rw [← HN8.out]; exact HTN.out.2) (by rw [← HN8.out]; have := HTN.out; omega) T13 HT13.out ?_)
     intro B13 c13x u13 hst
     have HST14 := zHd hst
     clear hst
     have hTT : T13 = blks (Cs.take (k + 1)) := by rw [HT13.out, HT0.out, offB_succ HQS.out]
     have hSS : S12 = form N ++ idxs 0 (Cs.take (k + 1)) := by
      rw [HS12.out, HS11.out, HS10.out, HS9.out, HS0.out, idxs_at HQS.out, idx1_at HQLM.out HPM.out, ← HT0.out, ← HN8.out, HQT.out]
      simp only [List.append_assoc]
     go_wp2_with fail
     go_roundw
     case rel => exact ⟨k + 1, B13, B12, c13x, c12x, HLT.out, by go_num, by rw [← hTT], by rw [← hSS], by rw [← hTT, ← hSS]; exact HST14⟩
     case measure => have := HLT.out; simp [intOf]; omega
    case obl =>
     refine ⟨fun u hu hd => ?_, fun u hu hd => ?_, fun u hu hd => ?_, fun u hu hd => ?_, fun u hu hd => ?_, fun u hu hd => ?_, fun u hu hd => ?_, fun u hu hd => ?_, fun u hu hd => ?_, fun u hu hd => ?_, fun u hu hd => ?_, fun u hu hd => ?_, fun u hu hd => ?_, trivial⟩
     all_goals try simp only [Act.put, zq]
     · go_simp
       exact zEr
     · go_simp
       exact zEr
     · have e0 : f1 0 = _ := hd 0 (by kernel_rfl)
       have e1 : f1 1 = _ := hd 1 (by kernel_rfl)
       go_simp
       exact zEr
     · have e2 : f1 2 = _ := hd 2 (by kernel_rfl)
       have hu2 := zEt (Ext.drew w8) hu
       have q0 := ext_cell hu2 d0
       go_simp
       exact zEr
     · go_simp
       exact zEr
     · go_simp
       exact zEr
     · have e4 : f1 4 = _ := hd 4 (by kernel_rfl)
       have e5 : f1 5 = _ := hd 5 (by kernel_rfl)
       go_simp
       exact zEr
     · have e6 : f1 6 = _ := hd 6 (by kernel_rfl)
       have hu2 := zEt (Ext.drew w8) hu
       have q0 := ext_cell hu2 d0
       go_simp
       exact zEr
     · have e7 : f1 7 = _ := hd 7 (by kernel_rfl)
       go_simp
       exact zEr
     · have e8 : f1 8 = _ := hd 8 (by kernel_rfl)
       have hs : IntKind.i64.wrap (m : Int) = (m : Int) := by have := HMQ.out.2.1; have := HQLM.out; rw [IntKind.wrap_i64]; omega
       go_simp
       exact zEr
     · have e3 : f1 3 = _ := hd 3 (by kernel_rfl)
       have e9 : f1 9 = _ := hd 9 (by kernel_rfl)
       go_simp
       exact zEr
     · have e10 : f1 10 = _ := hd 10 (by kernel_rfl)
       have hu2 := zEt (Ext.drew w8) hu
       have q0 := ext_cell hu2 e0
       have q1 := ext_cell hu2 e1
       have q2 := ext_cell hu2 e2
       have q3 := ext_cell hu2 e3
       go_simp
       exact zEr
     · have hu2 := zEt (Ext.drew w8) hu
       go_simp
       exact ⟨ext_alloc _ _, _, _, rfl, hu2.size, heap_at _ _ rfl, rfl⟩
  · have hkN : k = N := Nat.le_antisymm hk (Nat.le_of_not_lt hlt)
    have d : decide ((k : Int) < (N : Int)) = false := decide_eq_false (by omega)
    have dn : decide (k < N) = false := decide_eq_false hlt
    have hT : blks (Cs.take k) = blks Cs := by rw [hkN, ← HCL.out, List.take_length]
    have hS : form N ++ idxs 0 (Cs.take k) = index Cs := by rw [hkN, ← HCL.out, List.take_length]; rfl
    rw [hT, hS] at HST ⊢
    obtain ⟨T0, hT0⟩ : ∃ T0, T0 = blks Cs := ⟨_, rfl⟩
    obtain ⟨S0, hS0⟩ : ∃ S0, S0 = index Cs := ⟨_, rfl⟩
    rw [← hT0, ← hS0] at HST ⊢
    have HT0 := zHd hT0
    have HS0 := zHd hS0
    have HTM : Hid (T0.length ≤ 269144064 ∧ S0.length ≤ 294922 ∧ 0 < S0.length) := by
     have h1 := HBM.out; have h2 := HIM.out; have h3 := HFN.out; have h4 := form_pos N
     refine ⟨by rw [hT0]; exact h1, ?_, ?_⟩
     · rw [hS0]; unfold index; rw [HCL.out, List.length_append]; omega
     · rw [hS0]; unfold index; rw [HCL.out, List.length_append]; omega
    obtain ⟨Fl, hFl⟩ : ∃ Fl, Fl = Bl.mk (keysT Ls) := ⟨_, rfl⟩
    have HFL := zHd hFl
    have HLL : Hid (Ls.length = L.length) := by rw [HLS.out]; exact List.length_map ..
    have HKL : Hid ((keysT Ls).length ≤ 4096) := by
     have h1 := keysTo_len Ls Ls.length
     rw [HLL.out] at h1
     have := HLEN.out.2
     unfold Hid keysT; rw [HLL.out]; omega
    have HFM : Hid (0 < Fl.length ∧ Fl.length ≤ 65544) := by
     rw [hFl]
     have h1 := Bl.bsize_pos (keysT Ls).length
     have h2 := Bl.bsize_le (n := (keysT Ls).length) (by have := HKL.out; omega)
     rw [← Bl.mk_length] at h1 h2
     exact ⟨by omega, h2⟩
    obtain ⟨T1, hT1⟩ : ∃ T1, T1 = T0 ++ S0 := ⟨_, rfl⟩
    have HT1 := zHd hT1
    have HT1L : Hid (T1.length = T0.length + S0.length) := by rw [hT1]; exact List.length_append ..
    obtain ⟨T2, hT2⟩ : ∃ T2, T2 = T1 ++ Fl := ⟨_, rfl⟩
    have HT2 := zHd hT2
    have HT2L : Hid (T2.length = T1.length + Fl.length) := by rw [hT2]; exact List.length_append ..
    have HA2 : Hid (T2 = ahd Cs Ls) := by unfold Hid ahd; rw [hT2, hT1, hT0, hS0, hFl, List.append_assoc]
    have HLT2 : Hid (∀ x ∈ T2, x < 256) := by
     rw [HA2.out]
     refine ahd_lt HCU.out HMY.out (by rw [HCF.out]; exact HM.out.2.2.1) (fun e he => ?_) Ls
     rw [HCF.out, HLS.out] at he
     obtain ⟨p, hp, rfl⟩ := List.mem_map.1 he
     exact ⟨(HE.out.each p hp).bk, (HE.out.each p hp).bv⟩
    have HLV : Hid (Ls.length ≤ 4096) := by rw [HLL.out]; exact HLEN.out.2
    clear hk hlt hkN hT hS hT0 hS0 hFl hT1 hT2
    go_wp2_with (at_builtin; refine w2_addb rfl (.tmp 75) (.tmp 76) rfl HST.out rfl _ _ _ S0 rfl (Bs.of_own HST.out.r) HTM.out.2.2 (by have := HTM.out; omega) T1 HT1.out ?_)
    intro B1 c1x u1 hst
    have HST1 := zHd hst
    have HZ1 : Hid (hi ≤ u1.heap.size) := zNt HHI.out (zNt HX3.out.size hst.x.size)
    have HKY := zHd (rtkeys_any (c := c) ((HE.out.below HX3.out HHI.out).below hst.x (zNt HHI.out HX3.out.size)) HZ1.out HLEN.out.2)
    rw [← HLS.out] at HKY
    clear hst
    go_wp2_with fail
    refine HKY.out.mono ?_
    rintro x u2 ⟨kv, rfl, hkr, hx2⟩
    obtain ⟨KA, kc, xs, rfl, hrows, _, _⟩ := hkr.rows (zNt HZ1.out hx2.size)
    have HST2 := zHd (HST1.out.ext hx2)
    have HMK := zHd (Bl.rmake_any KA kc 0 u2.heap.size xs (keysT Ls) u2 hrows (zNr _) (by have := HKL.out; omega) (fun l hl x hx => by
     obtain ⟨e, he, rfl⟩ := keysTo_mem hl
     rw [HLS.out] at he
     obtain ⟨p, hp, rfl⟩ := List.mem_map.1 he
     exact (HE.out.each p hp).bk x hx) (fun l hl => by
     obtain ⟨e, he, rfl⟩ := keysTo_mem hl
     have := mayN_iff.1 (HM.out.2.2.2 e he)
     omega))
    rw [← Bl.mk_length, ← HFL.out] at HMK
    clear hkr hx2 hrows HKY
    go_wp2_with fail
    refine HMK.out.mono ?_
    rintro x u3 ⟨FA, fc, rfl, hof, hx3⟩
    have HST3 := zHd (HST2.out.ext hx3)
    have HOF : Hid (Bs u3 0 u3.heap.size (.slice FA Fl.length fc) Fl) := hof.bs
    clear hof hx3 HMK
    go_wp2_with (at_builtin; refine w2_addb rfl (.tmp 83) (.tmp 84) rfl HST3.out rfl _ _ _ Fl rfl HOF.out HFM.out.1 (by have := HTM.out; have := HFM.out; have := HT1L.out; omega) T2 HT2.out ?_)
    intro B2 c2x u4 hst
    have HST4 := zHd hst
    have HSM := zHd (Bl.rsum_any (.slice B2 T2.length c2x) 0 u4.heap.size T2 u4 hst.b.bs HLT2.out)
    obtain ⟨cr, hcr⟩ : ∃ cr, cr = Bl.crc T2 := ⟨_, rfl⟩
    have HCR := zHd hcr
    have HCR32 : Hid (cr < 4294967296) := by rw [hcr]; exact Bl.crc_lt HLT2.out
    rw [← hcr] at HSM
    clear hst hcr
    go_wp2_with fail
    refine HSM.out.mono ?_
    rintro x u5 ⟨rfl, rfl⟩
    clear HSM
    have hq : IntKind.u32.wrap (T0.length : Int) = (T0.length : Int) := by have := HTM.out; rw [IntKind.wrap_u32]; omega
    go_wp2_with fail
    refine (rtwordo_any T0.length (by have := HTM.out; omega) _).mono ?_
    rintro x v5 ⟨WA, wc, rfl, how, hx⟩
    have HST5 : Hid (W2 w3 T2 (be4 T0.length) B2 c2x WA wc v5) := by
     refine ⟨HST4.out.b.below hx, how.base HST4.out.x.size, zEt HST4.out.x hx, fun g h1 h2 => ?_⟩
     have a1 := (row_lt HST4.out.b g h1).2
     have a2 := (row_lt how g h2).1
     omega
    clear how hx hq
    have hq : IntKind.u32.wrap ((S0.length : Nat) : Int) = ((S0.length : Nat) : Int) := by rw [IntKind.wrap_u32]; have := HTM.out; have := HT1L.out; have := HFM.out; have := HLV.out; omega
    go_wp2_with fail
    refine (rtword_any S0.length (by have := HTM.out; have := HT1L.out; have := HFM.out; have := HLV.out; omega) _).mono ?_
    rintro x v5a ⟨NA5, nc5, rfl, hbs, hx⟩
    have HBS5 := zHd hbs
    have HSX5 := zHd (HST5.out.ext hx)
    clear hbs hx hq
    obtain ⟨F5, hF5⟩ : ∃ F, F = be4 T0.length ++ be4 S0.length := ⟨_, rfl⟩
    have HF5 := zHd hF5
    have HFL5 : Hid (F5.length = (be4 T0.length).length + 4) := by rw [hF5, List.length_append]; rfl
    clear hF5
    go_wp2_with (at_builtin; refine w2_addr rfl (.tmp 90) (.tmp 94) rfl HSX5.out rfl _ _ _ (be4 S0.length) rfl HBS5.out (by rw [be4_length]; decide) (by  have := be4_length T0.length; have := be4_length (S0.length); omega) F5 HF5.out ?_)
    intro D5 d5x y5 hst _ _
    have HST6 := zHd hst
    clear hst
    have hq : IntKind.u32.wrap ((T1.length : Nat) : Int) = ((T1.length : Nat) : Int) := by rw [IntKind.wrap_u32]; have := HTM.out; have := HT1L.out; have := HFM.out; have := HLV.out; omega
    go_wp2_with fail
    refine (rtword_any T1.length (by have := HTM.out; have := HT1L.out; have := HFM.out; have := HLV.out; omega) _).mono ?_
    rintro x v6a ⟨NA6, nc6, rfl, hbs, hx⟩
    have HBS6 := zHd hbs
    have HSX6 := zHd (HST6.out.ext hx)
    clear hbs hx hq
    obtain ⟨F6, hF6⟩ : ∃ F, F = F5 ++ be4 T1.length := ⟨_, rfl⟩
    have HF6 := zHd hF6
    have HFL6 : Hid (F6.length = (F5).length + 4) := by rw [hF6, List.length_append]; rfl
    clear hF6
    go_wp2_with (at_builtin; refine w2_addr rfl (.tmp 95) (.tmp 98) rfl HSX6.out rfl _ _ _ (be4 T1.length) rfl HBS6.out (by rw [be4_length]; decide) (by have := HFL5.out; have := be4_length T0.length; have := be4_length (T1.length); omega) F6 HF6.out ?_)
    intro D6 d6x y6 hst _ _
    have HST7 := zHd hst
    clear hst
    have hq : IntKind.u32.wrap ((Fl.length : Nat) : Int) = ((Fl.length : Nat) : Int) := by rw [IntKind.wrap_u32]; have := HTM.out; have := HT1L.out; have := HFM.out; have := HLV.out; omega
    go_wp2_with fail
    refine (rtword_any Fl.length (by have := HTM.out; have := HT1L.out; have := HFM.out; have := HLV.out; omega) _).mono ?_
    rintro x v7a ⟨NA7, nc7, rfl, hbs, hx⟩
    have HBS7 := zHd hbs
    have HSX7 := zHd (HST7.out.ext hx)
    clear hbs hx hq
    obtain ⟨F7, hF7⟩ : ∃ F, F = F6 ++ be4 Fl.length := ⟨_, rfl⟩
    have HF7 := zHd hF7
    have HFL7 : Hid (F7.length = (F6).length + 4) := by rw [hF7, List.length_append]; rfl
    clear hF7
    go_wp2_with (at_builtin; refine w2_addr rfl (.tmp 100) (.tmp 104) rfl HSX7.out rfl _ _ _ (be4 Fl.length) rfl HBS7.out (by rw [be4_length]; decide) (by have := HFL5.out; have := HFL6.out; have := be4_length T0.length; have := be4_length (Fl.length); omega) F7 HF7.out ?_)
    intro D7 d7x y7 hst _ _
    have HST8 := zHd hst
    clear hst
    have hq : IntKind.u32.wrap ((L.length : Nat) : Int) = ((L.length : Nat) : Int) := by rw [IntKind.wrap_u32]; have := HLEN.out; omega
    go_wp2_with fail
    refine (rtword_any L.length (by have := HLEN.out; omega) _).mono ?_
    rintro x v8a ⟨NA8, nc8, rfl, hbs, hx⟩
    have HBS8 := zHd hbs
    have HSX8 := zHd (HST8.out.ext hx)
    clear hbs hx hq
    obtain ⟨F8, hF8⟩ : ∃ F, F = F7 ++ be4 L.length := ⟨_, rfl⟩
    have HF8 := zHd hF8
    have HFL8 : Hid (F8.length = (F7).length + 4) := by rw [hF8, List.length_append]; rfl
    clear hF8
    go_wp2_with (at_builtin; refine w2_addr rfl (.tmp 105) (.tmp 109) rfl HSX8.out rfl _ _ _ (be4 L.length) rfl HBS8.out (by rw [be4_length]; decide) (by have := HFL5.out; have := HFL6.out; have := HFL7.out; have := be4_length T0.length; have := be4_length (L.length); omega) F8 HF8.out ?_)
    intro D8 d8x y8 hst _ _
    have HST9 := zHd hst
    clear hst
    go_wp2_with fail
    refine (rtword_any cr (by exact HCR32.out) _).mono ?_
    rintro x v9a ⟨NA9, nc9, rfl, hbs, hx⟩
    have HBS9 := zHd hbs
    have HSX9 := zHd (HST9.out.ext hx)
    clear hbs hx
    obtain ⟨F9, hF9⟩ : ∃ F, F = F8 ++ be4 cr := ⟨_, rfl⟩
    have HF9 := zHd hF9
    have HFL9 : Hid (F9.length = (F8).length + 4) := by rw [hF9, List.length_append]; rfl
    clear hF9
    go_wp2_with (at_builtin; refine w2_addr rfl (.tmp 110) (.tmp 112) rfl HSX9.out rfl _ _ _ (be4 cr) rfl HBS9.out (by rw [be4_length]; decide) (by have := HFL5.out; have := HFL6.out; have := HFL7.out; have := HFL8.out; have := be4_length T0.length; have := be4_length (cr); omega) F9 HF9.out ?_)
    intro D9 d9x y9 hst _ _
    have HST10 := zHd hst
    clear hst
    have HF24 : Hid (F9 = foot24 Cs Ls) := by
     have e1 : T1.length = (blks Cs).length + (index Cs).length := by rw [HT1L.out, HT0.out, HS0.out]
     unfold Hid foot24
     rw [HF9.out, HF8.out, HF7.out, HF6.out, HF5.out, e1, HT0.out, HS0.out, HFL.out, ← HLL.out, HCR.out, HA2.out]
     simp only [List.append_assoc]
    have HF24L : Hid (F9.length = 24) := by rw [HF24.out]; exact foot24_len _ _
    have HLF : Hid (∀ x ∈ F9, x < 256) := by
     rw [HF24.out]
     intro x hx
     unfold foot24 at hx
     simp only [List.mem_append] at hx
     rcases hx with h | h | h | h | h | h <;> exact be4_lt _ x h
    obtain ⟨T3, hT3⟩ : ∃ T3, T3 = T2 ++ F9 := ⟨_, rfl⟩
    have HT3 := zHd hT3
    have HT3L : Hid (T3.length = T2.length + 24) := by rw [hT3, List.length_append, HF24L.out]; rfl
    clear hT3
    go_wp2_with (at_builtin; refine w2_addb rfl (.tmp 114) (.tmp 115) rfl HST10.out rfl _ _ _ F9 rfl (Bs.of_own HST10.out.r) (by have := HF24L.out; omega) (by have := HTM.out; have := HFM.out; have := HT1L.out; have := HT2L.out; have := HF24L.out; omega) T3 HT3.out ?_)
    intro B3 c3x u9 hst
    have HST11 := zHd hst
    have HSM := zHd (Bl.rsum_any (.slice D9 F9.length d9x) 0 u9.heap.size F9 u9 hst.r.bs HLF.out)
    obtain ⟨cf, hcf⟩ : ∃ cf, cf = Bl.crc F9 := ⟨_, rfl⟩
    have HCF9 := zHd hcf
    have HCF32 : Hid (cf < 4294967296) := by rw [hcf]; exact Bl.crc_lt HLF.out
    rw [← hcf] at HSM
    clear hst hcf
    go_wp2_with fail
    refine HSM.out.mono ?_
    rintro x u10 ⟨rfl, rfl⟩
    clear HSM
    go_wp2_with fail
    refine (rtword_any cf (by exact HCF32.out) _).mono ?_
    rintro x v11a ⟨NA11, nc11, rfl, hbs, hx⟩
    have HBS11 := zHd hbs
    have HSX11 := zHd (HST11.out.ext hx)
    clear hbs hx
    obtain ⟨T4, hT4⟩ : ∃ T4, T4 = T3 ++ be4 cf := ⟨_, rfl⟩
    have HT4 := zHd hT4
    clear hT4
    go_wp2_with (at_builtin; refine w2_addb rfl (.tmp 116) (.tmp 119) rfl HSX11.out rfl _ _ _ (be4 cf) rfl HBS11.out (by rw [be4_length]; decide) (by have := HTM.out; have := HFM.out; have := HT1L.out; have := HT2L.out; have := HT3L.out; have := be4_length cf; omega) T4 HT4.out ?_)
    intro B4 c4x u11 hst
    have HST12 := zHd hst
    clear hst
    go_wp2_with fail
    refine bodyPost_ret (results_tmp rfl _ _ _) rfl ?_
    refine ⟨zEt HX3.out HST12.out.x, Cs, .slice B4 T4.length c4x, rfl, HCF.out, HCU.out, ?_⟩
    have e : tb Cs Ls = T4 := by
     unfold tb
     rw [HT4.out, HT3.out, HCF9.out, HF24.out, HA2.out, List.append_assoc]
    rw [e]
    exact HST12.out.b.base HX3.out.size
end Go.Proofs.YtkdidghfcfcpfaaGreat
namespace Go.Proofs.YtkdidghfcfcpfaaGreat
open Go.ChangeShapes Go.WideShapes Go.ChangeAt Go.RowKit Go.Shelf
attribute [local go_sem] Oper.semAt_some
end Go.Proofs.YtkdidghfcfcpfaaGreat
namespace Go.Proofs.YtkdidghfcfcpfaaGreat.Fr
open Go.RowKit
structure Rel where
 r : World → World → Prop
 refl : ∀ w, r w w
 trans : ∀ {a b c}, r a b → r b c → r a c
def Mono (R : Rel) (p : Value → World → Prop) : Prop := ∀ v u u', p v u → R.r u u' → p v u'
theorem Mono.is {R : Rel} (c : Value) : Mono R (Is c) := fun _ _ _ h _ => h
theorem fact_mono {R : Rel} {φ : List (Value → World → Prop)} (h : ∀ p ∈ φ, Mono R p) (j : Nat) {v : Value} {u u' : World} (hf : fact φ j v u) (hu : R.r u u') : fact φ j v u' := by
 unfold fact at *
 by_cases hj : j < φ.length
 · have e : φ.getD j (fun _ _ => True) = φ[j] := by simp [List.getD, List.getElem?_eq_getElem hj]
   rw [e] at hf ⊢
   exact h _ (List.getElem_mem hj) _ _ _ hf hu
 · have e : φ.getD j (fun _ _ => True) = fun _ _ => True := by simp [List.getD, List.getElem?_eq_none (Nat.le_of_not_lt hj)]
   rw [e]; trivial
def Obls (R : Rel) (P : Program) (ops : Array Oper) (φ : List (Value → World → Prop)) (w0 : World) (f : Nat → Value) : Nat → List Oper → Act → Prop
 | _, [], _ => True
 | k, o :: rest, a => (∀ u, R.r w0 u → (∀ j, aft o j = true → fact φ j (f j) u) →
     if Region.wanted o (yielded ops a.tmps) = true then GivesR P ((execOp a.eval o).run P u) (fun v u' => R.r u u' ∧ fact φ k (kept o v) u') else fact φ k undef u) ∧ Obls R P ops φ w0 f (k + 1) rest (a.put o.dst (f k))
theorem Obls.at {R : Rel} {P : Program} {ops : Array Oper} {φ : List (Value → World → Prop)} {w0 : World} {f : Nat → Value} : ∀ (l : List Oper) (k : Nat) (a : Act), Obls R P ops φ w0 f k l a → ∀ (i : Nat) (o : Oper), l[i]? = some o →
    ∀ u, R.r w0 u → (∀ j, aft o j = true → fact φ j (f j) u) →
     if Region.wanted o (yielded ops (puts f k (l.take i) a).tmps) = true then GivesR P ((execOp (puts f k (l.take i) a).eval o).run P u) (fun v u' => R.r u u' ∧ fact φ (k + i) (kept o v) u') else fact φ (k + i) undef u := by
 intro l
 induction l with
 | nil => intro k a _ i o h; simp at h
 | cons o l ih =>
  intro k a h i oi hi
  cases i with
  | zero => simp at hi; subst hi; exact h.1
  | succ i =>
   have := ih (k + 1) _ h.2 i oi (by simpa using hi)
   simp only [List.take_succ_cons, puts]
   rw [show k + (i + 1) = k + 1 + i by omega]
   exact this
structure Inv (R : Rel) (ops : Array Oper) (φ : List (Value → World → Prop)) (a0 : Act) (w0 : World) (seen : Array Bool) (a : Act) (u : World) : Prop where
 ext : R.r w0 u
 size : seen.size = ops.size
 defs : a.defers = a0.defers
 tsz : a.tmps.size = a0.tmps.size
 old : ∀ s, (∀ (j : Nat) (oj : Oper), ops[j]? = some oj → seen.getD j false = true → oj.dst ≠ some s) → a.tmps[s]? = a0.tmps[s]?
 facts : ∀ (j : Nat) (oj : Oper), ops[j]? = some oj → seen.getD j false = true → fact φ j (slot a oj) u
 closed : ∀ (j : Nat) (oj : Oper), ops[j]? = some oj → seen.getD j false = true → ∀ k, aft oj k = true → seen.getD k false = true
section
variable {P : Program} {ops : Array Oper} {Q : Exit → Act → World → Prop} {φ : List (Value → World → Prop)} {a0 : Act} {w0 : World} {R : Rel}
theorem look_same {seen : Array Bool} {a : Act} {u : World} (hok : flowOk ops a0.tmps.size = true) (hI : Inv R ops φ a0 w0 seen a u) {i : Nat} {oi : Oper} (hi : ops[i]? = some oi) (hn : seen.getD i false = false)
    {t : Nat} (ht : t ∈ oi.looksAt ops) : a.tmps[t]? = (puts (held ops a) 0 (ops.toList.take i) a0).tmps[t]? := by
 by_cases hsz : t < a0.tmps.size
 · have hlen : i < ops.toList.length := by simpa using (zAg.1 hi).1
   have conv : ∀ (j : Nat) (o : Oper), (ops.toList.take i)[j]? = some o → j < i ∧ ops[j]? = some o := fun j o h => by
    rw [List.getElem?_take] at h
    split at h
    · rename_i hj; exact ⟨hj, by rw [← Array.getElem?_toList]; exact h⟩
    · cases h
   have huniq : ∀ (x y : Nat) (ox oy : Oper), (ops.toList.take i)[x]? = some ox → (ops.toList.take i)[y]? = some oy → ox.dst = some t → oy.dst = some t → x = y := fun x y ox oy hx hy h1 h2 => by
    rcases Nat.decEq x y with hne | he
    · exact absurd h1 (((flowOk_at hok (conv x ox hx).2).2.2.2 y oy t (conv y oy hy).2 h2).1 (fun e => hne e.symm))
    · exact he
   obtain ⟨h1, h2⟩ := puts_get (held ops a) (ops.toList.take i) 0 a0 t hsz huniq
   by_cases hex : ∃ (j : Nat) (oj : Oper), (ops.toList.take i)[j]? = some oj ∧ oj.dst = some t
   · obtain ⟨j, oj, hj, hd⟩ := hex
     rw [h2 j oj hj hd, Nat.zero_add]
     have hj' := (conv j oj hj).2
     have hlt := (conv j oj hj).1
     simp only [held, hj', slot, hd]
     have hts : t < a.tmps.size := by rw [hI.tsz]; exact hsz
     simp [Array.getD, hts]
   · have hex' : ∀ (j : Nat) (o : Oper), (ops.toList.take i)[j]? = some o → o.dst ≠ some t := fun j o hj hd => hex ⟨j, o, hj, hd⟩
     rw [h1 hex']
     refine hI.old t fun j oj hj hsj hd => ?_
     rcases ((flowOk_at hok hi).2.2.2 j oj t hj hd).2 ht with h | h
     · have hlt := aft_lt hok hi h
       refine hex' j oj ?_ hd
       rw [List.getElem?_take, if_pos hlt, Array.getElem?_toList]; exact hj
     · have := hI.closed j oj hj hsj i h
       rw [hn] at this; cases this
 · have e1 : a.tmps[t]? = none := Array.getElem?_eq_none (by rw [hI.tsz]; omega)
   have e2 : (puts (held ops a) 0 (ops.toList.take i) a0).tmps[t]? = none := Array.getElem?_eq_none (by rw [puts_size]; omega)
   rw [e1, e2]
theorem Inv.next {seen : Array Bool} {a : Act} {u u' : World} (hok : flowOk ops a0.tmps.size = true) (hmono : ∀ p ∈ φ, Mono R p) (hI : Inv R ops φ a0 w0 seen a u) {i : Nat} {oi : Oper} (hi : ops[i]? = some oi)
    (hs : ∀ k, aft oi k = true → seen.getD k false = true) {v : Value} (hu : R.r u u') (hf : fact φ i (kept oi v) u') : Inv R ops φ a0 w0 (seen.setIfInBounds i true) (a.put oi.dst v) u' := by
 refine ⟨R.trans hI.ext hu, by simp [hI.size], by rw [put_defers']; exact hI.defs, by rw [put_size]; exact hI.tsz, fun s h => ?_, fun j oj hj hsj => ?_, fun j oj hj hsj k hk => ?_⟩
 · have hlt : i < seen.size := by rw [hI.size]; exact (zAg.1 hi).1
   have hne : oi.dst ≠ some s := h i oi hi (by rw [set_getD, if_pos ⟨rfl, hlt⟩])
   rw [put_get, if_neg (fun h => hne h.1)]
   refine hI.old s fun j oj hj hsj => h j oj hj ?_
   rw [set_getD]
   split
   · rfl
   · exact hsj
 · rw [set_getD] at hsj
   by_cases hij : i = j
   · subst hij
     rw [hi] at hj
     injection hj with hj
     subst hj
     have e : slot (a.put oi.dst v) oi = kept oi v := by
      unfold slot kept
      cases hd : oi.dst with
      | none => rfl
      | some d =>
       have hds := (flowOk_at hok hi).2.2.1 d hd
       have hd2 : d < a.tmps.size := by rw [hI.tsz]; exact hds
       simp [Act.put, Array.getD, hd2]
     rw [e]; exact hf
   · rw [if_neg (fun h => hij h.1)] at hsj
     have e : slot (a.put oi.dst v) oj = slot a oj := by
      unfold slot
      cases hd : oj.dst with
      | none => rfl
      | some d =>
       have hne := ((flowOk_at hok hi).2.2.2 j oj d hj hd).1 (fun e => hij e.symm)
       have := put_get a oi.dst v d
       rw [if_neg (fun h => hne h.1)] at this
       show (a.put oi.dst v).tmps.getD d undef = a.tmps.getD d undef
       rw [Array.getD_eq_getD_getElem?, this, ← Array.getD_eq_getD_getElem?]
     rw [e]
     exact fact_mono hmono j (hI.facts j oj hj hsj) hu
 · rw [set_getD] at hsj ⊢
   split
   · rfl
   · rename_i hk2
     by_cases hij : i = j
     · subst hij
       rw [hi] at hj
       injection hj with hj
       subst hj
       exact hs k hk
     · rw [if_neg (fun h => hij h.1)] at hsj
       exact hI.closed j oj hj hsj k hk
theorem flow_step {seen : Array Bool} {a : Act} {u : World} {m : Nat} (hok : flowOk ops a0.tmps.size = true) (hsel : Region.noSelect ops = true) (hmono : ∀ p ∈ φ, Mono R p) (hobl : ∀ f, Obls R P ops φ w0 f 0 (ops.toList.take m) a0)
    (hI : Inv R ops φ a0 w0 seen a u) {i : Nat} (him : i < m) (hr : i ∈ Region.ready .any ops seen) : wpOp P ops Q i (fun b u' => Inv R ops φ a0 w0 (seen.setIfInBounds i true) b u') a u := by
 obtain ⟨hun, oi, hi, hall⟩ := mem_ready.1 hr
 have hlt : i < ops.size := (zAg.1 hi).1
 have hn : seen.getD i false = false := by rw [← getD_both seen (by rw [hI.size]; exact hlt)]; simpa using hun
 have hs : ∀ k, aft oi k = true → seen.getD k false = true := fun k hk => by
  unfold aft at hk
  obtain ⟨e, he, hb⟩ := Array.any_eq_true'.1 hk
  simp only [Bool.and_eq_true, beq_iff_eq] at hb
  rw [← hb.2]
  exact hall e he hb.1
 have hlook := fun {t : Nat} (ht : t ∈ oi.looksAt ops) => look_same hok hI hi hn ht
 have hfacts : ∀ j, aft oi j = true → fact φ j (held ops a j) u := fun j hj => by
  have hjl := aft_lt hok hi hj
  have hoj : ops[j]? = some ops[j] := Array.getElem?_eq_getElem (by omega)
  have := hI.facts j _ hoj (hs j hj)
  simp only [held, hoj]
  exact this
 have hO := Obls.at (ops.toList.take m) 0 a0 (hobl (held ops a)) i oi (by rw [List.getElem?_take, if_pos him, Array.getElem?_toList]; exact hi) u hI.ext hfacts
 rw [Nat.zero_add, List.take_take, Nat.min_eq_left (Nat.le_of_lt him)] at hO
 have hex : execOp (puts (held ops a) 0 (ops.toList.take i) a0).eval oi = execOp a.eval oi := by
  refine execOp_congr oi (fun cs b => Region.noSelect_spec hsel i oi cs b hi) fun x hx => ?_
  cases x with
  | tmp t =>
   have ht : t ∈ oi.looksAt ops := by
    unfold Oper.looksAt
    refine List.mem_append_left _ (List.mem_filterMap.2 ⟨.tmp t, by simpa using hx, rfl⟩)
   show Array.getD _ t undef = Array.getD _ t undef
   rw [Array.getD_eq_getD_getElem?, Array.getD_eq_getD_getElem?, hlook ht]
  | _ => rfl
 have hwt : Region.wanted oi (yielded ops (puts (held ops a) 0 (ops.toList.take i) a0).tmps) = Region.wanted oi (yielded ops a.tmps) := by
  unfold Region.wanted
  cases hg : oi.guard with
  | none => rfl
  | some gb =>
   obtain ⟨g, b⟩ := gb
   have e : yielded ops (puts (held ops a) 0 (ops.toList.take i) a0).tmps g = yielded ops a.tmps g := by
    unfold yielded
    cases hd : (ops[g]?).bind (·.dst) with
    | none => rfl
    | some d =>
     have ht : d ∈ oi.looksAt ops := by
      unfold Oper.looksAt
      rw [hg]
      refine List.mem_append_right _ ?_
      simp only [hd]
      simp
     show (match (puts (held ops a) 0 (ops.toList.take i) a0).tmps[d]? with | some (Value.bool b) => some b | _ => none) = _
     rw [← hlook ht]
     rfl
   simp only [e]
 rw [hex, hwt] at hO
 unfold wpOp
 simp only [hi]
 split
 · rename_i hw
   rw [if_pos hw] at hO
   exact .inl (gives_wp hO fun v u' h => hI.next hok hmono hi hs h.1 h.2)
 · rename_i hw
   rw [if_neg hw] at hO
   refine hI.next hok hmono hi hs (R.refl u) ?_
   have : kept oi undef = undef := by unfold kept; cases oi.dst <;> rfl
   rw [this]; exact hO
theorem all_seen {seen : Array Bool} {a : Act} {u : World} (hok : flowOk ops a0.tmps.size = true) (hI : Inv R ops φ a0 w0 seen a u) (hr : Region.ready .any ops seen = []) : ∀ i, i < ops.size → seen.getD i false = true := by
 intro i
 induction i using Nat.strongRecOn with
 | ind i ih =>
  intro hlt
  rcases h : seen.getD i false with _ | _
  · have hi : ops[i]? = some ops[i] := Array.getElem?_eq_getElem hlt
    have : i ∈ Region.ready .any ops seen := mem_ready.2 ⟨by rw [getD_both seen (by rw [hI.size]; exact hlt)]; exact h, ops[i], hi, fun e he hb => by
     have := (flowOk_at hok hi).1 e he hb
     exact ih e.on this (by omega)⟩
    rw [hr] at this; cases this
  · rfl
theorem act_is {seen : Array Bool} {a : Act} {u : World} (hok : flowOk ops a0.tmps.size = true) (hI : Inv R ops φ a0 w0 seen a u) : a = puts (held ops a) 0 ops.toList a0 := by
 have hd : a.defers = (puts (held ops a) 0 ops.toList a0).defers := by rw [puts_defers]; exact hI.defs
 have ht : a.tmps = (puts (held ops a) 0 ops.toList a0).tmps := by
  apply Array.ext_getElem?
  intro t
  by_cases hsz : t < a0.tmps.size
  · have conv : ∀ (j : Nat) (o : Oper), ops.toList[j]? = some o → ops[j]? = some o := fun j o h => by rw [← Array.getElem?_toList]; exact h
    have huniq : ∀ (x y : Nat) (ox oy : Oper), ops.toList[x]? = some ox → ops.toList[y]? = some oy → ox.dst = some t → oy.dst = some t → x = y := fun x y ox oy hx hy h1 h2 => by
     rcases Nat.decEq x y with hne | he
     · exact absurd h1 (((flowOk_at hok (conv x ox hx)).2.2.2 y oy t (conv y oy hy) h2).1 (fun e => hne e.symm))
     · exact he
    obtain ⟨h1, h2⟩ := puts_get (held ops a) ops.toList 0 a0 t hsz huniq
    by_cases hex : ∃ (j : Nat) (oj : Oper), ops.toList[j]? = some oj ∧ oj.dst = some t
    · obtain ⟨j, oj, hj, hd⟩ := hex
      rw [h2 j oj hj hd, Nat.zero_add]
      simp only [held, conv j oj hj, slot, hd]
      have hts : t < a.tmps.size := by rw [hI.tsz]; exact hsz
      simp [Array.getD, hts]
    · have hex' : ∀ (j : Nat) (o : Oper), ops.toList[j]? = some o → o.dst ≠ some t := fun j o hj hd => hex ⟨j, o, hj, hd⟩
      rw [h1 hex']
      exact hI.old t fun j oj hj _ => hex' j oj (by rw [Array.getElem?_toList]; exact hj)
  · rw [Array.getElem?_eq_none (by rw [hI.tsz]; omega), Array.getElem?_eq_none (by rw [puts_size]; omega)]
 have ext : ∀ x y : Act, x.tmps = y.tmps → x.defers = y.defers → x = y := by rintro ⟨_, _⟩ ⟨_, _⟩ rfl rfl; rfl
 exact ext _ _ ht hd
theorem flow_any (hok : flowOk ops a0.tmps.size = true) (hsel : Region.noSelect ops = true) (hmono : ∀ p ∈ φ, Mono R p) (hobl : ∀ f, Obls R P ops φ w0 f 0 ops.toList a0)
    (hfin : ∀ (g : Nat → Value) u, R.r w0 u → (∀ j, j < ops.size → fact φ j (g j) u) → Q .normal (puts g 0 ops.toList a0) u) :
    ∀ (n : Nat) (seen : Array Bool) (a : Act) (u : World), Inv R ops φ a0 w0 seen a u → left ops seen = n → wpAny P .any ops Q n seen a u := by
 have done : ∀ (seen : Array Bool) (a : Act) (u : World), Inv R ops φ a0 w0 seen a u → (∀ i, i < ops.size → seen.getD i false = true) → Q .normal a u := fun seen a u hI hall => by
  rw [act_is hok hI]
  refine hfin _ _ hI.ext fun j hj => ?_
  have hoj : ops[j]? = some ops[j] := Array.getElem?_eq_getElem hj
  simp only [held, hoj]
  exact hI.facts j _ hoj (hall j hj)
 intro n
 induction n with
 | zero =>
  intro seen a u hI hl
  have hall : ∀ i, i < ops.size → seen.getD i false = true := fun i hi => by
   have := List.countP_eq_zero.1 hl i (List.mem_range.2 hi)
   simpa using this
  refine ⟨?_, done seen a u hI hall⟩
  refine List.eq_nil_iff_forall_not_mem.2 fun i hi => ?_
  obtain ⟨hun, oi, hio, _⟩ := mem_ready.1 hi
  have hlt := (zAg.1 hio).1
  rw [getD_both seen (by rw [hI.size]; exact hlt), hall i hlt] at hun
  cases hun
 | succ n ih =>
  intro seen a u hI hl
  refine ⟨fun hr => done seen a u hI (all_seen hok hI hr), fun i hi => ?_⟩
  refine wpOp_mono (fun b u' hb => ih _ b u' hb ?_) (flow_step (m := ops.size) hok hsel hmono (fun f => by rw [List.take_of_length_le (by simp)]; exact hobl f) hI (zAg.1 (mem_ready.1 hi).2.choose_spec.1).1 hi)
  obtain ⟨hun, oi, hio, _⟩ := mem_ready.1 hi
  have hlt := (zAg.1 hio).1
  rw [getD_both seen (by rw [hI.size]; exact hlt)] at hun
  have := left_next hI.size hlt hun
  omega
theorem flow {id : Nat} {w : World} (hm : P.follows .mixedOrders = true) (φ : List (Value → World → Prop)) (hok : flowOk ops a0.tmps.size = true) (hsel : Region.noSelect ops = true) (hmono : ∀ p ∈ φ, Mono R p)
    (hobl : ∀ f, Obls R P ops φ w.drew f 0 ops.toList a0)
    (hfin : ∀ (g : Nat → Value) u, R.r w.drew u → (∀ j, j < ops.size → fact φ j (g j) u) → Q .normal (puts g 0 ops.toList a0) u) : (Code.region id ops true).wp P Q a0 w := by
 refine wp_region_any hm (flow_any hok hsel hmono hobl hfin _ _ _ _ ⟨R.refl _, by simp, rfl, rfl, fun _ _ => rfl, fun j oj hj hs => ?_, fun j oj hj hs => ?_⟩ ?_)
 · have hlt := (zAg.1 hj).1
   simp [Array.getD, hlt] at hs
 · have hlt := (zAg.1 hj).1
   simp [Array.getD, hlt] at hs
 · unfold left
   rw [List.countP_eq_length.2]
   · simp
   · intro i hi
     have hlt := List.mem_range.1 hi
     simp [Array.getD, hlt]
end
end Go.Proofs.YtkdidghfcfcpfaaGreat.Fr
namespace Go.Proofs.YtkdidghfcfcpfaaGreat
open Go.ChangeShapes Go.WideShapes Go.ChangeAt Go.RowKit Go.Lib Go.Joins
theorem freeze_chg (w : World) (g k : Nat) : Chg (fun i => i = g) w (w.freeze ⟨g, k, none⟩ 1) := by
 unfold World.freeze
 rw [if_neg (by decide)]
 exact ⟨rfl, rfl, rfl, by simp, fun i _ hne => by simp [Array.getElem?_modify, Ne.symm hne]⟩
theorem freeze_at {w : World} {g k : Nat} {C : Array Value} {t : TypeId} {fz : Nat × Nat} (h : w.heap[g]? = some (.cells C t fz)) : ∃ fz', (w.freeze ⟨g, k, none⟩ 1).heap[g]? = some (.cells C t fz') := by
 unfold World.freeze
 rw [if_neg (by decide)]
 exact ⟨_, by simp [Array.getElem?_modify, h]; rfl⟩
theorem conv_const {w : World} {g n c : Nat} {C : Array Value} {fz : Nat × Nat} (h : w.heap[g]? = some (.cells C 5 fz)) :
    (convert 22 22 (.slice (some ⟨g, 0, none⟩) n c)).run Tryz.prog w = .ok (.slice (some ⟨g, 0, none⟩) n c) (w.freeze ⟨g, C.size, none⟩ 1) := by
 have hsh : w.shape? g = some (5, C.size) := by unfold World.shape?; rw [h]
 simp [convert, run_underlying Tryz.underlying22, run_underlying Tryz.underlying5, markStringish, hsh]
def MarkR (B : Nat) : Fr.Rel where
 r u u' := u'.os = u.os ∧ u'.tape = u.tape ∧ u'.output = u.output ∧ u.heap.size ≤ u'.heap.size ∧ ∀ k, k < u.heap.size → u'.heap[k]? = u.heap[k]? ∨ (B ≤ k ∧ ∃ c fz fz', u.heap[k]? = some (.cells c 5 fz) ∧ u'.heap[k]? = some (.cells c 5 fz'))
 refl w := ⟨rfl, rfl, rfl, zNr _, fun _ _ => .inl rfl⟩
 trans := by
  rintro a b c ⟨h1, h2, h3, h4, h5⟩ ⟨k1, k2, k3, k4, k5⟩
  refine ⟨k1.trans h1, k2.trans h2, k3.trans h3, zNt h4 k4, fun k hk => ?_⟩
  rcases h5 k hk with h | ⟨hB, x, f, f', hx, hx'⟩
  · rcases k5 k (Nat.lt_of_lt_of_le hk h4) with h' | ⟨hB, x, f, f', hx, hx'⟩
    · exact .inl (h'.trans h)
    · exact .inr ⟨hB, x, f, f', h ▸ hx, hx'⟩
  · rcases k5 k (Nat.lt_of_lt_of_le hk h4) with h' | ⟨_, y, e, e', hy, hy'⟩
    · exact .inr ⟨hB, x, f, f', hx, h'.trans hx'⟩
    · rw [hx'] at hy
      injection hy with hy
      injection hy with q1 _ _
      subst q1
      exact .inr ⟨hB, x, f, e', hx, hy'⟩
section
variable {B : Nat} {u u' : World}
theorem mark_ext (h : Ext u u') : (MarkR B).r u u' := ⟨h.os, h.tape, h.output, h.size, fun k hk => .inl (h.block k hk)⟩
theorem mark_freeze {g k : Nat} {C : Array Value} {fz : Nat × Nat} (hg : u.heap[g]? = some (.cells C 5 fz)) (hB : B ≤ g) : (MarkR B).r u (u.freeze ⟨g, k, none⟩ 1) := by
 have hc := freeze_chg u g k
 refine ⟨hc.os, hc.tape, hc.output, hc.size, fun i hi => ?_⟩
 by_cases h : i = g
 · subst h
   obtain ⟨fz', h'⟩ := freeze_at (k := k) hg
   exact .inr ⟨hB, C, fz, fz', hg, h'⟩
 · exact .inl (hc.block i hi h)
theorem mark_heap {o : Obj} {k : Nat} (h : (MarkR B).r u u') (hk : u.heap[k]? = some o) (hn : k < B ∨ ∀ c fz, o ≠ .cells c 5 fz) : u'.heap[k]? = some o := by
 rcases h.2.2.2.2 k (zAg.1 hk).1 with h' | ⟨hB, x, f, f', hx, hx'⟩
 · exact h'.trans hk
 · rcases hn with hn | hn
   · omega
   · rw [hk] at hx; injection hx with hx; exact absurd hx (hn _ _)
theorem mark_cell {p : Addr} {v : Value} (h : (MarkR B).r u u') (hc : u.cell? p = some v) : u'.cell? p = some v := by
 rcases h.2.2.2.2 p.block (World.block_lt_of_cell? _ _ hc) with h' | ⟨hB, x, f, f', hx, hx'⟩
 · exact (World.cell?_of_block h').trans hc
 · unfold World.cell? at hc ⊢
   rw [hx] at hc
   rw [hx']
   exact hc
theorem mark_chg (h : (MarkR B).r u u') : Chg (fun i => B ≤ i) u u' := ⟨h.1, h.2.1, h.2.2.1, h.2.2.2.1, fun k hk hn => by
 rcases h.2.2.2.2 k hk with h' | ⟨hB, _⟩
 · exact h'
 · exact absurd hB hn⟩
theorem mark_bs {lo hi : Nat} {v : Value} {l : List Nat} (h : (MarkR B).r u u') (hb : Bs u lo hi v l) : Bs u' lo hi v l := by
 obtain ⟨A, c, e, h1, h2, h3, h4⟩ := hb
 refine ⟨A, c, e, h1, h2, h3, ?_⟩
 rcases h4 with h4 | ⟨b, o, e, h5, h6, h7⟩
 · exact .inl h4
 · exact .inr ⟨b, o, e, h5, h6, fun i x hx => mark_cell h (h7 i x hx)⟩
theorem mark_em {lo hi : Nat} {e : Ent} {g : Hd} (h : (MarkR B).r u u') (m : Em u lo hi e g) : Em u' lo hi e g := ⟨mark_bs h m.k, mark_bs h m.v, m.bk, m.bv, m.s1, m.s2, m.d1, m.d2⟩
end
theorem bs_mark (w : World) (l : List Nat) (hl : l.length ≤ 100) (fr : Nat × Nat) : Bs (w.alloc (.cells (bv l).toArray 5 fr)) w.heap.size (w.heap.size + 1) (.slice (some ⟨w.heap.size, 0, none⟩) l.length l.length) l := by
 refine ⟨_, _, rfl, zNr _, by simp [maxLen]; omega, (fun h => by cases h), .inr ⟨w.heap.size, 0, rfl, zNr _, Nat.lt_succ_self _, fun i u hu => ?_⟩⟩
 rw [cell_alloc_mark_at _ _ _ _ _ _ rfl, Nat.zero_add]
 simpa using hu
theorem bl_bs {u : World} {b : Nat} {l : List Nat} {fz : Nat × Nat} (hl : l.length ≤ 100) (h : u.heap[b]? = some (.cells (bv l).toArray 5 fz)) : Bs u 0 u.heap.size (.slice (some ⟨b, 0, none⟩) l.length l.length) l := by
 refine ⟨_, _, rfl, zNr _, by simp [maxLen]; omega, (fun h => by cases h), .inr ⟨b, 0, rfl, Nat.zero_le _, (zAg.1 h).1, fun i x hx => ?_⟩⟩
 rw [Nat.zero_add]
 unfold World.cell?
 rw [h]
 simpa using hx
def LitF (e : Ent) (v : Value) (u : World) : Prop := ∃ g : Hd, v = e.at_ g ∧ Em u 0 u.heap.size e g
def BlF (B : Nat) (l : List Nat) (v : Value) (u : World) : Prop := ∃ (b : Nat) (fz : Nat × Nat), v = .slice (some ⟨b, 0, none⟩) l.length l.length ∧ B ≤ b ∧ u.heap[b]? = some (.cells (bv l).toArray 5 fz)
theorem Fr.Mono.lit (B : Nat) (e : Ent) : Fr.Mono (MarkR B) (LitF e) := fun _ _ _ ⟨g, h, m⟩ hu => ⟨g, h, (mark_em hu m).wide (zNr _) hu.2.2.2.1⟩
theorem Fr.Mono.bl (C B : Nat) (l : List Nat) : Fr.Mono (MarkR C) (BlF B l) := fun _ u u' ⟨b, fz, h, hB, hb⟩ hu => by
 rcases hu.2.2.2.2 b (zAg.1 hb).1 with h' | ⟨_, x, f, f', hx, hx'⟩
 · exact ⟨b, fz, h, hB, h'.trans hb⟩
 · rw [hb] at hx
   injection hx with hx
   injection hx with q1 _ _
   subst q1
   exact ⟨b, f', h, hB, hx'⟩
theorem two_es {u : World} {b : Nat} {e e' : Ent} {g g' : Hd} (h : u.heap[b]? = some (.cells (ecells (e, g) ++ ecells (e', g')).toArray 50 (0, 0))) (hm : Em u 0 u.heap.size e g) (hm' : Em u 0 u.heap.size e' g') : Es u 0 u.heap.size (some ⟨b, 0, none⟩) [(e, g), (e', g')] := by
 refine ⟨.inr ⟨b, 0, rfl, Nat.zero_le _, (zAg.1 h).1, fun i x hx => ?_⟩, fun p hp => ?_⟩
 · rw [Nat.zero_add]
   exact cell_of h (by simpa [erow] using hx)
 · simp only [List.mem_cons, List.not_mem_nil, or_false] at hp
   rcases hp with rfl | rfl
   · exact hm
   · exact hm'
end Go.Proofs.YtkdidghfcfcpfaaGreat
namespace Go.Proofs.YtkdidghfcfcpfaaGreat
open Go.ChangeShapes Go.WideShapes Go.ChangeAt Go.RowKit Go.Shelf
attribute [local go_sem] Oper.semAt_some
def GoT (w : World) (v : Value) (V : List Ent) : Prop := (∃ p, v = .pointer p) ∧ ∀ u bx, Ext w u → Boxed u bx 24 v → GoIter 40 #[.pointer (some ⟨bx, 0, none⟩)] u.heap.size V (fun A => Ext w A ∧ Boxed A bx 24 v) u
theorem TV.goes {w : World} {g : Nat} {C : List (List Ent)} {L : List Ent} {fr tt : List Nat} {en : Bool} (h : TV w g C L fr tt en) : GoT w (.pointer (some ⟨g, 0, none⟩)) (inV fr tt en L) := ⟨⟨_, rfl⟩, fun _ _ hu hb => tall_iter h hu hb⟩
structure LenI (w u : World) (bx : Nat) (v : Value) (D K : Nat → Prop) (k : Nat) (A : World) : Prop where
 below : Ext w A
 num : Boxed A w.heap.size 3 (.int .i64 (k : Int))
 box : Boxed A bx 24 v
 z : u.heap.size ≤ A.heap.size
 dz : ∀ i, D i → u.heap.size ≤ i
 kz : ∀ i, K i → u.heap.size ≤ i
theorem LenI.chg {w u : World} {bx : Nat} {v : Value} (h1 : w.heap.size < bx) (h2 : bx < u.heap.size) {D K D' K' : Nat → Prop} {k : Nat} {A A' : World} (h : LenI w u bx v D K k A) (hc : Chg D A A') (hD : ∀ i, D' i → D i ∨ A.heap.size ≤ i) (hK : ∀ i, K' i → K i ∨ A.heap.size ≤ i) : LenI w u bx v D' K' k A' :=
 ⟨Below.trans h.below (hc.below (fun i hi => by have := h.dz i hi; omega) h.below.size), boxed_chg h.num hc (fun hd => by have := h.dz _ hd; omega), boxed_chg h.box hc (fun hd => by have := h.dz _ hd; omega), zNt h.z hc.size, fun i hi => by rcases hD i hi with h2 | h2; exact h.dz i h2; exact zNt h.z h2, fun i hi => by rcases hK i hi with h2 | h2; exact h.kz i h2; exact zNt h.z h2⟩
set_option maxRecDepth 100000 in
set_option maxHeartbeats 8000000 in
theorem tlen_any {w : World} {v : Value} {V : List Ent} (h : GoT w v V) (hl : V.length ≤ 1000000) : Calls Tryz.prog 12 #[v] w fun x w' => x = .returned (.int .i64 (V.length : Int)) ∧ Ext w w' := by
 obtain ⟨⟨p, rfl⟩, hit⟩ := h
 obtain ⟨w1, hw1⟩ : ∃ w1, w1 = w.alloc (.cells #[.int .i64 0] 3) := ⟨_, rfl⟩
 have HX1 : Hid (Ext w w1) := by rw [hw1]; exact ext_alloc _ _
 have HB1 : Hid (Boxed w1 w.heap.size 3 (.int .i64 0)) := by rw [hw1]; exact heap_at _ _ rfl
 have HIT := zHd hit
 have HL := zHd hl
 clear hit hl
 refine (callsIn_wide (n := 6)).1 ?_
 refine callsIn_of_wp_marks Tryz.func12 rfl trivial ?_
 simp only [Tryz.ntmps12, List.size_toArray, List.length_cons, List.length_nil, Nat.reduceAdd, Nat.reduceSub, Array.replicate_succ, Array.replicate_zero, List.push_toArray, List.append_toArray, List.nil_append, List.cons_append]
 refine wpIn_wide.2 ?_
 go_upto_region 2 with (fail)
 rw [← hw1]
 clear hw1
 go_wp2_with (refine (tall_any ⟨_, rfl⟩).mono ?_; rintro x w3 ⟨rfl, hw3⟩; have HX3 : Hid (Ext w1 w3) := (by rw [hw3]; exact ext_alloc _ _); have HB3 : Hid (Boxed w3 w1.heap.size 24 (.pointer p)) := (by rw [hw3]; exact heap_at _ _ rfl); clear hw3)
 rename_i ak
 refine (wpIn_wide (n := 6)).1 ?_
 have HLT : Hid (w.heap.size < w1.heap.size ∧ w1.heap.size < w3.heap.size) := ⟨HB1.out.lt, HB3.out.lt⟩
 refine wpIn_overQ rfl enters_tall1 (HIT.out w3 _ (zEt HX1.out HX3.out) HB3.out) (fun _ => rfl) (LenI w w3 w1.heap.size (.pointer p)) (fun _ _ _ => False) (fun _ _ _ _ h => ⟨h.below, h.box⟩) ?hI ?hIx ?h0 ?rnd ?hok ?done ?stop
 case hI => exact fun D K k A D' K' A' h hc hD hK => h.chg HLT.out.1 HLT.out.2 hc hD hK
 case hIx => exact fun _ _ _ _ h _ => h
 case h0 => exact fun A D K hx hD hK => ⟨zEt (zEt HX1.out HX3.out) hx, ext_heap (zEt HX3.out hx) HB1.out, ext_heap hx HB3.out, hx.size, hD, hK⟩
 case rnd =>
  rintro l2 D K k ⟨e, g⟩ A rfl hDl hKl _ _ hDb hKb hi ⟨hek, _⟩
  have HBL : Hid (k < V.length) := (zLg.1 hek).1
  have HI := zHd hi
  have HK := zHd (And.intro hDl hKl)
  have HKB := zHd hKb
  clear hDl hKl hDb hKb hi hek
  dsimp only [rowV]
  gi_wp2
  refine ⟨StepK.refl _ _, fun A2 hc => ?_⟩
  have HI2 := zHd (HI.out.chg HLT.out.1 HLT.out.2 (hc.mono (S' := D) fun i _ e => by rw [e]; exact HK.out.1) (fun i h => .inl h) (fun i h => .inl h))
  have b0 := HI2.out.num.cell
  have f0 := HI2.out.num.frozen
  have HW := zHd (wrap_succ (n := k) (by have := HBL.out; have := HL.out; omega))
  clear hc
  gi_wp2
  rw [HW.out]
  have hi := HI2.out
  have hl := HLT.out
  have hS : Chg (fun i => i = w.heap.size) A2 (A2.setCell ⟨w.heap.size, 0, none⟩ (.int .i64 ((k + 1 : Nat) : Int))) := Chg.setCell _ _ _ rfl
  exact ⟨StepK.of_chg hS (fun i _ hk e => by have := hi.kz i hk; omega), Below.trans hi.below (hS.below (fun i e => by omega) hi.below.size), hi.num.set _, boxed_chg hi.box hS (fun e => by omega), zNt hi.z hS.size, hi.dz, hi.kz⟩
 case hok =>
  rintro D1 K1 D2 K2 j x A1 ⟨h1, h2, h3, h4⟩ ⟨od, hd⟩ ⟨ol, hl⟩ hD' _ _ _
  have hfr : ∀ {l : List Nat} {v : Value}, Own w3.heap.size l v A1 → Free D1 v → Free D2 v := fun ho hf b hb hd' => by
   obtain ⟨_, _, cc, hcc⟩ := rowN_lt ho b hb
   rcases hD' b hd' with h | h | h
   · exact hf b hb h
   · rw [h, hd] at hcc; cases hcc
   · rw [h, hl] at hcc; cases hcc
  exact ⟨h1, h2, hfr h2.k h3, hfr h2.v h4⟩
 case done =>
  rintro M' k W' D1 K1 hM _ _ hi hdn hD
  have hdn2 : k = V.length := hdn
  subst hdn2
  have HI := zHd hi
  have HDD := zHd hD
  have HM := zHd hM
  have b0 := hi.num.cell
  clear hM hi hdn hD
  refine ak _ _ ?_
  clear ak
  go_wp2_with fail
  refine ⟨by simp, .inl ⟨_, _, rfl, run_takeDeferred HDD.out, ?_⟩⟩
  refine ⟨_, results_tmp rfl _ _ _, rfl, ?_⟩
  exact Below.trans HI.out.below ((putObj_chg W' M' _).below (fun i e => by have := HLT.out; have := HM.out; omega) HI.out.below.size)
 case stop => exact fun _ _ _ _ _ _ h _ => h.elim
end Go.Proofs.YtkdidghfcfcpfaaGreat
namespace Go.Proofs.YtkdidghfcfcpfaaGreat
open Go.ChangeShapes Go.WideShapes Go.ChangeAt Go.RowKit Go.Shelf
attribute [local go_sem] Oper.semAt_some
theorem results_ent_bool {fn : Func} {p q : Tmp} (h : fn.results = #[.cell p 50, .cell q 4]) (tmps : Array Value) (w : World) (g g2 : Nat) (c : Array Value) (z : Bool) (hp : tmps.getD p undef = .pointer (some ⟨g, 0, none⟩)) (hq : tmps.getD q undef = .pointer (some ⟨g2, 0, none⟩))
    (hc : c.size = 4) (hg : w.heap[g]? = some (.cells c 50 (0, 0))) (hb : w.cell? ⟨g2, 0, none⟩ = some (.bool z)) : (results fn tmps).run Tryz.prog w = .ok (.tuple #[.agg c, .bool z]) w := by
 have hi : (Tryz.prog.info? 50).map (·.size) = some 4 := by kernel_rfl
 have hl := run_loadVar_row (P := Tryz.prog) w g 50 50 c (0, 0) _ hg Tryz.underlying50 rfl (by rw [hc]; exact hi)
 have ha : (asAddr (.pointer (some ⟨g, 0, none⟩))).run Tryz.prog w = .ok ⟨g, 0, none⟩ w := rfl
 have ha2 : (asAddr (.pointer (some ⟨g2, 0, none⟩))).run Tryz.prog w = .ok ⟨g2, 0, none⟩ w := rfl
 have hlb : (loadVar 4 ⟨g2, 0, none⟩).run Tryz.prog w = .ok (.bool z) w := by simp [go_sem, hb]
 have hr : (results fn tmps).run Tryz.prog w = ((asAddr (tmps.getD p undef)).run Tryz.prog w).andThen fun a w₁ => ((loadVar 50 a).run Tryz.prog w₁).andThen fun v w₂ => ((asAddr (tmps.getD q undef)).run Tryz.prog w₂).andThen fun b w₃ => ((loadVar 4 b).run Tryz.prog w₃).andThen fun u w₄ => .ok (.tuple #[v, u]) w₄ := by
  simp only [results, h]
  simp [Sem.run_bind, Result.andThen]
 rw [hr, hp, ha, Result.andThen_ok, hl, Result.andThen_ok, hq, ha2, Result.andThen_ok, hlb, Result.andThen_ok]
def EndAns (w : World) (o : Option Ent) (x : Ending) (w' : World) : Prop :=
 Ext w w' ∧ match o with
  | some e => ∃ g : Hd, x = .returned (.tuple #[e.at_ g, .bool true]) ∧ Em w' 0 w'.heap.size e g
  | none => x = .returned (.tuple #[noE, .bool false])
structure FstI (w u : World) (bx : Nat) (v : Value) (D K : Nat → Prop) (k : Nat) (A : World) : Prop where
 k : k = 0
 below : Ext w A
 res : A.heap[w.heap.size]? = some (.cells #[.slice none 0 0, .int .i64 0, .int .i64 0, .slice none 0 0] 50 (0, 0))
 is : Boxed A (w.heap.size + 1) 4 (.bool false)
 box : Boxed A bx 24 v
 z : u.heap.size ≤ A.heap.size
 dz : ∀ i, D i → u.heap.size ≤ i
 kz : ∀ i, K i → u.heap.size ≤ i
theorem FstI.chg {w u : World} {bx : Nat} {v : Value} (h1 : w.heap.size + 1 < bx) (h2 : bx < u.heap.size) {D K D' K' : Nat → Prop} {k : Nat} {A A' : World} (h : FstI w u bx v D K k A) (hc : Chg D A A') (hD : ∀ i, D' i → D i ∨ A.heap.size ≤ i) (hK : ∀ i, K' i → K i ∨ A.heap.size ≤ i) : FstI w u bx v D' K' k A' :=
 ⟨h.k, Below.trans h.below (hc.below (fun i hi => by have := h.dz i hi; omega) h.below.size), (hc.block _ (zAg.1 h.res).1 (fun hd => by have := h.dz _ hd; omega)).trans h.res, boxed_chg h.is hc (fun hd => by have := h.dz _ hd; omega), boxed_chg h.box hc (fun hd => by have := h.dz _ hd; omega), zNt h.z hc.size, fun i hi => by rcases hD i hi with h2 | h2; exact h.dz i h2; exact zNt h.z h2, fun i hi => by rcases hK i hi with h2 | h2; exact h.kz i h2; exact zNt h.z h2⟩
structure FstX (w u : World) (B : Nat) (V : List Ent) (D : Nat → Prop) (cd : Code) (A : World) : Prop where
 cd : cd = .ret
 below : Ext w A
 ex : ∃ (e : Ent) (g : Hd), V.head? = some e ∧ A.heap[w.heap.size]? = some (.cells #[.slice g.kA e.key.length g.kc, .int .i64 e.seq, .int .i64 e.kind, .slice g.vA e.val.length g.vc] 50 (0, 0)) ∧ Mine B (e, g) A ∧ Free D (.slice g.kA e.key.length g.kc) ∧ Free D (.slice g.vA e.val.length g.vc)
 is : Boxed A (w.heap.size + 1) 4 (.bool true)
 dz : ∀ i, D i → u.heap.size ≤ i
theorem FstX.chg {w u : World} {B : Nat} {V : List Ent} (h1 : w.heap.size + 1 < u.heap.size) {D : Nat → Prop} {cd : Code} {A A' : World} (h : FstX w u B V D cd A) (hc : Chg D A A') : FstX w u B V D cd A' := by
 obtain ⟨e, g, h2, h3, h4, h5, h6⟩ := h.ex
 exact ⟨h.cd, Below.trans h.below (hc.below (fun i hi => by have := h.dz i hi; omega) h.below.size), ⟨e, g, h2, (hc.block _ (zAg.1 h3).1 (fun hd => by have := h.dz _ hd; omega)).trans h3, ⟨row_kept h4.k fun b hb => hc.block b (row_lt h4.k b hb).2 (h5 b hb), row_kept h4.v fun b hb => hc.block b (row_lt h4.v b hb).2 (h6 b hb), h4.good⟩, h5, h6⟩, boxed_chg h.is hc (fun hd => by have := h.dz _ hd; omega), h.dz⟩
set_option maxRecDepth 100000 in
set_option maxHeartbeats 8000000 in
theorem tfst_any {w : World} {v : Value} {V : List Ent} (h : GoT w v V) : Calls Tryz.prog 27 #[v] w (EndAns w V.head?) := by
 obtain ⟨⟨p, rfl⟩, hit⟩ := h
 obtain ⟨w1, hw1⟩ : ∃ w1, w1 = (w.alloc (.cells #[.slice none 0 0, .int .i64 0, .int .i64 0, .slice none 0 0] 50)).alloc (.cells #[.bool false] 4) := ⟨_, rfl⟩
 have HX1 : Hid (Ext w w1) := by rw [hw1]; exact zEt (ext_alloc _ _) (ext_alloc _ _)
 have HR1 : Hid (w1.heap[w.heap.size]? = some (.cells #[.slice none 0 0, .int .i64 0, .int .i64 0, .slice none 0 0] 50 (0, 0))) := by rw [hw1]; exact ext_heap (ext_alloc _ _) (heap_at _ _ rfl)
 have HB1 : Hid (Boxed w1 (w.heap.size + 1) 4 (.bool false)) := by rw [hw1]; exact heap_at _ _ (by simp)
 have HIT := zHd hit
 clear hit
 refine (callsIn_wide (n := 6)).1 ?_
 refine callsIn_of_wp_marks Tryz.func27 rfl trivial ?_
 simp only [Tryz.ntmps27, List.size_toArray, List.length_cons, List.length_nil, Nat.reduceAdd, Nat.reduceSub, Array.replicate_succ, Array.replicate_zero, List.push_toArray, List.append_toArray, List.nil_append, List.cons_append]
 refine wpIn_wide.2 ?_
 go_upto_region 1 with (fail)
 rw [← hw1]
 clear hw1
 go_wp2_with (refine (tall_any ⟨_, rfl⟩).mono ?_; rintro x w3 ⟨rfl, hw3⟩; have HX3 : Hid (Ext w1 w3) := (by rw [hw3]; exact ext_alloc _ _); have HB3 : Hid (Boxed w3 w1.heap.size 24 (.pointer p)) := (by rw [hw3]; exact heap_at _ _ rfl); clear hw3)
 rename_i ak
 refine (wpIn_wide (n := 6)).1 ?_
 have HLT : Hid (w.heap.size + 1 < w1.heap.size ∧ w1.heap.size < w3.heap.size) := ⟨HB1.out.lt, HB3.out.lt⟩
 have hw13 : w.heap.size + 1 < w3.heap.size := by have := HLT.out; omega
 have HW13 := zHd hw13
 clear hw13
 refine wpIn_overQ rfl enters_tall1 (HIT.out w3 _ (zEt HX1.out HX3.out) HB3.out) (fun _ => rfl) (FstI w w3 w1.heap.size (.pointer p)) (FstX w w3 w3.heap.size V) (fun _ _ _ _ h => ⟨h.below, h.box⟩) ?hI ?hIx ?h0 ?rnd ?hok ?done ?stop
 case hI => exact fun D K k A D' K' A' h hc hD hK => h.chg HLT.out.1 HLT.out.2 hc hD hK
 case hIx => exact fun D c A A' h hc => h.chg HW13.out hc
 case h0 => exact fun A D K hx hD hK => ⟨rfl, zEt (zEt HX1.out HX3.out) hx, ext_heap (zEt HX3.out hx) HR1.out, ext_heap (zEt HX3.out hx) HB1.out, ext_heap hx HB3.out, hx.size, hD, hK⟩
 case rnd =>
  rintro l2 D K k ⟨e, g⟩ A1 rfl hDl hKl hDm hKm hDb hKb hi ⟨hek, hm, hf1', hf2'⟩
  have HEK : Hid (V.head? = some e) := by
   have h1 : V[k]? = some e := hek
   rw [hi.k] at h1
   rw [List.head?_eq_getElem?]; exact h1
  have HI1 := zHd hi
  have HM1 := zHd hm
  have HFR1 := zHd (And.intro hf1' hf2')
  have HLK := zHd (And.intro hDl hKl)
  have HDK := zHd (And.intro hDb hKb)
  clear hDl hKl hDm hKm hDb hKb hi hm hf1' hf2' hek
  dsimp only at HFR1
  dsimp only [rowV, Ent.at_]
  gi_wp2
  obtain ⟨A2, hA2⟩ : ∃ A2, A2 = A1.alloc (.cells #[.slice g.kA e.key.length g.kc, .int .i64 e.seq, .int .i64 e.kind, .slice g.vA e.val.length g.vc] 50) := ⟨_, rfl⟩
  rw [← hA2]
  have HX2 : Hid (Ext A1 A2) := by rw [hA2]; exact ext_alloc _ _
  have HBE : Hid (A2.heap[A1.heap.size]? = some (.cells #[.slice g.kA e.key.length g.kc, .int .i64 e.seq, .int .i64 e.kind, .slice g.vA e.val.length g.vc] 50 (0, 0))) := by rw [hA2]; exact heap_at _ _ rfl
  clear hA2
  refine ⟨StepK.of_chg (S := fun _ => False) (Chg.of_ext HX2.out) (fun _ _ _ h => h), fun A3 hc => ?_⟩
  have HCH : Hid (Chg D A1 A3) := ((Chg.of_ext (S := D) HX2.out).trans (hc.mono fun i _ e => by rw [e]; exact HLK.out.1))
  have HI3 := zHd (HI1.out.chg HLT.out.1 HLT.out.2 HCH.out (fun i h => .inl h) (fun i h => .inl h))
  have HMI : Hid (Mine w3.heap.size (e, g) A3) := ⟨row_kept HM1.out.k fun b hb => HCH.out.block b (row_lt HM1.out.k b hb).2 (HFR1.out.1 b hb), row_kept HM1.out.v fun b hb => HCH.out.block b (row_lt HM1.out.v b hb).2 (HFR1.out.2 b hb), HM1.out.good⟩
  have HB3' : Hid (A3.heap[A1.heap.size]? = some (.cells #[.slice g.kA e.key.length g.kc, .int .i64 e.seq, .int .i64 e.kind, .slice g.vA e.val.length g.vc] 50 (0, 0))) :=
   (hc.block _ (zAg.1 HBE.out).1 (fun e => by have := HDK.out.2 _ HLK.out.2; omega)).trans HBE.out
  have e0 := cell_of HB3'.out (k := 0) rfl
  have e1 := cell_of HB3'.out (k := 1) rfl
  have e2 := cell_of HB3'.out (k := 2) rfl
  have e3 := cell_of HB3'.out (k := 3) rfl
  have b0 := cell_of HI3.out.res (k := 0) rfl
  have b1 := cell_of HI3.out.res (k := 1) rfl
  have b2 := cell_of HI3.out.res (k := 2) rfl
  have b3 := cell_of HI3.out.res (k := 3) rfl
  have z0 := frozen_four (j := 0) HI3.out.res
  have z1 := frozen_four (j := 1) HI3.out.res
  have z2 := frozen_four (j := 2) HI3.out.res
  have z3 := frozen_four (j := 3) HI3.out.res
  have y0 := HI3.out.is.cell
  have y1 := HI3.out.is.frozen
  clear hc
  gi_wp2
  have hi := HI3.out
  have hl := HLT.out
  have hS4 := chg_four w.heap.size A3 (.slice g.kA e.key.length g.kc) (.int .i64 e.seq) (.int .i64 e.kind) (.slice g.vA e.val.length g.vc)
  have hR4 := set_four (x := .slice g.kA e.key.length g.kc) (y := .int .i64 e.seq) (z := .int .i64 e.kind) (t := .slice g.vA e.val.length g.vc) hi.res
  have hB4 := boxed_chg hi.is hS4 (by show ¬ (w.heap.size + 1 = w.heap.size); omega)
  generalize ((((A3.setCell ⟨w.heap.size, 0, none⟩ (.slice g.kA e.key.length g.kc)).setCell ⟨w.heap.size, 1, none⟩ (.int .i64 e.seq)).setCell ⟨w.heap.size, 2, none⟩ (.int .i64 e.kind)).setCell ⟨w.heap.size, 3, none⟩ (.slice g.vA e.val.length g.vc)) = A4 at hS4 hR4 hB4 ⊢
  have hS5 : Chg (fun i => i = w.heap.size ∨ i = w.heap.size + 1) A3 (A4.setCell ⟨w.heap.size + 1, 0, none⟩ (.bool true)) := (hS4.mono fun i _ e => .inl e).trans (Chg.setCell _ _ _ (.inr rfl))
  refine ⟨StepK.of_chg hS5 (fun i _ hk h3 => by have := hi.kz i hk; omega), rfl, Below.trans hi.below (hS5.below (fun i hb => by omega) hi.below.size), ⟨e, g, HEK.out, (Below.heap_setCell _ _ _ _ (show w.heap.size ≠ w.heap.size + 1 by omega)).trans hR4, HMI.out.chg hS5 (fun i h1 h2 => by omega), HFR1.out.1, HFR1.out.2⟩, hB4.set _, hi.dz⟩
 case hok =>
  rintro D1 K1 D2 K2 j x A1 ⟨h1, h2, h3, h4⟩ ⟨od, hd⟩ ⟨ol, hl⟩ hD' _ _ _
  have hfr : ∀ {l : List Nat} {v : Value}, Own w3.heap.size l v A1 → Free D1 v → Free D2 v := fun ho hf b hb hd' => by
   obtain ⟨_, _, cc, hcc⟩ := rowN_lt ho b hb
   rcases hD' b hd' with h | h | h
   · exact hf b hb h
   · rw [h, hd] at hcc; cases hcc
   · rw [h, hl] at hcc; cases hcc
  exact ⟨h1, h2, hfr h2.k h3, hfr h2.v h4⟩
 case done =>
  rintro M' k W' D1 K1 hM _ _ hi hdn hD
  have hV : V = [] := List.eq_nil_of_length_eq_zero (by have h1 : k = V.length := hdn; have := hi.k; omega)
  subst hV
  have HI := zHd hi
  have HDD := zHd hD
  have HM := zHd hM
  have b0 := cell_of hi.res (k := 0) rfl
  have b1 := cell_of hi.res (k := 1) rfl
  have b2 := cell_of hi.res (k := 2) rfl
  have b3 := cell_of hi.res (k := 3) rfl
  have z0 := frozen_four (j := 0) hi.res
  have z1 := frozen_four (j := 1) hi.res
  have z2 := frozen_four (j := 2) hi.res
  have z3 := frozen_four (j := 3) hi.res
  have y0 := hi.is.cell
  have y1 := hi.is.frozen
  clear hM hi hdn hD
  refine ak _ _ ?_
  clear ak
  go_wp2_with fail
  have hi := HI.out
  have hS4 := chg_four w.heap.size W' (.slice none 0 0) (.int .i64 0) (.int .i64 0) (.slice none 0 0)
  have hR4 := set_four (x := .slice none 0 0) (y := .int .i64 0) (z := .int .i64 0) (t := .slice none 0 0) hi.res
  have hB4 := boxed_chg hi.is hS4 (by show ¬ (w.heap.size + 1 = w.heap.size); omega)
  have hD4 := (hS4.block M' (zAg.1 HDD.out).1 (fun e => by have := HM.out; have := HW13.out; omega)).trans HDD.out
  generalize ((((W'.setCell ⟨w.heap.size, 0, none⟩ (.slice none 0 0)).setCell ⟨w.heap.size, 1, none⟩ (.int .i64 0)).setCell ⟨w.heap.size, 2, none⟩ (.int .i64 0)).setCell ⟨w.heap.size, 3, none⟩ (.slice none 0 0)) = A4 at hS4 hR4 hB4 hD4 ⊢
  have hS5 : Chg (fun i => i = w.heap.size ∨ i = w.heap.size + 1) W' (A4.setCell ⟨w.heap.size + 1, 0, none⟩ (.bool false)) := (hS4.mono fun i _ e => .inl e).trans (Chg.setCell _ _ _ (.inr rfl))
  have hD5 : (A4.setCell ⟨w.heap.size + 1, 0, none⟩ (.bool false)).heap[M']? = some (.deferred (some [])) := (Below.heap_setCell _ _ _ _ (by have := HM.out; have := HW13.out; show M' ≠ w.heap.size + 1; omega)).trans hD4
  have hB5 := hB4.set (.bool false)
  have hR5 : (A4.setCell ⟨w.heap.size + 1, 0, none⟩ (.bool false)).heap[w.heap.size]? = _ := (Below.heap_setCell _ _ _ _ (show w.heap.size ≠ w.heap.size + 1 by omega)).trans hR4
  have hP := putObj_chg (A4.setCell ⟨w.heap.size + 1, 0, none⟩ (.bool false)) M' (.deferred none)
  have hne : M' ≠ w.heap.size ∧ M' ≠ w.heap.size + 1 := by have := HM.out; have := HW13.out; omega
  refine ⟨by simp, .inl ⟨_, _, rfl, run_takeDeferred hD5, ?_⟩⟩
  refine ⟨_, results_ent_bool Tryz.results27 _ _ w.heap.size (w.heap.size + 1) _ false rfl rfl rfl ((hP.block _ (zAg.1 hR5).1 (fun e => hne.1 e.symm)).trans hR5) (boxed_chg hB5 hP (fun e => hne.2 e.symm)).cell, ?_, rfl⟩
  exact Below.trans (Below.trans hi.below (hS5.below (fun i hb => by omega) hi.below.size)) (hP.below (fun i e => by have := HM.out; have := HW13.out; omega) (zNt hi.below.size hS5.size))
 case stop =>
  rintro D0 M' cd W' hM hDm hx hD
  have hcd := hx.cd
  subst hcd
  have HXX := zHd hx
  have HDM := zHd (And.intro hDm hD)
  have HM := zHd hM
  clear hM hDm hx hD
  gi_wp2
  have hX2 := HXX.out.chg HW13.out ((putObj_chg W' M' (.deferred none)).mono (S' := D0) fun i _ e => by rw [e]; exact HDM.out.1)
  obtain ⟨e, g, h2, h3, h4, h5, h6⟩ := hX2.ex
  refine ⟨by simp, .inl ⟨_, _, rfl, run_takeDeferred HDM.out.2, ?_⟩⟩
  refine ⟨_, results_ent_bool Tryz.results27 _ _ w.heap.size (w.heap.size + 1) _ true rfl rfl rfl h3 hX2.is.cell, hX2.below, ?_⟩
  rw [h2]
  exact ⟨g, rfl, h4.em⟩
end Go.Proofs.YtkdidghfcfcpfaaGreat
