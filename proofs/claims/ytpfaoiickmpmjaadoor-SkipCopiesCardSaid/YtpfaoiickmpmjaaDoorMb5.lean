/- Sput Sget Irise Flowin Ikeys Tailin Ilatest, joined. -/
import Derived.Test.YtpfaoiickmpmjaaDoorMb4
import Derived.Test.YtpfaoiickmpmjaaDoorMb3
import Derived.Laws.ResultCell
import Derived.Test.YtpfaoiickmpmjaaDoorMb2
import Derived.OrdersIn
import Derived.Laws.EntriesVeiled
import Derived.Deep.Slices

/- Put: an entry is put to its place. -/
namespace Go.Proofs.YtpfaoiickmpmjaaDoor
open Go.ChangeShapes Go.WideShapes Go.ChangeAt Go.RowKit Go.Shelf

/-- What Put answers. -/
def SPutAns (w : World) (D : Nat → Prop) (lb hb : Nat) (T : List Tw) (x : Ent) (e : Ending) (w' : World) : Prop :=
  ∃ (T' : List Tw) (c : Int), putE (T.map Tw.e) x = (T'.map Tw.e, c) ∧ e = .returned (.int .i64 c) ∧ Sk w' (fun k => D k ∨ w.heap.size ≤ k) lb hb T' ∧ Chg (Sks D w) w w'
theorem last_zero {H : List Tw} {p i : Nat} (hall : ∀ t ∈ H, 1 ≤ t.h) (hp : p ≤ H.length) (h : LastAt H p 0 i) : i + 1 = p := by
  rcases Nat.lt_or_ge (i + 1) p with hlt | hge
  · have h1 := h.last (i + 1) H[i + 1] (Nat.lt_succ_self _) hlt (List.getElem?_eq_getElem (by omega))
    have h2 := hall H[i + 1] (List.getElem_mem _)
    omega
  · have := h.lt; omega
theorem nxt_first {R : List Tw} (hall : ∀ t ∈ R, 1 ≤ t.h) : nxt 0 R = R.head?.map Tw.b := by
  cases R with
  | nil => rfl
  | cons a l => rw [nxt, if_pos (by have := hall a (by simp); omega)]; rfl
theorem putE_no {L : List Ent} {x : Ent} (h : x.may = false) : putE L x = (L, 2) := by unfold putE; rw [if_neg (by rw [h]; decide)]
theorem putE_there {L : List Ent} {x e : Ent} (h : x.may = true) (he : L[cutOf (aheadE x.key x.seq) L]? = some e) (hc : cmpE e x = 0) : putE L x = (L, 7) := by unfold putE; rw [if_pos h]; simp only [he]; rw [if_pos hc]
theorem putE_new {L : List Ent} {x : Ent} (h : x.may = true) (hne : ∀ e, L[cutOf (aheadE x.key x.seq) L]? = some e → cmpE e x ≠ 0) : putE L x = (L.take (cutOf (aheadE x.key x.seq) L) ++ x :: L.drop (cutOf (aheadE x.key x.seq) L), 0) := by
  unfold putE
  rw [if_pos h]
  cases he : L[cutOf (aheadE x.key x.seq) L]? with
  | none => rfl
  | some e => simp only []; rw [if_neg (hne e he)]
/-- Nothing is put. -/
theorem SPutAns.same {w w' : World} {D : Nat → Prop} {lb hb : Nat} {T : List Tw} {x : Ent} {c : Int} (h : Sk w D lb hb T) (hx : Ext w w') (hp : putE (T.map Tw.e) x = (T.map Tw.e, c)) : SPutAns w D lb hb T x (.returned (.int .i64 c)) w' :=
  ⟨T, c, hp, rfl, (h.ext hx).wide (fun _ _ hd => .inl hd), Chg.of_ext hx⟩

/-- Facts of the region that makes the tower. -/
def CpF (B : Nat) (e : Ent) (v : Value) (u : World) : Prop := ∃ g : Hd, v = e.at_ g ∧ Own B e.key (.slice g.kA e.key.length g.kc) u ∧ Own B e.val (.slice g.vA e.val.length g.vc) u
def TvF (B : Nat) (e : Ent) (born : Int) (v : Value) (u : World) : Prop := ∃ g : Hd, v = .agg (tc e g born fun _ => .pointer none) ∧ Own B e.key (.slice g.kA e.key.length g.kc) u ∧ Own B e.val (.slice g.vA e.val.length g.vc) u
def TbF (B : Nat) (e : Ent) (born : Int) (v : Value) (u : World) : Prop := ∃ (g : Hd) (b : Nat), v = .pointer (some ⟨b, 0, none⟩) ∧ B ≤ b ∧ u.heap[b]? = some (.cells (tc e g born fun _ => .pointer none) 78 (0, 0)) ∧ Own B e.key (.slice g.kA e.key.length g.kc) u ∧ Own B e.val (.slice g.vA e.val.length g.vc) u
theorem Mono.cpf (B : Nat) (e : Ent) : Mono (CpF B e) := fun _ _ _ ⟨g, h, a, b⟩ hu => ⟨g, h, a.below hu, b.below hu⟩
theorem Mono.tvf (B : Nat) (e : Ent) (born : Int) : Mono (TvF B e born) := fun _ _ _ ⟨g, h, a, b⟩ hu => ⟨g, h, a.below hu, b.below hu⟩
theorem Mono.tbf (B : Nat) (e : Ent) (born : Int) : Mono (TbF B e born) := fun _ _ _ ⟨g, b, h, hB, hb, a, c⟩ hu => ⟨g, b, h, hB, ext_heap hu hb, a.below hu, c.below hu⟩
theorem Em.keepC {w w' : World} {lo hi : Nat} {e : Ent} {g : Hd} {S : Nat → Prop} (h : Em w lo hi e g) (hhi : hi ≤ w.heap.size) (hc : Chg S w w') (hS : ∀ k, S k → k < lo ∨ hi ≤ k) : Em w' lo hi e g := by
  have hk : ∀ p : Addr, lo ≤ p.block → p.block < hi → w'.cell? p = w.cell? p := fun p h1 h2 => World.cell?_of_block (hc.block p.block (by omega) (fun hs => by have := hS _ hs; omega))
  exact ⟨h.k.of fun _ h => Sl.keep h hk, h.v.of fun _ h => Sl.keep h hk, h.bk, h.bv, h.s1, h.s2, h.d1, h.d2⟩
theorem bytesE_le {L : List Ent} (h : ∀ e ∈ L, e.may = true) : bytesE L ≤ L.length * 65700 := by
  unfold bytesE
  induction L with
  | nil => simp
  | cons a l ih =>
    have h1 := ih fun e he => h e (by simp [he])
    have h2 := Ent.form_len (h a (by simp))
    simp only [List.map_cons, List.sum_cons, List.length_cons]
    omega
theorem Chain.list {w w' : World} {D : Nat → Prop} {hi : Int} {H : List Tw} {lb : Nat} {c : Array Value} (h : Chain w D hi H) (hl : w.heap[lb]? = some (.cells c 65 (0, 0))) (hc : Chg (fun i => i = lb) w w') : Chain w' D hi H := by
  intro i t ht
  obtain ⟨h1, g, born, h2, h3, h4, h5, h6, h7, h8⟩ := h i t ht
  have hsk : Skb w lb := ⟨c, _, .inr hl⟩
  have hne : t.b ≠ lb := fun e => by rw [e, hl] at h2; injection h2 with h2; injection h2 with _ h2 _; exact absurd h2 (by decide)
  exact ⟨h1, g, born, (hc.block t.b (Array.getElem?_eq_some_iff.1 h2).1 hne).trans h2, h3, h4, row_kept h5 fun k hk => hc.block k (row_lt h5 k hk).2 (fun e => h5.skb hk (by rw [e]; exact hsk)), row_kept h6 fun k hk => hc.block k (row_lt h6 k hk).2 (fun e => h6.skb hk (by rw [e]; exact hsk)), h7, h8⟩
theorem nodup_new {X R : List Tw} {t : Tw} (h : ((X ++ R).map Tw.b).Nodup) (hn : ∀ u ∈ X ++ R, u.b ≠ t.b) : ((X ++ t :: R).map Tw.b).Nodup := by
  rw [List.map_append, List.nodup_append] at h ⊢
  rw [List.map_cons, List.nodup_cons]
  refine ⟨h.1, ⟨fun hm => ?_, h.2.1⟩, fun a ha b hb => ?_⟩
  · obtain ⟨u, hu, e⟩ := List.mem_map.1 hm
    exact hn u (List.mem_append_right _ hu) e
  · rcases List.mem_cons.1 hb with rfl | hb
    · obtain ⟨u, hu, rfl⟩ := List.mem_map.1 ha
      exact hn u (List.mem_append_left _ hu)
    · exact h.2.2 a ha b hb
theorem arr8 (F : Nat → Value) {m : Nat} (hm : m < 8) : #[F 0, F 1, F 2, F 3, F 4, F 5, F 6, F 7][m]? = some (F m) := by
  match m, hm with
  | 0, _ => rfl
  | 1, _ => rfl
  | 2, _ => rfl
  | 3, _ => rfl
  | 4, _ => rfl
  | 5, _ => rfl
  | 6, _ => rfl
  | 7, _ => rfl
theorem optp_is (o : Option Nat) : ∃ p, optp o = .pointer p := by cases o <;> exact ⟨_, rfl⟩
theorem Tab.ext {w w' : World} (h : Tab w) (hx : Ext w w') : Tab w' := fun j hj => ext_cell hx (h j hj)

set_option maxRecDepth 100000 in
set_option maxHeartbeats 8000000 in
theorem sput_any {w : World} {D : Nat → Prop} {lb hb lo hi : Nat} {T : List Tw} {x : Ent} {g : Hd} (h : Sk w D lb hb T) (hm : Em w lo hi x g) (hhi : hi ≤ w.heap.size) (hap : ∀ k, D k → k < lo ∨ hi ≤ k) (hT : Tab w) (hDT : ¬ D 0) (hfew : T.length ≤ 1000000) (hk : x.key.length ≤ 1099511627776) (hv : x.val.length ≤ 1099511627776) :
    Calls Tryd.prog 30 #[.pointer (some ⟨lb, 0, none⟩), x.at_ g] w (SPutAns w D lb hb T x) := by
  obtain ⟨w1, hw1⟩ : ∃ w1, w1 = w.alloc (.cells #[.slice g.kA x.key.length g.kc, .int .i64 x.seq, .int .i64 x.kind, .slice g.vA x.val.length g.vc] 40) := ⟨_, rfl⟩
  have HX1 : Hid (Ext w w1) := by rw [hw1]; exact ext_alloc _ _
  have HB1 : Hid (w1.heap[w.heap.size]? = some (.cells #[.slice g.kA x.key.length g.kc, .int .i64 x.seq, .int .i64 x.kind, .slice g.vA x.val.length g.vc] 40)) := by rw [hw1]; exact heap_at _ _ rfl
  have HZ1 : Hid (w1.heap.size = w.heap.size + 1) := by rw [hw1]; simp [Hid]
  have H := Lib.hid h
  have HM := Lib.hid hm
  have HHI := Lib.hid hhi
  have HT := Lib.hid hT
  have HDT := Lib.hid hDT
  have HFEW := Lib.hid hfew
  have HAP := Lib.hid hap
  have HKL := Lib.hid hk
  have HVL := Lib.hid hv
  have HN := Lib.hid (none_no (ext_heap HX1.out h.list))
  have HMAY := Lib.hid (may_any g.kA g.vA x.key.length g.kc x.val.length g.vc x.seq x.kind w1)
  have HME : Hid (mayN x.key.length x.seq x.kind x.val.length = x.may) := rfl
  have c0 := cell_of (v := .slice g.kA x.key.length g.kc) HB1.out (k := 0) rfl
  have c1 := cell_of (v := .int .i64 x.seq) HB1.out (k := 1) rfl
  have c2 := cell_of (v := .int .i64 x.kind) HB1.out (k := 2) rfl
  have c3 := cell_of (v := .slice g.vA x.val.length g.vc) HB1.out (k := 3) rfl
  clear h hm hhi hT hDT hfew hk hv hap
  unfold Ent.at_
  obtain ⟨z, hz⟩ : ∃ z, z = x.may := ⟨_, rfl⟩
  have HZ := Lib.hid hz
  rw [HME.out, ← hz] at HMAY
  clear hz HME
  subst hw1
  go_enter Tryd.func30, Tryd.ntmps30
  go_wp2_with fail
  refine Calls.mono HN.out ?_
  rintro e w' ⟨rfl, rfl⟩
  go_wp2_with fail
  refine Calls.mono HMAY.out ?_
  rintro e w2 ⟨rfl, hx2⟩
  have HX2 := Lib.hid (Ext.trans HX1.out hx2)
  have HB2 := Lib.hid (ext_heap hx2 HB1.out)
  clear hx2 c0 c1 c2 c3
  cases z with
  | false =>
    go_wp2_with fail
    go_ret
    exact SPutAns.same H.out HX2.out (putE_no HZ.out.symm)
  | true =>
    have c0 := cell_of (v := .slice g.kA x.key.length g.kc) HB2.out (k := 0) rfl
    have c1 := cell_of (v := .int .i64 x.seq) HB2.out (k := 1) rfl
    go_wp2_with fail
    refine Calls.mono (aheadOf_any _ _ _ _ _) ?_
    rintro e w3 ⟨rfl, hw3⟩
    have hk2 := HM.out.k.below HX2.out HHI.out
    have HX3 : Hid (Ext w2 w3) := by rw [hw3]; exact ext_alloc _ _
    have hwx := Ext.trans HX2.out HX3.out
    have hhi3 := Nat.le_trans HHI.out hwx.size
    have HAF := Lib.hid (ahead1_fn (HM.out.k.below hwx HHI.out) hhi3 HM.out.bk HM.out.s1 HM.out.s2 (p := w2.heap.size) (by rw [hw3]; exact heap_at _ _ rfl))
    have HBF := Lib.hid (before_any (H.out.ext hwx) HAF.out (H.out.asc.ahead _ _))
    clear hw3 hk2 hwx hhi3 c0 c1
    go_wp2_with fail
    refine Calls.mono HBF.out ?_
    rintro e w4 ⟨hx4, f, hf, rfl⟩
    have HX4 := Lib.hid (Ext.trans (Ext.trans HX2.out HX3.out) hx4)
    have HB4 := Lib.hid (ext_heap (Ext.trans HX3.out hx4) HB2.out)
    have HF := Lib.hid hf
    clear hx4 hf
    obtain ⟨HH, hHH⟩ : ∃ HH, HH = headT hb :: T := ⟨_, rfl⟩
    obtain ⟨p, hp⟩ : ∃ p, p = 1 + cutOf (aheadE x.key x.seq) (T.map Tw.e) := ⟨_, rfl⟩
    rw [← hHH] at HF ⊢
    rw [← hp] at HF
    have HHH := Lib.hid hHH
    have HP := Lib.hid hp
    clear hHH hp
    go_upto_region 6 with (fail)
    obtain ⟨w5, hw5⟩ : ∃ w5, w5 = w4.alloc (.cells #[.pointer (some ⟨bAt HH (f 0), 0, none⟩), .pointer (some ⟨bAt HH (f 1), 0, none⟩), .pointer (some ⟨bAt HH (f 2), 0, none⟩), .pointer (some ⟨bAt HH (f 3), 0, none⟩), .pointer (some ⟨bAt HH (f 4), 0, none⟩), .pointer (some ⟨bAt HH (f 5), 0, none⟩), .pointer (some ⟨bAt HH (f 6), 0, none⟩), .pointer (some ⟨bAt HH (f 7), 0, none⟩)] 76) := ⟨_, rfl⟩
    rw [← hw5]
    have HX45 : Hid (Ext w4 w5) := by rw [hw5]; exact ext_alloc _ _
    have HX5 : Hid (Ext w w5) := Ext.trans HX4.out HX45.out
    have HB5 := Lib.hid (ext_heap HX45.out HB4.out)
    have HPB : Hid (w5.heap[w4.heap.size]? = some (.cells #[.pointer (some ⟨bAt HH (f 0), 0, none⟩), .pointer (some ⟨bAt HH (f 1), 0, none⟩), .pointer (some ⟨bAt HH (f 2), 0, none⟩), .pointer (some ⟨bAt HH (f 3), 0, none⟩), .pointer (some ⟨bAt HH (f 4), 0, none⟩), .pointer (some ⟨bAt HH (f 5), 0, none⟩), .pointer (some ⟨bAt HH (f 6), 0, none⟩), .pointer (some ⟨bAt HH (f 7), 0, none⟩)] 76 (0, 0))) := by rw [hw5]; exact heap_at _ _ rfl
    clear hw5 HB4
    have hlen : HH.length = T.length + 1 := by rw [HHH.out]; rfl
    have hcle : cutOf (aheadE x.key x.seq) (T.map Tw.e) ≤ T.length := by have := cutOf_le (aheadE x.key x.seq) (T.map Tw.e); rwa [List.length_map] at this
    have HPL : Hid (1 ≤ p ∧ p ≤ HH.length) := by have := HP.out; unfold Hid; omega
    have HALL : Hid (∀ t ∈ HH, 1 ≤ t.h ∧ t.h ≤ 8) := fun t ht => by
      rw [HHH.out] at ht
      rcases List.mem_cons.1 ht with rfl | ht
      · show 1 ≤ 8 ∧ 8 ≤ 8; omega
      · rw [H.out.hts t ht]; exact hgt_le _ _
    have HCH : Hid (Chain w5 D T.length HH) := by rw [HHH.out]; exact H.out.chain.ext HX5.out
    have HF0 : Hid (f 0 + 1 = p) := last_zero (fun t ht => (HALL.out t ht).1) HPL.out.2 (HF.out 0 (by decide))
    have HGT : Hid (HH[p]? = T[cutOf (aheadE x.key x.seq) (T.map Tw.e)]?) := by
      unfold Hid
      rw [HP.out, HHH.out, Nat.add_comm, List.getElem?_cons_succ]
    have HNX : Hid (nxt 0 (HH.drop p) = HH[p]?.map Tw.b) := by
      unfold Hid
      rw [nxt_first (fun t ht => (HALL.out t (List.mem_of_mem_drop ht)).1), List.head?_drop]
    obtain ⟨t0, ht0⟩ : ∃ t0, HH[f 0]? = some t0 := ⟨_, List.getElem?_eq_getElem (by have := HF0.out; have := HPL.out; omega)⟩
    obtain ⟨_, g0, born0, hb0, _⟩ := HCH.out (f 0) t0 ht0
    have q0 := cell_of (v := .pointer (some ⟨bAt HH (f 0), 0, none⟩)) HPB.out (k := 0) rfl
    have q1 : w5.cell? ⟨bAt HH (f 0), 5, none⟩ = some (optp (HH[p]?.map Tw.b)) := by
      rw [bAt_of ht0]
      refine cell_of hb0 ((tcells_next _ _ _ _ (n := 0) (by decide)).trans ?_)
      unfold nextOf
      rw [if_pos (by have := (HALL.out t0 (List.mem_of_getElem? ht0)).1; omega), HF0.out, HNX.out]
    clear hlen hcle hb0 ht0
    obtain ⟨v6, hv6⟩ : ∃ v6, v6 = optp (HH[p]?.map Tw.b) := ⟨_, rfl⟩
    rw [← hv6] at q1
    have HV6 := Lib.hid hv6
    clear hv6
    go_upto_region 7 with (fail)
    clear q0 q1
    rename_i K hK
    have HK := Lib.hid hK
    clear hK
    have htail : ∀ (v1 v2 v6 v7 v8 v9 v10 v11 v12 v13 v14 v15 v16 v17 v18 v19 v20 v21 v22 v23 v24 v25 v26 v27 v28 v29 v30 v31 v32 v33 v34 v35 v36 : Value) (wa : World), Ext w5 wa → (∀ e, (T.map Tw.e)[cutOf (aheadE x.key x.seq) (T.map Tw.e)]? = some e → cmpE e x ≠ 0) →
        K { tmps := #[.pointer (some ⟨lb, 0, none⟩), v1, v2, .pointer (some ⟨w.heap.size, 0, none⟩), .int .i64 0, .pointer (some ⟨w4.heap.size, 0, none⟩), v6, v7, v8, v9, v10, v11, v12, v13, v14, v15, v16, v17, v18, v19, v20, v21, v22, v23, v24, v25, v26, v27, v28, v29, v30, v31, v32, v33, v34, v35, v36, .bool false, undef, undef, undef, undef, undef, undef, undef, undef, undef, undef, undef, undef, undef, undef, undef, undef, undef, undef, undef, undef, undef, undef, undef, undef, undef, undef, undef, undef, undef, undef, undef, undef, undef, undef, undef, undef, undef, undef, undef, undef, undef, undef, undef, undef, undef, undef, undef, undef, undef, undef, undef, undef, undef, undef], defers := [] } wa := by
      intro v1 v2 v6 v7 v8 v9 v10 v11 v12 v13 v14 v15 v16 v17 v18 v19 v20 v21 v22 v23 v24 v25 v26 v27 v28 v29 v30 v31 v32 v33 v34 v35 v36 wa hxr hne
      have HXR := Lib.hid hxr
      have HNE := Lib.hid hne
      have HBR := Lib.hid (ext_heap hxr HB5.out)
      have hl5 := ext_heap (Ext.trans HX5.out hxr) H.out.list
      have c0 := cell_of (v := .slice g.kA x.key.length g.kc) HBR.out (k := 0) rfl
      have c1 := cell_of (v := .int .i64 x.seq) HBR.out (k := 1) rfl
      have c2 := cell_of (v := .int .i64 x.kind) HBR.out (k := 2) rfl
      have c3 := cell_of (v := .slice g.vA x.val.length g.vc) HBR.out (k := 3) rfl
      have l1 := cell_of (v := .int .i64 (T.length : Int)) hl5 (k := 1) rfl
      clear hxr hne hl5
      refine HK.out _ _ ?_
      dsimp only
      go_upto_region 9 with (fail)
      refine flow (by kernel_rfl) [Is (.agg #[.slice g.kA x.key.length g.kc, .int .i64 x.seq, .int .i64 x.kind, .slice g.vA x.val.length g.vc]), CpF wa.heap.size x, Is (.pointer (some ⟨lb, 0, none⟩)), Is (.pointer (some ⟨lb, 0, none⟩)), Is (.pointer (some ⟨lb, 1, none⟩)), Is (.int .i64 (T.length : Int)), TvF wa.heap.size x (T.length : Int), TbF wa.heap.size x (T.length : Int), TbF wa.heap.size x (T.length : Int)] (by kernel_rfl) (by kernel_rfl) ?mono (fun f1 => ?obl) ?fin
      case mono =>
        simp only [List.forall_mem_cons, List.not_mem_nil, false_imp_iff, implies_true, and_true]
        exact ⟨.is _, .cpf _ _, .is _, .is _, .is _, .is _, .tvf _ _ _, .tbf _ _ _, .tbf _ _ _⟩
      case fin =>
        intro g1 u hu hg
        simp only [puts, Act.put, List.setIfInBounds_toArray, List.set_cons_zero, List.set_cons_succ]
        obtain ⟨g9, tb, e8, hB, hblk, hok, hov⟩ := (show TbF wa.heap.size x (T.length : Int) (g1 8) u from hg 8 (by decide))
        rw [e8]
        have HU := Lib.hid (Ext.trans (Ext.drew wa) hu)
        have HWB := Lib.hid hB
        have HBLK := Lib.hid hblk
        have HOK := Lib.hid hok
        have HOV := Lib.hid hov
        have c0 := ext_cell HU.out c0
        have c1 := ext_cell HU.out c1
        have hux := Ext.trans (Ext.trans HX5.out HXR.out) HU.out
        have HH9 := Lib.hid (height_any (HM.out.k.below hux HHI.out) HM.out.bk HM.out.s1 HM.out.s2 (HT.out.ext hux) HKL.out)
        have HUX := Lib.hid hux
        clear hB hblk hok hov hu hg e8 c2 c3 l1 hux
        go_wp2_with fail
        refine Calls.mono HH9.out ?_
        rintro e w' ⟨rfl, hw'⟩
        have hw' := hw'.symm
        subst hw'
        obtain ⟨n, hn⟩ : ∃ n, n = hgt x.key x.seq := ⟨_, rfl⟩
        have HNN := Lib.hid hn
        have HN8 : Hid (1 ≤ n ∧ n ≤ 8) := by rw [hn]; exact hgt_le _ _
        rw [← hn]
        clear hn
        obtain ⟨X, hX⟩ : ∃ X, X = HH.take p := ⟨_, rfl⟩
        obtain ⟨R, hR⟩ : ∃ R, R = HH.drop p := ⟨_, rfl⟩
        have HXR2 : Hid (X ++ R = HH) := by rw [hX, hR]; exact List.take_append_drop _ _
        have HXX := Lib.hid hX
        have HRR := Lib.hid hR
        have hXl : X.length = p := by rw [hX, List.length_take]; have := HPL.out; omega
        have HXL := Lib.hid hXl
        have hwa : w.heap.size ≤ tb := Nat.le_trans (Ext.trans HX5.out HXR.out).size HWB.out
        have HWT := Lib.hid hwa
        have hwt5 : w5.heap.size ≤ tb := Nat.le_trans HXR.out.size HWB.out
        have HWT5 := Lib.hid hwt5
        have HND : Hid (((X ++ ⟨x, tb, n⟩ :: R).map Tw.b).Nodup) := by
          refine nodup_new (by rw [HXR2.out, HHH.out]; exact H.out.nodup) fun v hv => ?_
          rw [HXR2.out] at hv
          obtain ⟨k, hk⟩ := List.mem_iff_getElem?.1 hv
          have := (HCH.out k v hk).lt
          show v.b ≠ tb
          omega
        have HC0 : Hid (Chain u (fun k => D k ∨ w.heap.size ≤ k) (T.length + 1 : Nat) (X ++ lvl ⟨x, tb, n⟩ 0 :: R)) := by
          refine chain_zero (by rw [HXR2.out]; exact HCH.out) (Ext.trans HXR.out HU.out) (fun _ _ hd => .inl hd) (by omega) ⟨.inr hwa, g9, T.length, ?_, by omega, .inr (by omega), HOK.out.base (Nat.zero_le _), HOV.out.base (Nat.zero_le _), fun k hk => .inr ?_, fun k hk => .inr ?_⟩
          · refine HBLK.out.trans ?_
            rw [tcells_tc]
            congr 2
            all_goals exact tc_congr fun n _ => by unfold nextOf; rw [if_neg (Nat.not_lt_zero _)]
          · have := (row_lt HOK.out k hk).1; have := (Ext.trans HX5.out HXR.out).size; omega
          · have := (row_lt HOV.out k hk).1; have := (Ext.trans HX5.out HXR.out).size; omega
        have HTOB : Hid (∀ k, k < w.heap.size → Tob u k → Tob w k) := fun k hk ⟨c, hc⟩ => ⟨c, by rw [HUX.out.block k hk] at hc; exact hc⟩
        clear hX hR hXl hwa hwt5 c0 c1
        go_wp2_with fail
        go_loopw [51] (fun i wq => ∃ m : Nat, m ≤ n ∧ i = .int .i64 (m : Int) ∧ Hid (Chain wq (fun k => D k ∨ w.heap.size ≤ k) (T.length + 1 : Nat) (X ++ lvl ⟨x, tb, n⟩ m :: R)) ∧ Hid (Chg (Dt (fun k => D k ∨ w.heap.size ≤ k) u) u wq)) (fun i _ => n - (intOf i).toNat)
        case atStart => exact ⟨0, Nat.zero_le _, rfl, HC0, Chg.refl _ _⟩
        case round =>
          obtain ⟨m, hm, rfl, HCM, HCG⟩ := hrel
          by_cases hlt : m < n
          · have d : decide ((m : Int) < (n : Int)) = true := by simp; omega
            have dn : decide (m < n) = true := by simp; omega
            have n1 : (0 : Int) ≤ (m : Int) := by omega
            have n2 : (m : Int) < 8 := by have := HN8.out; omega
            have n3 : m < 8 := by have := HN8.out; omega
            have HLT := Lib.hid hlt
            have HN3 := Lib.hid n3
            obtain ⟨hfp, ⟨uu, huu, hmh⟩, hlast⟩ := HF.out m n3
            have huX : X[f m]? = some uu := by rw [HXX.out, List.getElem?_take, if_pos hfp]; exact huu
            have hlX : ∀ (j : Nat) (v : Tw), f m < j → X[j]? = some v → v.h ≤ m := fun j v hj hv => by
              have hjl := (List.getElem?_eq_some_iff.1 hv).1
              rw [HXX.out, List.getElem?_take, if_pos (by rw [← HXL.out]; exact hjl)] at hv
              exact hlast j v hj (by rw [← HXL.out]; exact hjl) hv
            have hbe : bAt HH (f m) = uu.b := bAt_of huu
            have hpb : wr.heap[w4.heap.size]? = some (.cells #[.pointer (some ⟨bAt HH (f 0), 0, none⟩), .pointer (some ⟨bAt HH (f 1), 0, none⟩), .pointer (some ⟨bAt HH (f 2), 0, none⟩), .pointer (some ⟨bAt HH (f 3), 0, none⟩), .pointer (some ⟨bAt HH (f 4), 0, none⟩), .pointer (some ⟨bAt HH (f 5), 0, none⟩), .pointer (some ⟨bAt HH (f 6), 0, none⟩), .pointer (some ⟨bAt HH (f 7), 0, none⟩)] 76 (0, 0)) := by
              have h1 := ext_heap (Ext.trans HXR.out HU.out) HPB.out
              refine (HCG.out.block _ (Array.getElem?_eq_some_iff.1 h1).1 (fun ⟨_, c, hc⟩ => ?_)).trans h1
              rw [h1] at hc; injection hc with hc; injection hc with _ h2 _; exact absurd h2 (by decide)
            have qp : wr.cell? ⟨w4.heap.size, m, none⟩ = some (.pointer (some ⟨uu.b, 0, none⟩)) := by
              rw [← hbe]
              exact cell_of hpb (arr8 (fun k => .pointer (some ⟨bAt HH (f k), 0, none⟩)) n3)
            have HQP := Lib.hid qp
            obtain ⟨po, hpo⟩ := optp_is (nxt m R)
            obtain ⟨_, gu, bu, hbu, _⟩ := HCM.out (f m) uu (by rw [List.getElem?_append_left (List.getElem?_eq_some_iff.1 huX).1]; exact huX)
            have qu : wr.cell? ⟨uu.b, 5 + m, none⟩ = some (.pointer po) := by
              refine cell_of hbu ((tcells_next _ _ _ _ n3).trans ?_)
              unfold nextOf
              rw [if_pos hmh, List.drop_append_of_le_length (Nat.succ_le_of_lt (List.getElem?_eq_some_iff.1 huX).1), nxt_append, ← hpo]
              · show some (optp (if m < m then some tb else nxt m R)) = _
                rw [if_neg (Nat.lt_irrefl _)]
              · intro v hv
                obtain ⟨j, hj⟩ := List.mem_iff_getElem?.1 hv
                rw [List.getElem?_drop] at hj
                exact hlX (f m + 1 + j) v (by omega) hj
            obtain ⟨_, gt9, bt9, hbt, _⟩ := HCM.out X.length (lvl ⟨x, tb, n⟩ m) (by rw [List.getElem?_append_right (Nat.le_refl _)]; simp)
            have hbt : wr.heap[tb]? = _ := hbt
            have HBT := Lib.hid hbt
            have HBU := Lib.hid hbu
            have HPBR := Lib.hid hpb
            have HPO := Lib.hid hpo
            have HU9 := Lib.hid (And.intro huX (And.intro hmh hlX))
            have HNE : Hid (uu.b < w5.heap.size ∧ w4.heap.size < w5.heap.size) := ⟨(HCH.out _ _ huu).lt, (Array.getElem?_eq_some_iff.1 HPB.out).1⟩
            clear hlt hm hfp huu hmh hlast huX hlX hbe hpb hpo hbu hbt
            go_upto_region 13 with (fail)
            refine flow_tail (by kernel_rfl) [Is (.pointer (some ⟨tb, 0, none⟩)), Is (.int .i64 (m : Int)), Is (.int .i64 (m : Int)), Is (.pointer (some ⟨w4.heap.size, m, none⟩)), Is (.pointer (some ⟨uu.b, 0, none⟩)), Is (.int .i64 (m : Int)), Is (.pointer (some ⟨uu.b, 0, none⟩)), Is (.pointer (some ⟨uu.b, 5, none⟩)), Is (.pointer (some ⟨uu.b, 5 + m, none⟩)), Is (.pointer po), Is (.pointer (some ⟨tb, 0, none⟩)), Is (.pointer (some ⟨tb, 5, none⟩)), Is (.pointer (some ⟨tb, 5 + m, none⟩))] 13 (by kernel_rfl) (by kernel_rfl) (by kernel_rfl) (by kernel_rfl) ?mono2 (fun f1 => ?obl2) ?fin2
            case mono2 =>
              simp only [List.forall_mem_cons, List.not_mem_nil, false_imp_iff, implies_true, and_true]
              exact ⟨.is _, .is _, .is _, .is _, .is _, .is _, .is _, .is _, .is _, .is _, .is _, .is _, .is _⟩
            case fin2 =>
              intro g2 u2 hu hg
              simp only [List.take_succ_cons, List.take_zero, List.drop_succ_cons, List.drop_zero, puts, Act.put, List.setIfInBounds_toArray, List.set_cons_zero, List.set_cons_succ]
              have e9 : g2 9 = .pointer po := hg 9 (by decide)
              have e12 : g2 12 = .pointer (some ⟨tb, 5 + m, none⟩) := hg 12 (by decide)
              rw [e9, e12]
              have HU2 := Lib.hid (Ext.trans (Ext.drew wr) hu)
              have hbt := ext_heap HU2.out HBT.out
              have hbu := ext_heap HU2.out HBU.out
              have hpb := ext_heap HU2.out HPBR.out
              have qz := cell_of hbt (tcells_next _ _ _ _ HN3.out)
              have zz := frozen_four (j := 5 + m) hbt
              clear hu hg qp qu e9 e12
              obtain ⟨w7, hw7⟩ : ∃ w7, w7 = u2.setCell ⟨tb, 5 + m, none⟩ (.pointer po) := ⟨_, rfl⟩
              have hbu7 := (Below.heap_setCell u2 ⟨tb, 5 + m, none⟩ (.pointer po) uu.b (by have := HNE.out.1; have := HWT5.out; show uu.b ≠ tb; omega)).trans hbu
              rw [← hw7] at hbu7
              have hpb7 := (Below.heap_setCell u2 ⟨tb, 5 + m, none⟩ (.pointer po) w4.heap.size (by have := HNE.out.2; have := HWT5.out; show w4.heap.size ≠ tb; omega)).trans hpb
              rw [← hw7] at hpb7
              have qp7 : w7.cell? ⟨w4.heap.size, m, none⟩ = some (.pointer (some ⟨uu.b, 0, none⟩)) := by
                have e : w7.cell? ⟨w4.heap.size, m, none⟩ = wr.cell? ⟨w4.heap.size, m, none⟩ := World.cell?_of_block (hpb7.trans HPBR.out.symm)
                rw [e]; exact HQP.out
              have qu7 := cell_of hbu7 (tcells_next _ _ _ _ HN3.out)
              have zu7 := frozen_four (j := 5 + m) hbu7
              have HW7 := Lib.hid hw7
              clear hbt hbu hpb hbu7 hpb7
              go_upto_region 14 with (fail)
              rw [← hw7]
              clear hw7 qz zz
              go_wp2
              refine ⟨⟨m + 1, HLT.out, rfl, ?_, ?_⟩, ?_⟩
              · have hst := (chain_step (w := u2) HN3.out (HCM.out.ext HU2.out) HND.out HU9.out.1 HU9.out.2.1 HU9.out.2.2).1
                rw [HPO.out] at hst
                unfold Hid
                rw [HW7.out]
                exact hst
              · have hst := (chain_step (w := u2) HN3.out (HCM.out.ext HU2.out) HND.out HU9.out.1 HU9.out.2.1 HU9.out.2.2).2
                rw [HPO.out] at hst
                unfold Hid
                rw [HW7.out]
                refine (HCG.out.trans (Chg.of_ext HU2.out)).trans_new hst fun i hi hs => ?_
                refine ⟨hs.1, Classical.byContradiction fun hno => hno ?_⟩
                obtain ⟨c, hc⟩ := hs.2
                exact ⟨c, ((HCG.out.trans (Chg.of_ext HU2.out)).block i hi (fun h => hno h.2)).symm.trans hc⟩
              · have := HLT.out; simp [intOf]; omega
            case obl2 =>
              refine ⟨fun u hu hd => ?_, ?_⟩
              · go_simp
                exact ⟨Ext.refl _, rfl⟩
              refine ⟨fun u hu hd => ?_, ?_⟩
              · simp only [Act.put, List.setIfInBounds_toArray, List.set_cons_zero, List.set_cons_succ]
                go_simp
                exact ⟨Ext.refl _, rfl⟩
              refine ⟨fun u hu hd => ?_, ?_⟩
              · simp only [Act.put, List.setIfInBounds_toArray, List.set_cons_zero, List.set_cons_succ]
                go_simp
                exact ⟨Ext.refl _, rfl⟩
              refine ⟨fun u hu hd => ?_, ?_⟩
              · simp only [Act.put, List.setIfInBounds_toArray, List.set_cons_zero, List.set_cons_succ]
                have e2 : f1 2 = .int .i64 (m : Int) := hd 2 (by kernel_rfl)
                go_simp
                exact ⟨Ext.refl _, rfl⟩
              refine ⟨fun u hu hd => ?_, ?_⟩
              · simp only [Act.put, List.setIfInBounds_toArray, List.set_cons_zero, List.set_cons_succ]
                have e3 : f1 3 = .pointer (some ⟨w4.heap.size, m, none⟩) := hd 3 (by kernel_rfl)
                have hu2 := Ext.trans (Ext.drew wr) hu
                have q0 := ext_cell hu2 qp
                go_simp
                exact ⟨Ext.refl _, rfl⟩
              refine ⟨fun u hu hd => ?_, ?_⟩
              · simp only [Act.put, List.setIfInBounds_toArray, List.set_cons_zero, List.set_cons_succ]
                go_simp
                exact ⟨Ext.refl _, rfl⟩
              refine ⟨fun u hu hd => ?_, ?_⟩
              · simp only [Act.put, List.setIfInBounds_toArray, List.set_cons_zero, List.set_cons_succ]
                have e4 : f1 4 = .pointer (some ⟨uu.b, 0, none⟩) := hd 4 (by kernel_rfl)
                go_simp
                exact ⟨Ext.refl _, rfl⟩
              refine ⟨fun u hu hd => ?_, ?_⟩
              · simp only [Act.put, List.setIfInBounds_toArray, List.set_cons_zero, List.set_cons_succ]
                have e6 : f1 6 = .pointer (some ⟨uu.b, 0, none⟩) := hd 6 (by kernel_rfl)
                go_simp
                exact ⟨Ext.refl _, rfl⟩
              refine ⟨fun u hu hd => ?_, ?_⟩
              · simp only [Act.put, List.setIfInBounds_toArray, List.set_cons_zero, List.set_cons_succ]
                have e7 : f1 7 = .pointer (some ⟨uu.b, 5, none⟩) := hd 7 (by kernel_rfl)
                have e5 : f1 5 = .int .i64 (m : Int) := hd 5 (by kernel_rfl)
                go_simp
                exact ⟨Ext.refl _, rfl⟩
              refine ⟨fun u hu hd => ?_, ?_⟩
              · simp only [Act.put, List.setIfInBounds_toArray, List.set_cons_zero, List.set_cons_succ]
                have e8 : f1 8 = .pointer (some ⟨uu.b, 5 + m, none⟩) := hd 8 (by kernel_rfl)
                have hu2 := Ext.trans (Ext.drew wr) hu
                have q0 := ext_cell hu2 qu
                go_simp
                exact ⟨Ext.refl _, rfl⟩
              refine ⟨fun u hu hd => ?_, ?_⟩
              · simp only [Act.put, List.setIfInBounds_toArray, List.set_cons_zero, List.set_cons_succ]
                have e0 : f1 0 = .pointer (some ⟨tb, 0, none⟩) := hd 0 (by kernel_rfl)
                go_simp
                exact ⟨Ext.refl _, rfl⟩
              refine ⟨fun u hu hd => ?_, ?_⟩
              · simp only [Act.put, List.setIfInBounds_toArray, List.set_cons_zero, List.set_cons_succ]
                have e10 : f1 10 = .pointer (some ⟨tb, 0, none⟩) := hd 10 (by kernel_rfl)
                go_simp
                exact ⟨Ext.refl _, rfl⟩
              refine ⟨fun u hu hd => ?_, ?_⟩
              · simp only [Act.put, List.setIfInBounds_toArray, List.set_cons_zero, List.set_cons_succ]
                have e11 : f1 11 = .pointer (some ⟨tb, 5, none⟩) := hd 11 (by kernel_rfl)
                have e1 : f1 1 = .int .i64 (m : Int) := hd 1 (by kernel_rfl)
                go_simp
                exact ⟨Ext.refl _, rfl⟩
              trivial
          · have hmn : m = n := by omega
            have d : decide ((m : Int) < (n : Int)) = false := by simp; omega
            have dn : decide (m < n) = false := by simp; omega
            have HMN := Lib.hid hmn
            have hlist := ext_heap HUX.out H.out.list
            have hl9 := (HCG.out.block lb (Array.getElem?_eq_some_iff.1 hlist).1 (fun ⟨_, c, hc⟩ => by rw [hlist] at hc; injection hc with hc; injection hc with _ h2 _; exact absurd h2 (by decide))).trans hlist
            have hbox := ext_heap HU.out HBR.out
            have hb9 := (HCG.out.block w.heap.size (Array.getElem?_eq_some_iff.1 hbox).1 (fun ⟨_, c, hc⟩ => by rw [hbox] at hc; injection hc with hc; injection hc with _ h2 _; exact absurd h2 (by decide))).trans hbox
            have HL9 := Lib.hid hl9
            have HB9 := Lib.hid hb9
            have hlbw : lb < w.heap.size := (Array.getElem?_eq_some_iff.1 H.out.list).1
            have HLBW := Lib.hid hlbw
            have hfI : (T.length : Int) ≤ 1000000 := by have := HFEW.out; omega
            have l1 := cell_of (v := .int .i64 (T.length : Int)) hl9 (k := 1) rfl
            have z1 := frozen_four (j := 1) hl9
            clear hlt hm hmn hlist hl9 hbox hb9 hlbw
            go_upto_region 17 with (fail)
            obtain ⟨w9, hw9⟩ : ∃ w9, w9 = wr.setCell ⟨lb, 1, none⟩ (.int .i64 ((T.length : Int) + 1)) := ⟨_, rfl⟩
            rw [← hw9]
            have hl9 := heap_setCell_same wr lb 1 _ _ (.int .i64 ((T.length : Int) + 1)) HL9.out
            have hb9 := (Below.heap_setCell wr ⟨lb, 1, none⟩ (.int .i64 ((T.length : Int) + 1)) w.heap.size (by have := HLBW.out; show w.heap.size ≠ lb; omega)).trans HB9.out
            have hc9 := Chg.setCell (S := fun i => i = lb) wr ⟨lb, 1, none⟩ (.int .i64 ((T.length : Int) + 1)) rfl
            rw [← hw9] at hl9 hb9 hc9
            have HLN := Lib.hid hl9
            have HC9 : Hid (Chain w9 (fun k => D k ∨ w.heap.size ≤ k) (T.length + 1 : Nat) (X ++ ⟨x, tb, n⟩ :: R)) := by
              have h1 := HCM.out
              rw [HMN.out] at h1
              exact Chain.list h1 HL9.out hc9
            have HCW : Hid (Chg (Sks D w) w w9) := by
              have hcu : Chg (Sks D w) w u := Chg.of_ext HUX.out
              have hcr : Chg (Sks D w) w wr := hcu.trans_new HCG.out (fun i hi hs => ⟨hs.1.resolve_right (by omega), (HTOB.out i hi hs.2).skb⟩)
              exact hcr.trans_new hc9 (fun i _ e => by rw [e]; exact ⟨H.out.lowl, _, _, .inr H.out.list⟩)
            have HM9 := Lib.hid (HM.out.keepC HHI.out HCW.out (fun k hk => HAP.out k hk.1))
            have HHI9 := Lib.hid (Nat.le_trans HHI.out HCW.out.size)
            have HSZ : Hid ((if x.may then (x.form.length : Int) else 0) = (x.form.length : Int)) := by unfold Hid; rw [← HZ.out]; rfl
            have hbyN : bytesE (T.map Tw.e) ≤ 65700000000 := by
              have h1 := bytesE_le (L := T.map Tw.e) (fun e he => by obtain ⟨t, ht, rfl⟩ := List.mem_map.1 he; exact (H.out.ins t ht).may)
              rw [List.length_map] at h1
              have := HFEW.out
              omega
            have hfl : x.form.length ≤ 65700 := Ent.form_len HZ.out.symm
            have hwI : IntKind.i64.wrap ((bytesE (T.map Tw.e) : Int) + (x.form.length : Int)) = (bytesE (T.map Tw.e) : Int) + (x.form.length : Int) := IntWalk.i64_in _ (by omega)
            have HWI := Lib.hid hwI
            have l2 := cell_of (v := .int .i64 (bytesE (T.map Tw.e) : Int)) hl9 (k := 2) rfl
            have c0 := cell_of (v := .slice g.kA x.key.length g.kc) hb9 (k := 0) rfl
            have c1 := cell_of (v := .int .i64 x.seq) hb9 (k := 1) rfl
            have c2 := cell_of (v := .int .i64 x.kind) hb9 (k := 2) rfl
            have c3 := cell_of (v := .slice g.vA x.val.length g.vc) hb9 (k := 3) rfl
            clear hw9 hl9 hb9 hc9 hbyN hfl hwI l1 z1 d dn
            refine flow_tail (by kernel_rfl) [Is (.pointer (some ⟨lb, 0, none⟩)), Is (.pointer (some ⟨lb, 0, none⟩)), Is (.pointer (some ⟨lb, 2, none⟩)), Is (.int .i64 (bytesE (T.map Tw.e) : Int)), Is (.agg #[.slice g.kA x.key.length g.kc, .int .i64 x.seq, .int .i64 x.kind, .slice g.vA x.val.length g.vc]), Is (.int .i64 (x.form.length : Int)), Is (.int .i64 ((bytesE (T.map Tw.e) : Int) + (x.form.length : Int))), Is (.pointer (some ⟨lb, 0, none⟩)), Is (.pointer (some ⟨lb, 2, none⟩))] 9 (by kernel_rfl) (by kernel_rfl) (by kernel_rfl) (by kernel_rfl) ?mono3 (fun f1 => ?obl3) ?fin3
            case mono3 =>
              simp only [List.forall_mem_cons, List.not_mem_nil, false_imp_iff, implies_true, and_true]
              exact ⟨.is _, .is _, .is _, .is _, .is _, .is _, .is _, .is _, .is _⟩
            case fin3 =>
              intro g3 u3 hu hg
              simp only [List.take_succ_cons, List.take_zero, List.drop_succ_cons, List.drop_zero, puts, Act.put, List.setIfInBounds_toArray, List.set_cons_zero, List.set_cons_succ]
              have e6 : g3 6 = .int .i64 ((bytesE (T.map Tw.e) : Int) + (x.form.length : Int)) := hg 6 (by decide)
              have e8 : g3 8 = .pointer (some ⟨lb, 2, none⟩) := hg 8 (by decide)
              rw [e6, e8]
              have HU3 := Lib.hid (Ext.trans (Ext.drew w9) hu)
              have hl3 := ext_heap HU3.out HLN.out
              have HL3 := Lib.hid hl3
              have q2 := cell_of (v := .int .i64 (bytesE (T.map Tw.e) : Int)) hl3 (k := 2) rfl
              have z2 := frozen_four (j := 2) hl3
              clear hu hg e6 e8 l2 c0 c1 c2 c3 hl3
              go_wp2
              go_ret
              have hput := putE_new (L := T.map Tw.e) HZ.out.symm HNE.out
              have hmap : (T.take (cutOf (aheadE x.key x.seq) (T.map Tw.e)) ++ ⟨x, tb, n⟩ :: T.drop (cutOf (aheadE x.key x.seq) (T.map Tw.e))).map Tw.e = (T.map Tw.e).take (cutOf (aheadE x.key x.seq) (T.map Tw.e)) ++ x :: (T.map Tw.e).drop (cutOf (aheadE x.key x.seq) (T.map Tw.e)) := by
                rw [List.map_append, List.map_cons, List.map_take, List.map_drop]
              have hlen : (T.take (cutOf (aheadE x.key x.seq) (T.map Tw.e)) ++ ⟨x, tb, n⟩ :: T.drop (cutOf (aheadE x.key x.seq) (T.map Tw.e))).length = T.length + 1 := by
                have := cutOf_le (aheadE x.key x.seq) (T.map Tw.e)
                rw [List.length_map] at this
                rw [List.length_append, List.length_cons, List.length_take, List.length_drop]
                omega
              have heq : X ++ ⟨x, tb, n⟩ :: R = headT hb :: (T.take (cutOf (aheadE x.key x.seq) (T.map Tw.e)) ++ ⟨x, tb, n⟩ :: T.drop (cutOf (aheadE x.key x.seq) (T.map Tw.e))) := by
                rw [HXX.out, HRR.out, HHH.out, HP.out, Nat.add_comm 1, List.take_succ_cons, List.drop_succ_cons, List.cons_append]
              have hc3 := Chg.setCell (S := fun i => i = lb) u3 ⟨lb, 2, none⟩ (.int .i64 ((bytesE (T.map Tw.e) : Int) + (x.form.length : Int))) rfl
              have hch := Chain.list (HC9.out.ext HU3.out) HL3.out hc3
              rw [heq] at hch
              refine ⟨_, 0, by rw [hput, hmap], rfl, ⟨.inl H.out.lowl, ?_, by rw [hlen]; exact hch, by rw [← heq]; exact HND.out, fun v hv => ?_, fun v hv => ?_, ?_⟩, ?_⟩
              · rw [heap_setCell_same _ _ _ _ _ _ HL3.out, hmap, bytesE_split, hlen]
                rfl
              · rcases List.mem_append.1 hv with hv | hv
                · exact H.out.hts v (List.mem_of_mem_take hv)
                · rcases List.mem_cons.1 hv with rfl | hv
                  · exact HNN.out
                  · exact H.out.hts v (List.mem_of_mem_drop hv)
              · rcases List.mem_append.1 hv with hv | hv
                · exact H.out.ins v (List.mem_of_mem_take hv)
                · rcases List.mem_cons.1 hv with rfl | hv
                  · exact ⟨HM.out.bk, HM.out.bv, HZ.out.symm⟩
                  · exact H.out.ins v (List.mem_of_mem_drop hv)
              · have := H.out.asc.put x
                rw [hput] at this
                rw [hmap]; exact this
              · exact (HCW.out.trans (Chg.of_ext HU3.out)).trans_new hc3 (fun i _ e => by rw [e]; exact ⟨H.out.lowl, _, _, .inr H.out.list⟩)
            case obl3 =>
              refine ⟨fun u hu hd => ?_, ?_⟩
              · go_simp
                exact ⟨Ext.refl _, rfl⟩
              refine ⟨fun u hu hd => ?_, ?_⟩
              · simp only [Act.put, List.setIfInBounds_toArray, List.set_cons_zero, List.set_cons_succ]
                have e0 : f1 0 = .pointer (some ⟨lb, 0, none⟩) := hd 0 (by kernel_rfl)
                go_simp
                exact ⟨Ext.refl _, rfl⟩
              refine ⟨fun u hu hd => ?_, ?_⟩
              · simp only [Act.put, List.setIfInBounds_toArray, List.set_cons_zero, List.set_cons_succ]
                have e1 : f1 1 = .pointer (some ⟨lb, 0, none⟩) := hd 1 (by kernel_rfl)
                go_simp
                exact ⟨Ext.refl _, rfl⟩
              refine ⟨fun u hu hd => ?_, ?_⟩
              · simp only [Act.put, List.setIfInBounds_toArray, List.set_cons_zero, List.set_cons_succ]
                have e2 : f1 2 = .pointer (some ⟨lb, 2, none⟩) := hd 2 (by kernel_rfl)
                have hu2 := Ext.trans (Ext.drew w9) hu
                have q0 := ext_cell hu2 l2
                go_simp
                exact ⟨Ext.refl _, rfl⟩
              refine ⟨fun u hu hd => ?_, ?_⟩
              · simp only [Act.put, List.setIfInBounds_toArray, List.set_cons_zero, List.set_cons_succ]
                have hu2 := Ext.trans (Ext.drew w9) hu
                have q0 := ext_cell hu2 c0
                have q1 := ext_cell hu2 c1
                have q2 := ext_cell hu2 c2
                have q3 := ext_cell hu2 c3
                go_simp
                exact ⟨Ext.refl _, rfl⟩
              refine ⟨fun u hu hd => ?_, ?_⟩
              · simp only [Act.put, List.setIfInBounds_toArray, List.set_cons_zero, List.set_cons_succ]
                have e4 : f1 4 = .agg #[.slice g.kA x.key.length g.kc, .int .i64 x.seq, .int .i64 x.kind, .slice g.vA x.val.length g.vc] := hd 4 (by kernel_rfl)
                have hux := Ext.trans (Ext.drew w9) hu
                go_simp
                refine (size_any (HM9.out.below hux HHI9.out) (Nat.le_trans HHI9.out hux.size)).mono ?_
                rintro x9 w9b ⟨rfl, hx9⟩
                exact ⟨_, rfl, hx9, by rw [HSZ.out]; rfl⟩
              refine ⟨fun u hu hd => ?_, ?_⟩
              · simp only [Act.put, List.setIfInBounds_toArray, List.set_cons_zero, List.set_cons_succ]
                have e3 : f1 3 = .int .i64 (bytesE (T.map Tw.e) : Int) := hd 3 (by kernel_rfl)
                have e5 : f1 5 = .int .i64 (x.form.length : Int) := hd 5 (by kernel_rfl)
                have hwI := HWI.out
                go_simp
                exact ⟨Ext.refl _, rfl⟩
              refine ⟨fun u hu hd => ?_, ?_⟩
              · simp only [Act.put, List.setIfInBounds_toArray, List.set_cons_zero, List.set_cons_succ]
                have e0 : f1 0 = .pointer (some ⟨lb, 0, none⟩) := hd 0 (by kernel_rfl)
                go_simp
                exact ⟨Ext.refl _, rfl⟩
              refine ⟨fun u hu hd => ?_, ?_⟩
              · simp only [Act.put, List.setIfInBounds_toArray, List.set_cons_zero, List.set_cons_succ]
                have e7 : f1 7 = .pointer (some ⟨lb, 0, none⟩) := hd 7 (by kernel_rfl)
                go_simp
                exact ⟨Ext.refl _, rfl⟩
              trivial
      case obl =>
        refine ⟨fun u hu hd => ?_, ?_⟩
        · have hu2 := Ext.trans (Ext.drew wa) hu
          have q0 := ext_cell hu2 c0
          have q1 := ext_cell hu2 c1
          have q2 := ext_cell hu2 c2
          have q3 := ext_cell hu2 c3
          go_simp
          exact ⟨Ext.refl _, rfl⟩
        refine ⟨fun u hu hd => ?_, ?_⟩
        · simp only [Act.put, List.setIfInBounds_toArray, List.set_cons_zero, List.set_cons_succ]
          have e0 : f1 0 = .agg #[.slice g.kA x.key.length g.kc, .int .i64 x.seq, .int .i64 x.kind, .slice g.vA x.val.length g.vc] := hd 0 (by kernel_rfl)
          have hux := Ext.trans (Ext.trans HX5.out HXR.out) (Ext.trans (Ext.drew wa) hu)
          go_simp
          refine (copy_any (HM.out.below hux HHI.out) (Nat.le_trans HHI.out hux.size) HKL.out HVL.out).mono ?_
          rintro x9 w9 ⟨hx9, g9, rfl, ok, ov⟩
          exact ⟨_, rfl, hx9, g9, rfl, ok.base (Ext.trans (Ext.drew wa) hu).size, ov.base (Ext.trans (Ext.drew wa) hu).size⟩
        refine ⟨fun u hu hd => ?_, ?_⟩
        · simp only [Act.put, List.setIfInBounds_toArray, List.set_cons_zero, List.set_cons_succ]
          go_simp
          exact ⟨Ext.refl _, rfl⟩
        refine ⟨fun u hu hd => ?_, ?_⟩
        · simp only [Act.put, List.setIfInBounds_toArray, List.set_cons_zero, List.set_cons_succ]
          have e2 : f1 2 = .pointer (some ⟨lb, 0, none⟩) := hd 2 (by kernel_rfl)
          go_simp
          exact ⟨Ext.refl _, rfl⟩
        refine ⟨fun u hu hd => ?_, ?_⟩
        · simp only [Act.put, List.setIfInBounds_toArray, List.set_cons_zero, List.set_cons_succ]
          have e3 : f1 3 = .pointer (some ⟨lb, 0, none⟩) := hd 3 (by kernel_rfl)
          go_simp
          exact ⟨Ext.refl _, rfl⟩
        refine ⟨fun u hu hd => ?_, ?_⟩
        · simp only [Act.put, List.setIfInBounds_toArray, List.set_cons_zero, List.set_cons_succ]
          have e4 : f1 4 = .pointer (some ⟨lb, 1, none⟩) := hd 4 (by kernel_rfl)
          have hu2 := Ext.trans (Ext.drew wa) hu
          have q0 := ext_cell hu2 l1
          go_simp
          exact ⟨Ext.refl _, rfl⟩
        refine ⟨fun u hu hd => ?_, ?_⟩
        · simp only [Act.put, List.setIfInBounds_toArray, List.set_cons_zero, List.set_cons_succ]
          have e5 : f1 5 = .int .i64 (T.length : Int) := hd 5 (by kernel_rfl)
          obtain ⟨g9, e1, h1, h2⟩ := (show CpF wa.heap.size x (f1 1) u from hd 1 (by kernel_rfl))
          unfold Ent.at_ at e1
          have H1 := Lib.hid h1
          have H2 := Lib.hid h2
          clear h1 h2
          go_simp
          exact ⟨Ext.refl _, g9, rfl, H1.out, H2.out⟩
        refine ⟨fun u hu hd => ?_, ?_⟩
        · simp only [Act.put, List.setIfInBounds_toArray, List.set_cons_zero, List.set_cons_succ]
          obtain ⟨g9, e6, h1, h2⟩ := (show TvF wa.heap.size x (T.length : Int) (f1 6) u from hd 6 (by kernel_rfl))
          unfold tc at e6
          have H1 := Lib.hid h1
          have H2 := Lib.hid h2
          clear h1 h2
          go_simp
          exact ⟨ext_alloc _ _, g9, _, rfl, (Ext.trans (Ext.drew wa) hu).size, heap_at _ _ rfl, H1.out.below (ext_alloc _ _), H2.out.below (ext_alloc _ _)⟩
        refine ⟨fun u hu hd => ?_, ?_⟩
        · simp only [Act.put, List.setIfInBounds_toArray, List.set_cons_zero, List.set_cons_succ]
          obtain ⟨g9, b9, e7, hB, hb9, h1, h2⟩ := (show TbF wa.heap.size x (T.length : Int) (f1 7) u from hd 7 (by kernel_rfl))
          have H1 := Lib.hid h1
          have H2 := Lib.hid h2
          have H3 := Lib.hid hb9
          have H4 := Lib.hid hB
          clear h1 h2 hb9 hB
          go_simp
          exact ⟨Ext.refl _, g9, b9, rfl, H4.out, H3.out, H1.out, H2.out⟩
        trivial
    have HTAIL := Lib.hid htail
    clear htail
    cases hnx : HH[p]? with
    | none =>
      have hv6 := HV6.out
      rw [hnx] at hv6
      obtain rfl : v6 = .pointer none := hv6
      have HNX2 : Hid ((T.map Tw.e)[cutOf (aheadE x.key x.seq) (T.map Tw.e)]? = none) := by
        unfold Hid
        rw [List.getElem?_map, ← HGT.out, hnx]; rfl
      clear hnx
      refine flow (by kernel_rfl) [Is (.pointer none), Is (.bool false), Is (.bool false), Is undef, Is undef, Is undef, Is undef, Is undef, Is undef, Is undef, Is (.bool false)] (by kernel_rfl) (by kernel_rfl) ?mono4 (fun f1 => ?obl4) ?fin4
      case mono4 =>
        simp only [List.forall_mem_cons, List.not_mem_nil, false_imp_iff, implies_true, and_true]
        exact ⟨.is _, .is _, .is _, .is _, .is _, .is _, .is _, .is _, .is _, .is _, .is _⟩
      case fin4 =>
        intro g4 u4 hu hg
        simp only [puts, Act.put, List.setIfInBounds_toArray, List.set_cons_zero, List.set_cons_succ]
        have e10 : g4 10 = .bool false := hg 10 (by decide)
        rw [e10]
        exact HTAIL.out _ _ _ _ _ _ _ _ _ _ _ _ _ _ _ _ _ _ _ _ _ _ _ _ _ _ _ _ _ _ _ _ _ u4 (Ext.trans (Ext.drew w5) hu) (fun e he => by rw [HNX2.out] at he; cases he)
      case obl4 =>
        refine ⟨fun u hu hd => ?_, ?_⟩
        · go_simp
          exact ⟨Ext.refl _, rfl⟩
        refine ⟨fun u hu hd => ?_, ?_⟩
        · simp only [Act.put, List.setIfInBounds_toArray, List.set_cons_zero, List.set_cons_succ]
          have e0 : f1 0 = .pointer none := hd 0 (by kernel_rfl)
          go_simp
          exact ⟨Ext.refl _, rfl⟩
        refine ⟨fun u hu hd => ?_, ?_⟩
        · simp only [Act.put, List.setIfInBounds_toArray, List.set_cons_zero, List.set_cons_succ]
          have e1 : f1 1 = .bool false := hd 1 (by kernel_rfl)
          go_simp
          exact ⟨Ext.refl _, rfl⟩
        refine ⟨fun u hu hd => ?_, ?_⟩
        · simp only [Act.put, List.setIfInBounds_toArray, List.set_cons_zero, List.set_cons_succ]
          have e2 : f1 2 = .bool false := hd 2 (by kernel_rfl)
          go_simp
          rfl
        refine ⟨fun u hu hd => ?_, ?_⟩
        · simp only [Act.put, List.setIfInBounds_toArray, List.set_cons_zero, List.set_cons_succ]
          have e2 : f1 2 = .bool false := hd 2 (by kernel_rfl)
          go_simp
          rfl
        refine ⟨fun u hu hd => ?_, ?_⟩
        · simp only [Act.put, List.setIfInBounds_toArray, List.set_cons_zero, List.set_cons_succ]
          have e2 : f1 2 = .bool false := hd 2 (by kernel_rfl)
          go_simp
          rfl
        refine ⟨fun u hu hd => ?_, ?_⟩
        · simp only [Act.put, List.setIfInBounds_toArray, List.set_cons_zero, List.set_cons_succ]
          have e2 : f1 2 = .bool false := hd 2 (by kernel_rfl)
          go_simp
          rfl
        refine ⟨fun u hu hd => ?_, ?_⟩
        · simp only [Act.put, List.setIfInBounds_toArray, List.set_cons_zero, List.set_cons_succ]
          have e2 : f1 2 = .bool false := hd 2 (by kernel_rfl)
          go_simp
          rfl
        refine ⟨fun u hu hd => ?_, ?_⟩
        · simp only [Act.put, List.setIfInBounds_toArray, List.set_cons_zero, List.set_cons_succ]
          have e2 : f1 2 = .bool false := hd 2 (by kernel_rfl)
          go_simp
          rfl
        refine ⟨fun u hu hd => ?_, ?_⟩
        · simp only [Act.put, List.setIfInBounds_toArray, List.set_cons_zero, List.set_cons_succ]
          have e2 : f1 2 = .bool false := hd 2 (by kernel_rfl)
          go_simp
          rfl
        refine ⟨fun u hu hd => ?_, ?_⟩
        · simp only [Act.put, List.setIfInBounds_toArray, List.set_cons_zero, List.set_cons_succ]
          have e2 : f1 2 = .bool false := hd 2 (by kernel_rfl)
          go_simp
          exact ⟨Ext.refl _, rfl⟩
        trivial
    | some tn =>
      have hv6 := HV6.out
      rw [hnx] at hv6
      obtain rfl : v6 = .pointer (some ⟨tn.b, 0, none⟩) := hv6
      have HNX2 : Hid ((T.map Tw.e)[cutOf (aheadE x.key x.seq) (T.map Tw.e)]? = some tn.e) := by
        unfold Hid
        rw [List.getElem?_map, ← HGT.out, hnx]; rfl
      have hins : InE tn.e := by
        have h1 := HGT.out
        rw [hnx] at h1
        exact H.out.ins tn (List.mem_of_getElem? h1.symm)
      obtain ⟨gn, bn, hbn, _, _, hem⟩ := (HCH.out p tn hnx).em hins
      have HEM := Lib.hid hem
      have c0 := cell_of (v := .slice g.kA x.key.length g.kc) HB5.out (k := 0) rfl
      have c1 := cell_of (v := .int .i64 x.seq) HB5.out (k := 1) rfl
      have c2 := cell_of (v := .int .i64 x.kind) HB5.out (k := 2) rfl
      have c3 := cell_of (v := .slice g.vA x.val.length g.vc) HB5.out (k := 3) rfl
      have d0 := cell_of (v := .slice gn.kA tn.e.key.length gn.kc) hbn (k := 0) rfl
      have d1 := cell_of (v := .int .i64 tn.e.seq) hbn (k := 1) rfl
      have d2 := cell_of (v := .int .i64 tn.e.kind) hbn (k := 2) rfl
      have d3 := cell_of (v := .slice gn.vA tn.e.val.length gn.vc) hbn (k := 3) rfl
      obtain ⟨zc, hzc⟩ : ∃ zc, zc = (cmpE tn.e x == 0) := ⟨_, rfl⟩
      have HZC := Lib.hid hzc
      clear hnx hins hbn hem hzc
      refine flow (by kernel_rfl) [Is (.pointer (some ⟨tn.b, 0, none⟩)), Is (.bool true), Is (.bool true), Is (.pointer (some ⟨tn.b, 0, none⟩)), Is (.pointer (some ⟨tn.b, 0, none⟩)), Is (.pointer (some ⟨tn.b, 0, none⟩)), Is (.agg #[.slice gn.kA tn.e.key.length gn.kc, .int .i64 tn.e.seq, .int .i64 tn.e.kind, .slice gn.vA tn.e.val.length gn.vc]), Is (.agg #[.slice g.kA x.key.length g.kc, .int .i64 x.seq, .int .i64 x.kind, .slice g.vA x.val.length g.vc]), Is (.int .i64 (cmpE tn.e x)), Is (.bool zc), Is (.bool zc)] (by kernel_rfl) (by kernel_rfl) ?mono4 (fun f1 => ?obl4) ?fin4
      case mono4 =>
        simp only [List.forall_mem_cons, List.not_mem_nil, false_imp_iff, implies_true, and_true]
        exact ⟨.is _, .is _, .is _, .is _, .is _, .is _, .is _, .is _, .is _, .is _, .is _⟩
      case fin4 =>
        intro g4 u4 hu hg
        simp only [puts, Act.put, List.setIfInBounds_toArray, List.set_cons_zero, List.set_cons_succ]
        have e10 : g4 10 = .bool zc := hg 10 (by decide)
        rw [e10]
        have HU4 := Lib.hid (Ext.trans (Ext.drew w5) hu)
        clear hu hg e10 c0 c1 c2 c3 d0 d1 d2 d3
        cases zc with
        | true =>
          refine HK.out _ _ ?_
          go_wp2
          go_ret
          exact SPutAns.same H.out (Ext.trans HX5.out HU4.out) (putE_there HZ.out.symm HNX2.out (by have := HZC.out.symm; simpa using this))
        | false =>
          exact HTAIL.out _ _ _ _ _ _ _ _ _ _ _ _ _ _ _ _ _ _ _ _ _ _ _ _ _ _ _ _ _ _ _ _ _ u4 HU4.out (fun e he => by
            rw [HNX2.out] at he; injection he with he; subst he
            have := HZC.out.symm; simpa using this)
      case obl4 =>
        refine ⟨fun u hu hd => ?_, ?_⟩
        · go_simp
          exact ⟨Ext.refl _, rfl⟩
        refine ⟨fun u hu hd => ?_, ?_⟩
        · simp only [Act.put, List.setIfInBounds_toArray, List.set_cons_zero, List.set_cons_succ]
          have e0 : f1 0 = .pointer (some ⟨tn.b, 0, none⟩) := hd 0 (by kernel_rfl)
          go_simp
          exact ⟨Ext.refl _, rfl⟩
        refine ⟨fun u hu hd => ?_, ?_⟩
        · simp only [Act.put, List.setIfInBounds_toArray, List.set_cons_zero, List.set_cons_succ]
          have e1 : f1 1 = .bool true := hd 1 (by kernel_rfl)
          go_simp
          exact ⟨Ext.refl _, rfl⟩
        refine ⟨fun u hu hd => ?_, ?_⟩
        · simp only [Act.put, List.setIfInBounds_toArray, List.set_cons_zero, List.set_cons_succ]
          have e2 : f1 2 = .bool true := hd 2 (by kernel_rfl)
          go_simp
          exact ⟨Ext.refl _, rfl⟩
        refine ⟨fun u hu hd => ?_, ?_⟩
        · simp only [Act.put, List.setIfInBounds_toArray, List.set_cons_zero, List.set_cons_succ]
          have e2 : f1 2 = .bool true := hd 2 (by kernel_rfl)
          have e3 : f1 3 = .pointer (some ⟨tn.b, 0, none⟩) := hd 3 (by kernel_rfl)
          go_simp
          exact ⟨Ext.refl _, rfl⟩
        refine ⟨fun u hu hd => ?_, ?_⟩
        · simp only [Act.put, List.setIfInBounds_toArray, List.set_cons_zero, List.set_cons_succ]
          have e2 : f1 2 = .bool true := hd 2 (by kernel_rfl)
          have e4 : f1 4 = .pointer (some ⟨tn.b, 0, none⟩) := hd 4 (by kernel_rfl)
          go_simp
          exact ⟨Ext.refl _, rfl⟩
        refine ⟨fun u hu hd => ?_, ?_⟩
        · simp only [Act.put, List.setIfInBounds_toArray, List.set_cons_zero, List.set_cons_succ]
          have e2 : f1 2 = .bool true := hd 2 (by kernel_rfl)
          have e5 : f1 5 = .pointer (some ⟨tn.b, 0, none⟩) := hd 5 (by kernel_rfl)
          have hu2 := Ext.trans (Ext.drew w5) hu
          have q0 := ext_cell hu2 d0
          have q1 := ext_cell hu2 d1
          have q2 := ext_cell hu2 d2
          have q3 := ext_cell hu2 d3
          go_simp
          exact ⟨Ext.refl _, rfl⟩
        refine ⟨fun u hu hd => ?_, ?_⟩
        · simp only [Act.put, List.setIfInBounds_toArray, List.set_cons_zero, List.set_cons_succ]
          have e2 : f1 2 = .bool true := hd 2 (by kernel_rfl)
          have hu2 := Ext.trans (Ext.drew w5) hu
          have q0 := ext_cell hu2 c0
          have q1 := ext_cell hu2 c1
          have q2 := ext_cell hu2 c2
          have q3 := ext_cell hu2 c3
          go_simp
          exact ⟨Ext.refl _, rfl⟩
        refine ⟨fun u hu hd => ?_, ?_⟩
        · simp only [Act.put, List.setIfInBounds_toArray, List.set_cons_zero, List.set_cons_succ]
          have e2 : f1 2 = .bool true := hd 2 (by kernel_rfl)
          have e6 : f1 6 = .agg #[.slice gn.kA tn.e.key.length gn.kc, .int .i64 tn.e.seq, .int .i64 tn.e.kind, .slice gn.vA tn.e.val.length gn.vc] := hd 6 (by kernel_rfl)
          have e7 : f1 7 = .agg #[.slice g.kA x.key.length g.kc, .int .i64 x.seq, .int .i64 x.kind, .slice g.vA x.val.length g.vc] := hd 7 (by kernel_rfl)
          have hux := Ext.trans (Ext.drew w5) hu
          have hxx := Ext.trans HX5.out hux
          go_simp
          refine (compare_any (HEM.out.below hux (Nat.le_refl _)) (HM.out.below hxx HHI.out) hux.size (Nat.le_trans HHI.out hxx.size)).mono ?_
          rintro x9 w9b ⟨rfl, hx9⟩
          exact ⟨_, rfl, hx9, rfl⟩
        refine ⟨fun u hu hd => ?_, ?_⟩
        · simp only [Act.put, List.setIfInBounds_toArray, List.set_cons_zero, List.set_cons_succ]
          have e2 : f1 2 = .bool true := hd 2 (by kernel_rfl)
          have e8 : f1 8 = .int .i64 (cmpE tn.e x) := hd 8 (by kernel_rfl)
          have hzc := HZC.out.symm
          go_simp
          exact ⟨Ext.refl _, rfl⟩
        refine ⟨fun u hu hd => ?_, ?_⟩
        · simp only [Act.put, List.setIfInBounds_toArray, List.set_cons_zero, List.set_cons_succ]
          have e2 : f1 2 = .bool true := hd 2 (by kernel_rfl)
          have e9 : f1 9 = .bool zc := hd 9 (by kernel_rfl)
          go_simp
          exact ⟨Ext.refl _, rfl⟩
        trivial
end Go.Proofs.YtpfaoiickmpmjaaDoor

/- Get, Len, Bytes. -/
namespace Go.Proofs.YtpfaoiickmpmjaaDoor
open Go.ChangeShapes Go.WideShapes Go.ChangeAt Go.RowKit Go.Shelf

theorem entry_ret2 {fn : Func} {tmps : Array Value} {w : World} {g : Nat} {p q : Tmp} {c : Array Value} {k : Value} {R : Ending → World → Prop} (hr : fn.results = #[.cell p 40, .tmp q]) (h2 : tmps.getD p undef = .pointer (some ⟨g, 0, none⟩)) (h3 : tmps.getD q undef = k)
    (hc : c.size = 4) (hg : w.heap[g]? = some (.cells c 40 (0, 0))) (h : R (.returned (.tuple #[.agg c, k])) w) : bodyPost Tryd.prog fn R .ret { tmps := tmps, defers := [] } w := by
  refine ⟨rfl, .tuple #[.agg c, k], ?_, h⟩
  have hi : (Tryd.prog.info? 40).map (·.size) = some 4 := by kernel_rfl
  have hl := run_loadVar_row (P := Tryd.prog) w g 40 40 c (0, 0) _ hg Tryd.underlying40 rfl (by rw [hc]; exact hi)
  have ha : (asAddr (.pointer (some ⟨g, 0, none⟩))).run Tryd.prog w = .ok ⟨g, 0, none⟩ w := rfl
  rw [results_cell_tmp hr, h2, h3, ha, Result.andThen_ok, hl, Result.andThen_ok]

theorem arr_index {m : Nat} (hm : m < 8) (q : Nat → Option Addr) (w : World) : (Instr.index 76 (.agg #[.pointer (q 0), .pointer (q 1), .pointer (q 2), .pointer (q 3), .pointer (q 4), .pointer (q 5), .pointer (q 6), .pointer (q 7)]) (.int .i64 (m : Int))).run Tryd.prog w = .ok (.pointer (q m)) w := by
  rcases m with _ | _ | _ | _ | _ | _ | _ | _ | m
  · kernel_rfl
  · kernel_rfl
  · kernel_rfl
  · kernel_rfl
  · kernel_rfl
  · kernel_rfl
  · kernel_rfl
  · kernel_rfl
  · omega
/-- What Get answers. -/
def GetAns (w : World) (o : Option Ent) (e : Ending) (w' : World) : Prop :=
  Ext w w' ∧ match o with
    | some x => ∃ g : Hd, e = .returned (.tuple #[x.at_ g, .int .i64 0]) ∧ Own w.heap.size x.key (.slice g.kA x.key.length g.kc) w' ∧ Own w.heap.size x.val (.slice g.vA x.val.length g.vc) w'
    | none => e = .returned (.tuple #[zeroE.at_ ⟨none, 0, none, 0⟩, .int .i64 6])

set_option maxRecDepth 100000 in
set_option maxHeartbeats 8000000 in
theorem sget_any {w : World} {D : Nat → Prop} {lb hb lo hi kc : Nat} {kA : Option Addr} {T : List Tw} {key : List Nat} {s : Int} (h : Sk w D lb hb T) (hk : Bs w lo hi (.slice kA key.length kc) key) (hhi : hi ≤ w.heap.size) (bk : ∀ x ∈ key, x < 256) (s1 : -9223372036854775808 ≤ s) (s2 : s ≤ 9223372036854775807) :
    Calls Tryd.prog 20 #[.pointer (some ⟨lb, 0, none⟩), .slice kA key.length kc, .int .i64 s] w (GetAns w (getE (T.map Tw.e) key s)) := by
  obtain ⟨o, ho⟩ : ∃ o, o = getE (T.map Tw.e) key s := ⟨_, rfl⟩
  rw [← ho]
  have HO0 := Lib.hid ho
  clear ho
  obtain ⟨w1, hw1⟩ : ∃ w1, w1 = w.alloc (.cells #[.slice none 0 0, .int .i64 0, .int .i64 0, .slice none 0 0] 40) := ⟨_, rfl⟩
  have HX1 : Hid (Ext w w1) := by rw [hw1]; exact ext_alloc _ _
  have HB1 : Hid (w1.heap[w.heap.size]? = some (.cells #[.slice none 0 0, .int .i64 0, .int .i64 0, .slice none 0 0] 40)) := by rw [hw1]; exact heap_at _ _ rfl
  have H := Lib.hid h
  have HK := Lib.hid hk
  have HHI := Lib.hid hhi
  have HBK := Lib.hid bk
  have HN := Lib.hid (none_no (ext_heap HX1.out h.list))
  have HS := Lib.hid (And.intro s1 s2)
  clear h hk hhi bk s1 s2
  subst hw1
  go_enter Tryd.func20, Tryd.ntmps20
  go_wp2_with fail
  refine Calls.mono HN.out ?_
  rintro e w' ⟨rfl, rfl⟩
  go_wp2_with fail
  refine Calls.mono (aheadOf_any _ _ _ _ _) ?_
  rintro e w3 ⟨rfl, hw3⟩
  have HX3 : Hid (Ext w w3) := Ext.trans HX1.out (by rw [hw3]; exact ext_alloc _ _)
  have HB3 : Hid (w3.heap[w.heap.size]? = some (.cells #[.slice none 0 0, .int .i64 0, .int .i64 0, .slice none 0 0] 40)) := by rw [hw3]; exact ext_heap (ext_alloc _ _) HB1.out
  have HAF := Lib.hid (ahead1_fn (HK.out.below HX3.out HHI.out) (Nat.le_trans HHI.out HX3.out.size) HBK.out HS.out.1 HS.out.2 (p := w.heap.size + 1) (by rw [hw3]; exact heap_at _ _ (by simp)))
  have HBF := Lib.hid (before_any (H.out.ext HX3.out) HAF.out (H.out.asc.ahead _ _))
  have hsz1 : (w.alloc (.cells #[.slice none 0 0, .int .i64 0, .int .i64 0, .slice none 0 0] 40)).heap.size = w.heap.size + 1 := by simp
  rw [hsz1]
  clear hw3 hsz1
  go_wp2_with fail
  refine Calls.mono HBF.out ?_
  rintro e w4 ⟨hx4, f, hf, rfl⟩
  have HX4 := Lib.hid (Ext.trans HX3.out hx4)
  have HB4 := Lib.hid (ext_heap hx4 HB3.out)
  have HF := Lib.hid hf
  clear hx4 hf
  obtain ⟨HH, hHH⟩ : ∃ HH, HH = headT hb :: T := ⟨_, rfl⟩
  obtain ⟨p, hp⟩ : ∃ p, p = 1 + cutOf (aheadE key s) (T.map Tw.e) := ⟨_, rfl⟩
  rw [← hHH] at HF ⊢
  rw [← hp] at HF
  have HHH := Lib.hid hHH
  have HP := Lib.hid hp
  clear hHH hp
  have hlen : HH.length = T.length + 1 := by rw [HHH.out]; rfl
  have hcle : cutOf (aheadE key s) (T.map Tw.e) ≤ T.length := by have := cutOf_le (aheadE key s) (T.map Tw.e); rwa [List.length_map] at this
  have HPL : Hid (1 ≤ p ∧ p ≤ HH.length) := by have := HP.out; unfold Hid; omega
  have HALL : Hid (∀ t ∈ HH, 1 ≤ t.h ∧ t.h ≤ 8) := fun t ht => by
    rw [HHH.out] at ht
    rcases List.mem_cons.1 ht with rfl | ht
    · show 1 ≤ 8 ∧ 8 ≤ 8; omega
    · rw [H.out.hts t ht]; exact hgt_le _ _
  have HCH : Hid (Chain w4 D T.length HH) := by rw [HHH.out]; exact H.out.chain.ext HX4.out
  have HF0 : Hid (f 0 + 1 = p) := last_zero (fun t ht => (HALL.out t ht).1) HPL.out.2 (HF.out 0 (by decide))
  have HGT : Hid (HH[p]? = T[cutOf (aheadE key s) (T.map Tw.e)]?) := by
    unfold Hid
    rw [HP.out, HHH.out, Nat.add_comm, List.getElem?_cons_succ]
  have HNX : Hid (nxt 0 (HH.drop p) = HH[p]?.map Tw.b) := by
    unfold Hid
    rw [nxt_first (fun t ht => (HALL.out t (List.mem_of_mem_drop ht)).1), List.head?_drop]
  obtain ⟨t0, ht0⟩ : ∃ t0, HH[f 0]? = some t0 := ⟨_, List.getElem?_eq_getElem (by have := HF0.out; have := HPL.out; omega)⟩
  obtain ⟨_, g0, born0, hb0, _⟩ := HCH.out (f 0) t0 ht0
  have q1 : w4.cell? ⟨bAt HH (f 0), 5, none⟩ = some (optp (HH[p]?.map Tw.b)) := by
    rw [bAt_of ht0]
    refine cell_of hb0 ((tcells_next _ _ _ _ (n := 0) (by decide)).trans ?_)
    unfold nextOf
    rw [if_pos (by have := (HALL.out t0 (List.mem_of_getElem? ht0)).1; omega), HF0.out, HNX.out]
  clear hlen hcle hb0 ht0
  have hix : ∀ W, (Instr.index 76 (.agg #[.pointer (some ⟨bAt HH (f 0), 0, none⟩), .pointer (some ⟨bAt HH (f 1), 0, none⟩), .pointer (some ⟨bAt HH (f 2), 0, none⟩), .pointer (some ⟨bAt HH (f 3), 0, none⟩), .pointer (some ⟨bAt HH (f 4), 0, none⟩), .pointer (some ⟨bAt HH (f 5), 0, none⟩), .pointer (some ⟨bAt HH (f 6), 0, none⟩), .pointer (some ⟨bAt HH (f 7), 0, none⟩)]) (.int .i64 0)).run Tryd.prog W = .ok (.pointer (some ⟨bAt HH (f 0), 0, none⟩)) W := fun W => arr_index (m := 0) (by decide) (fun k => some ⟨bAt HH (f k), 0, none⟩) W
  have hgE : getE (T.map Tw.e) key s = match HH[p]? with | some t => if cmpK t.e.key key = 0 then some t.e else none | none => none := by
    unfold getE
    rw [List.getElem?_map, HGT.out]
    cases T[cutOf (aheadE key s) (T.map Tw.e)]? <;> rfl
  have HO := Lib.hid (HO0.out.trans hgE)
  clear hgE
  cases hnx : HH[p]? with
  | none =>
    rw [hnx] at q1
    dsimp only [optp, Option.map_none] at q1
    obtain rfl : o = none := by have := HO.out; rw [hnx] at this; exact this
    clear hnx
    have r0 := cell_of (v := .slice none 0 0) HB4.out (k := 0) rfl
    have r1 := cell_of (v := .int .i64 0) HB4.out (k := 1) rfl
    have r2 := cell_of (v := .int .i64 0) HB4.out (k := 2) rfl
    have r3 := cell_of (v := .slice none 0 0) HB4.out (k := 3) rfl
    have z0 := frozen_four (j := 0) HB4.out
    have z1 := frozen_four (j := 1) HB4.out
    have z2 := frozen_four (j := 2) HB4.out
    have z3 := frozen_four (j := 3) HB4.out
    go_wp2_with fail
    refine entry_ret2 (p := 6) (q := 7) (by kernel_rfl) rfl rfl rfl (set_four HB4.out) ⟨?_, rfl⟩
    have e := Nat.le_refl w.heap.size
    exact Below.setCell (Below.setCell (Below.setCell (Below.setCell HX4.out e _) e _) e _) e _
  | some tn =>
    have hins : InE tn.e := by
      have h1 := HGT.out
      rw [hnx] at h1
      exact H.out.ins tn (List.mem_of_getElem? h1.symm)
    obtain ⟨gn, bn, hbn, _, _, hem⟩ := (HCH.out p tn hnx).em hins
    rw [hnx] at q1
    dsimp only [optp, Option.map_some] at q1
    have HINS := Lib.hid hins
    have HEM := Lib.hid hem
    have HBN := Lib.hid hbn
    have d0 := cell_of (v := .slice gn.kA tn.e.key.length gn.kc) hbn (k := 0) rfl
    have HKC := Lib.hid (keys_any hem.k (HK.out.below HX4.out HHI.out) hem.bk HBK.out)
    have ho : o = if cmpK tn.e.key key = 0 then some tn.e else none := by have := HO.out; rw [hnx] at this; exact this
    obtain ⟨c, hc⟩ : ∃ c, c = cmpK tn.e.key key := ⟨_, rfl⟩
    rw [← hc] at HKC ho
    have HO2 := Lib.hid ho
    clear ho HO
    clear hnx hins hem hbn hc
    go_wp2_with fail
    refine Calls.mono HKC.out ?_
    rintro e w5 ⟨rfl, hw5⟩
    have hw5 := hw5.symm
    subst hw5
    clear q1 d0 hix
    by_cases h0 : c = 0
    · have d : (c != 0) = false := by simp [h0]
      obtain rfl : o = some tn.e := by rw [HO2.out, if_pos h0]
      have d0 := cell_of (v := .slice gn.kA tn.e.key.length gn.kc) HBN.out (k := 0) rfl
      have d1 := cell_of (v := .int .i64 tn.e.seq) HBN.out (k := 1) rfl
      have d2 := cell_of (v := .int .i64 tn.e.kind) HBN.out (k := 2) rfl
      have d3 := cell_of (v := .slice gn.vA tn.e.val.length gn.vc) HBN.out (k := 3) rfl
      have HCP := Lib.hid (copy_any HEM.out (Nat.le_refl _) (by have := HINS.out.s; omega) (by have := HINS.out.s; omega))
      unfold Ent.at_ at HCP
      clear h0
      go_wp2_with fail
      refine Calls.mono HCP.out ?_
      rintro e w6 ⟨hx6, g6, rfl, ok, ov⟩
      have HX6 := Lib.hid (Ext.trans HX4.out hx6)
      have HB6 := Lib.hid (ext_heap hx6 HB4.out)
      have HOK := Lib.hid ok
      have HOV := Lib.hid ov
      have HZ4 := Lib.hid HX4.out.size
      unfold Ent.at_
      have r0 := cell_of (v := .slice none 0 0) HB6.out (k := 0) rfl
      have r1 := cell_of (v := .int .i64 0) HB6.out (k := 1) rfl
      have r2 := cell_of (v := .int .i64 0) HB6.out (k := 2) rfl
      have r3 := cell_of (v := .slice none 0 0) HB6.out (k := 3) rfl
      have z0 := frozen_four (j := 0) HB6.out
      have z1 := frozen_four (j := 1) HB6.out
      have z2 := frozen_four (j := 2) HB6.out
      have z3 := frozen_four (j := 3) HB6.out
      clear hx6 ok ov d0 d1 d2 d3
      go_wp2_with fail
      have hlt : w.heap.size < w4.heap.size := Nat.lt_of_lt_of_le (Array.getElem?_eq_some_iff.1 HB4.out).1 (Nat.le_refl _)
      refine entry_ret2 (p := 6) (q := 7) (by kernel_rfl) rfl rfl rfl (set_four HB6.out) ⟨?_, g6, rfl, ?_, ?_⟩
      · have e := Nat.le_refl w.heap.size
        exact Below.setCell (Below.setCell (Below.setCell (Below.setCell HX6.out e _) e _) e _) e _
      · exact ((((HOK.out.far hlt).far hlt).far hlt).far hlt).base (Nat.le_of_lt hlt)
      · exact ((((HOV.out.far hlt).far hlt).far hlt).far hlt).base (Nat.le_of_lt hlt)
    · have d : (c != 0) = true := by simp [h0]
      obtain rfl : o = none := by rw [HO2.out, if_neg h0]
      have r0 := cell_of (v := .slice none 0 0) HB4.out (k := 0) rfl
      have r1 := cell_of (v := .int .i64 0) HB4.out (k := 1) rfl
      have r2 := cell_of (v := .int .i64 0) HB4.out (k := 2) rfl
      have r3 := cell_of (v := .slice none 0 0) HB4.out (k := 3) rfl
      have z0 := frozen_four (j := 0) HB4.out
      have z1 := frozen_four (j := 1) HB4.out
      have z2 := frozen_four (j := 2) HB4.out
      have z3 := frozen_four (j := 3) HB4.out
      clear h0
      go_wp2_with fail
      refine entry_ret2 (p := 6) (q := 7) (by kernel_rfl) rfl rfl rfl (set_four HB4.out) ⟨?_, rfl⟩
      have e := Nat.le_refl w.heap.size
      exact Below.setCell (Below.setCell (Below.setCell (Below.setCell HX4.out e _) e _) e _) e _

theorem slen_any {w : World} {D : Nat → Prop} {lb hb : Nat} {T : List Tw} (h : Sk w D lb hb T) : Calls Tryd.prog 15 #[.pointer (some ⟨lb, 0, none⟩)] w fun e w' => e = .returned (.int .i64 (T.length : Int)) ∧ w = w' := by
  have HN := Lib.hid (none_no h.list)
  have c1 := cell_of (v := .int .i64 (T.length : Int)) h.list (k := 1) rfl
  clear h
  go_enter Tryd.func15, Tryd.ntmps15
  go_wp2_with fail
  refine Calls.mono HN.out ?_
  rintro e w' ⟨rfl, rfl⟩
  go_wp2_with fail
  go_ret
  exact ⟨rfl, rfl⟩
theorem sbytes_any {w : World} {D : Nat → Prop} {lb hb : Nat} {T : List Tw} (h : Sk w D lb hb T) : Calls Tryd.prog 16 #[.pointer (some ⟨lb, 0, none⟩)] w fun e w' => e = .returned (.int .i64 (bytesE (T.map Tw.e) : Int)) ∧ w = w' := by
  have HN := Lib.hid (none_no h.list)
  have c1 := cell_of (v := .int .i64 (bytesE (T.map Tw.e) : Int)) h.list (k := 2) rfl
  clear h
  go_enter Tryd.func16, Tryd.ntmps16
  go_wp2_with fail
  refine Calls.mono HN.out ?_
  rintro e w' ⟨rfl, rfl⟩
  go_wp2_with fail
  go_ret
  exact ⟨rfl, rfl⟩
end Go.Proofs.YtpfaoiickmpmjaaDoor

/- How far entries rise. -/
namespace Go.Proofs.YtpfaoiickmpmjaaDoor
open Go.ChangeShapes Go.WideShapes Go.ChangeAt Go.RowKit

end Go.Proofs.YtpfaoiickmpmjaaDoor

/- A region that draws its order, by facts, within a round of a loop over a function. -/
namespace Go.Proofs.YtpfaoiickmpmjaaDoor
open Go.RowKit

section
variable {P : Program} {ops : Array Oper} {Q : Exit → Act → World → Prop} {l m : Nat}

theorem op_in {o : Oper} {a : Act} {w : World} {K : Act → World → Prop} (hnd : ∀ c, o.op ≠ .defer c) (h : o.wp P a w K Q) : o.wpIn (Fence.wide.inRound l) m P a w K Q := by
  refine ⟨fun _ _ => trivial, ?_⟩
  rw [show (Fence.wide.inRound l).round = some l from rfl, Oper.semAt_some l a.eval o hnd]
  unfold Oper.wp at h
  generalize (execOp a.eval o).run P w = r at h ⊢
  cases r with
  | ok x w' =>
    cases x with
    | value v => exact h
    | skip => exact h
    | defer d => exact h
    | enter f args => exact ⟨(fun e => (by cases e)), CallsIn.inRound l (callsIn_wide.2 h)⟩
    | row row args =>
      refine ⟨(fun e => (by cases e)), fun c cs _ => ?_⟩
      obtain ⟨v, w2, hr, hs⟩ := h c cs
      exact ⟨v, w2, hr, stepsIn_wide.2 hs⟩
    | _ => exact h.elim
  | halt x w' => cases x <;> first | exact h | exact h.elim

theorem any_in (hnd : ∀ (i : Nat) (o : Oper), ops[i]? = some o → ∀ c, o.op ≠ .defer c) (hQ : ¬ LetsOut Q) : ∀ (n : Nat) (seen : Array Bool) (a : Act) (w : World), wpAny P .any ops Q n seen a w → wpAnyIn (Fence.wide.inRound l) m P .any ops Q n seen a w := by
  intro n
  induction n with
  | zero => intro seen a w h; exact h
  | succ n ih =>
    intro seen a w h
    refine ⟨h.1, fun i hi => ?_⟩
    have h2 := h.2 i hi
    unfold wpOp at h2
    unfold wpOpIn
    cases ho : ops[i]? with
    | none => simp only [ho] at h2 ⊢; exact ih _ _ _ h2
    | some o =>
      simp only [ho] at h2 ⊢
      split
      · rename_i hw
        rw [if_pos hw] at h2
        rcases h2 with h2 | ⟨_, h2⟩
        · exact Oper.wpIn_mono (fun a w h => ih _ a w h) (op_in (hnd i o ho) h2)
        · exact absurd h2 hQ
      · rename_i hw
        rw [if_neg hw] at h2
        exact ⟨fun _ _ => trivial, ih _ _ _ h2⟩

/-- No operation of these is a defer statement. -/
def noDefer (ops : Array Oper) : Bool := ops.all fun o => match o.op with | .defer _ => false | _ => true
theorem noDefer_at (h : noDefer ops = true) (i : Nat) (o : Oper) (ho : ops[i]? = some o) (c : Call) : o.op ≠ .defer c := by
  intro e
  obtain ⟨hi, he⟩ := Array.getElem?_eq_some_iff.1 ho
  have := (Array.all_eq_true.1 h) i hi
  rw [he, e] at this
  cases this

theorem flow_in {a0 : Act} {id : Nat} {w : World} (hm : P.follows .mixedOrders = true) (hnd : noDefer ops = true) (hQ : ∀ a w, ¬ Q .outgrown a w) (φ : List (Value → World → Prop)) (hok : flowOk ops a0.tmps.size = true) (hsel : Region.noSelect ops = true) (hmono : ∀ p ∈ φ, Mono p)
    (hobl : ∀ f, Obls P ops φ w.drew f 0 ops.toList a0)
    (hfin : ∀ (g : Nat → Value) u, Ext w.drew u → (∀ j, j < ops.size → fact φ j (g j) u) → Q .normal (puts g 0 ops.toList a0) u) : (Code.region id ops true).wpIn (Fence.wide.inRound l) m P Q a0 w := by
  refine wpIn_region_any hm (any_in (noDefer_at hnd) (fun ⟨a, w, h⟩ => hQ a w h) _ _ _ _ (flow_any hok hsel hmono hobl hfin _ _ _ _ ⟨Ext.refl _, by simp, rfl, rfl, fun _ _ => rfl, fun j oj hj hs => ?_, fun j oj hj hs => ?_⟩ ?_))
  · have hlt := (Array.getElem?_eq_some_iff.1 hj).1
    simp [Array.getD, hlt] at hs
  · have hlt := (Array.getElem?_eq_some_iff.1 hj).1
    simp [Array.getD, hlt] at hs
  · unfold left
    rw [List.countP_eq_length.2]
    · simp
    · intro i hi
      have hlt := List.mem_range.1 hi
      simp [Array.getD, hlt]
end
end Go.Proofs.YtpfaoiickmpmjaaDoor

/- Going over the pieces of a row of entries that have one key each. -/
namespace Go.Proofs.YtpfaoiickmpmjaaDoor
open Go.RowKit Go.Shelf
attribute [local go_sem] Oper.semAt_some

theorem Em.keep {w w' : World} {lo hi : Nat} {e : Ent} {g : Hd} (m : Em w lo hi e g) (hk : ∀ p : Addr, lo ≤ p.block → p.block < hi → w'.cell? p = w.cell? p) : Em w' lo hi e g := ⟨m.k.of fun _ h => h.keep hk, m.v.of fun _ h => h.keep hk, m.bk, m.bv, m.s1, m.s2, m.d1, m.d2⟩
theorem Es.keep {w w' : World} {lo hi : Nat} {A : Option Addr} {L : List (Ent × Hd)} (h : Es w lo hi A L) (hk : ∀ p : Addr, lo ≤ p.block → p.block < hi → w'.cell? p = w.cell? p) : Es w' lo hi A L := ⟨h.outer.keep hk, fun p hp => (h.each p hp).keep hk⟩
theorem einfo : (Tryd.prog.info? 40).map (fun i => (i.zero, i.size, i.bytes)) = some (some (.agg #[.slice none 0 0, .int .i64 0, .int .i64 0, .slice none 0 0]), 4, 64) := by kernel_rfl
theorem esize (w : World) : (sizeOf (Tryd.prog.elem 26)).run Tryd.prog w = .ok 4 w := by
  obtain ⟨i0, hi, _, hz1, _⟩ := info_parts einfo
  have e : Tryd.prog.elem 26 = 40 := by kernel_rfl
  rw [e]
  simp [Go.sizeOf, typeInfo, hi, hz1]
/-- A piece of a row of entries. -/
theorem eslice_run (A : Option Addr) (n c k j : Nat) (hkj : k ≤ j) (hjn : j ≤ n) (hc : n ≤ c) (w : World) :
    (Instr.slice 26 (.slice A n c) (some (.int .i64 (k : Int))) (some (.int .i64 (j : Int))) none).run Tryd.prog w = .ok (.slice (if c = k then A else A.map (·.add (k * 4))) (j - k) (c - k)) w := by
  have he : Tryd.prog.underlying 26 = some (.slice (Tryd.prog.elem 26)) := by kernel_rfl
  rw [run_slice_lh w 26 A n c he .i64 .i64 (k : Int) (j : Int) (by omega) (by omega) (by omega), esize w]
  simp [Result.andThen, sliced]
theorem eslice_run0 (A : Option Addr) (n c j : Nat) (hjn : j ≤ n) (hc : n ≤ c) (w : World) :
    (Instr.slice 26 (.slice A n c) none (some (.int .i64 (j : Int))) none).run Tryd.prog w = .ok (.slice A j c) w := by
  have he : Tryd.prog.underlying 26 = some (.slice (Tryd.prog.elem 26)) := by kernel_rfl
  rw [run_slice_h w 26 A n c he .i64 (j : Int) (by omega) (by omega), esize w]
  by_cases h : c = 0
  · subst h; simp [Result.andThen, sliced]
  · have : ¬ c = 0 := h
    cases A <;> simp [Result.andThen, sliced, Addr.add]
theorem erow_drop (L : List (Ent × Hd)) (k : Nat) (hk : k ≤ L.length) : erow (L.drop k) = (erow L).drop (k * 4) := by
  have h := erow_append (L.take k) (L.drop k)
  rw [List.take_append_drop] at h
  have hl : (erow (L.take k)).length = k * 4 := by rw [erow_length, List.length_take, Nat.min_eq_left hk]
  rw [h, ← hl, List.drop_left]
theorem erow_take (L : List (Ent × Hd)) (k : Nat) (hk : k ≤ L.length) : erow (L.take k) = (erow L).take (k * 4) := by
  have h := erow_append (L.take k) (L.drop k)
  rw [List.take_append_drop] at h
  have hl : (erow (L.take k)).length = k * 4 := by rw [erow_length, List.length_take, Nat.min_eq_left hk]
  rw [h, ← hl, List.take_left]
theorem Es.drop {w : World} {lo hi c : Nat} {A : Option Addr} {L : List (Ent × Hd)} (h : Es w lo hi A L) {k : Nat} (hk : k ≤ L.length) (hc : L.length ≤ c) : Es w lo hi (if c = k then A else A.map (·.add (k * 4))) (L.drop k) := by
  refine ⟨?_, fun p hp => h.each p (List.mem_of_mem_drop hp)⟩
  rw [erow_drop L k hk]
  have h2 := Sl.drop (k := k * 4) (cap := c * 4) h.outer (by rw [erow_length]; omega) (by rw [erow_length]; omega)
  by_cases e : c = k
  · rw [if_pos e]; rw [if_pos (by omega)] at h2; exact h2
  · rw [if_neg e]; rw [if_neg (by omega)] at h2; exact h2
theorem Es.take {w : World} {lo hi : Nat} {A : Option Addr} {L : List (Ent × Hd)} (h : Es w lo hi A L) {k : Nat} (hk : k ≤ L.length) : Es w lo hi A (L.take k) := by
  refine ⟨?_, fun p hp => h.each p (List.mem_of_mem_take hp)⟩
  rw [erow_take L k hk]
  exact Sl.take h.outer _

/-- Where the pieces begin and end, from i on, the piece that i is in having begun at f. -/
def cuts (L : List Ent) : Nat → Nat → Nat → List (Nat × Nat)
  | 0, _, _ => []
  | r + 1, f, i => match L[i]?, L[i + 1]? with
    | some a, some b => if a.key = b.key then cuts L r f (i + 1) else (f, i + 1) :: cuts L r (i + 1) (i + 1)
    | _, _ => (f, i + 1) :: cuts L r (i + 1) (i + 1)

theorem cuts_same {L : List Ent} {i f : Nat} {a b : Ent} (hi : i < L.length) (ha : L[i]? = some a) (hb : L[i + 1]? = some b) (h : a.key = b.key) : cuts L (L.length - i) f i = cuts L (L.length - (i + 1)) f (i + 1) := by
  have e : L.length - i = L.length - (i + 1) + 1 := by omega
  rw [e, cuts]
  simp only [ha, hb, h, if_true]
theorem cuts_other {L : List Ent} {i f : Nat} {a : Ent} (hi : i < L.length) (ha : L[i]? = some a) (h : ∀ b, L[i + 1]? = some b → a.key ≠ b.key) : cuts L (L.length - i) f i = (f, i + 1) :: cuts L (L.length - (i + 1)) (i + 1) (i + 1) := by
  have e : L.length - i = L.length - (i + 1) + 1 := by omega
  rw [e, cuts]
  cases hb : L[i + 1]? with
  | none => simp only [ha]
  | some b => simp only [ha, if_neg (h b hb)]
theorem drop_cons {α : Type} {l r : List α} {k : Nat} {x : α} (h : l.drop k = x :: r) : k < l.length ∧ l[k]? = some x ∧ l.drop (k + 1) = r := by
  have hk : k < l.length := by
    rcases Nat.lt_or_ge k l.length with h1 | h1
    · exact h1
    · rw [List.drop_of_length_le h1] at h; cases h
  rw [List.drop_eq_getElem_cons hk] at h
  injection h with h1 h2
  exact ⟨hk, by rw [List.getElem?_eq_getElem hk, h1], h2⟩

/-- The blocks that must stay. -/
def Kept (lo hi bd : Nat) (w A : World) : Prop := ∀ k, (lo ≤ k ∧ k < hi ∨ k = bd) → k < w.heap.size → A.heap[k]? = w.heap[k]?
theorem Kept.es {lo hi bd : Nat} {w A : World} {X : Option Addr} {L : List (Ent × Hd)} (h : Kept lo hi bd w A) (hhi : hi ≤ w.heap.size) (hE : Es w lo hi X L) : Es A lo hi X L := hE.keep fun p h1 h2 => World.cell?_of_block (h p.block (.inl ⟨h1, h2⟩) (Nat.lt_of_lt_of_le h2 hhi))
theorem Kept.box {lo hi bd : Nat} {w A : World} {v : Value} (h : Kept lo hi bd w A) (hb : w.cell? ⟨bd, 0, none⟩ = some v) : A.cell? ⟨bd, 0, none⟩ = some v := by
  rw [World.cell?_of_block (w := w) (a := ⟨bd, 0, none⟩) (h bd (.inr rfl) (World.block_lt_of_cell? w _ hb))]; exact hb

/-- The k-th piece, as a value. -/
def PieceOk (L : List (Ent × Hd)) (A : Option Addr) (c : Nat) (_n₁ k : Nat) (x : Option Addr × Nat × Nat) (_w : World) : Prop :=
  ∃ f t, (cuts (L.map Prod.fst) L.length 0 0)[k]? = some (f, t) ∧ f < t ∧ t ≤ L.length ∧ x = ((if c = f then A else A.map (·.add (f * 4))), t - f, c - f)
def pieceV (x : Option Addr × Nat × Nat) : Array Value := #[.slice x.1 x.2.1 x.2.2]

end Go.Proofs.YtpfaoiickmpmjaaDoor

/- A region that draws its order, by facts, whose last operations are done one behind the other, within a round of a loop over a function (no function of the program). -/
namespace Go.Proofs.YtpfaoiickmpmjaaDoor
open Go.RowKit
theorem flow_tail_in {P : Program} {ops : Array Oper} {Q : Exit → Act → World → Prop} {l n : Nat} {a0 : Act} {id : Nat} {w : World} (hm0 : P.follows .mixedOrders = true) (hnd : noDefer ops = true) (hQ : ∀ a w, ¬ Q .outgrown a w) (φ : List (Value → World → Prop)) (m : Nat) (hok : flowOk ops a0.tmps.size = true) (hsel : Region.noSelect ops = true) (hmn : decide (m ≤ ops.size) = true) (htl : tailOk ops m = true) (hmono : ∀ p ∈ φ, Mono p)
    (hobl : ∀ f, Obls P ops φ w.drew f 0 (ops.toList.take m) a0)
    (hfin : ∀ (g : Nat → Value) u, Ext w.drew u → (∀ j, j < m → fact φ j (g j) u) → wpList P ops Q (ops.toList.drop m) (puts g 0 (ops.toList.take m) a0) u) :
    (Code.region id ops true).wpIn (Fence.wide.inRound l) n P Q a0 w := by
  refine wpIn_region_any hm0 (any_in (noDefer_at hnd) (fun ⟨a, w, h⟩ => hQ a w h) _ _ _ _ (flow_tail_any hok hsel (of_decide_eq_true hmn) htl hmono hobl hfin ops.size _ a0 w.drew inv_start (fun j _ => ?_) left_start))
  rw [Array.getD_eq_getD_getElem?]
  by_cases hj : j < ops.size
  · simp [hj]
  · simp [hj]
end Go.Proofs.YtpfaoiickmpmjaaDoor

/- ikey's Latest: what is seen at a number. -/
namespace Go.Proofs.YtpfaoiickmpmjaaDoor
open Go.RowKit Go.Shelf
attribute [local go_sem] Oper.semAt_some

/-- Of each piece the first one whose number is at most s. -/
def firsts (L : List Ent) (s : Int) (cs : List (Nat × Nat)) : List Ent := cs.filterMap fun x => ((L.drop x.1).take (x.2 - x.1)).find? fun e => decide (e.seq ≤ s)
theorem firsts_next {L : List Ent} {s : Int} {cs : List (Nat × Nat)} {k f t : Nat} (h : cs[k]? = some (f, t)) : firsts L s (cs.take (k + 1)) = firsts L s (cs.take k) ++ ((((L.drop f).take (t - f)).find? fun e => decide (e.seq ≤ s)).toList) := by
  obtain ⟨hk, he⟩ := List.getElem?_eq_some_iff.1 h
  unfold firsts
  rw [List.take_succ_eq_append_getElem hk, List.filterMap_append, he]
  simp only [List.filterMap_cons, List.filterMap_nil]
  cases ((L.drop f).take (t - f)).find? fun e => decide (e.seq ≤ s) <;> rfl
theorem find_at {α : Type} {q : α → Bool} {x : α} : ∀ {L : List α} {i : Nat}, L[i]? = some x → q x = true → (∀ j y, j < i → L[j]? = some y → q y = false) → L.find? q = some x
  | [], i, h, _, _ => by simp at h
  | a :: l, 0, h, hq, _ => by simp at h; subst h; simp [hq]
  | a :: l, i + 1, h, hq, hno => by
    have h0 := hno 0 a (Nat.succ_pos _) rfl
    rw [List.find?_cons, h0]
    exact find_at (i := i) (by simpa using h) hq (fun j y hj hy => hno (j + 1) y (by omega) (by simpa using hy))
theorem firsts_len (L : List Ent) (s : Int) (cs : List (Nat × Nat)) : (firsts L s cs).length ≤ cs.length := List.length_filterMap_le _ _
theorem cuts_len (L : List Ent) : ∀ (r f i : Nat), (cuts L r f i).length ≤ r := by
  intro r
  induction r with
  | zero => intro f i; simp [cuts]
  | succ r ih =>
    intro f i
    rw [cuts]
    split
    · split
      · exact Nat.le_succ_of_le (ih _ _)
      · simpa using ih _ _
    · simpa using ih _ _
/-- What an entry's parts are bounded by. -/
structure Good (e : Ent) : Prop where
  bk : ∀ x ∈ e.key, x < 256
  bv : ∀ x ∈ e.val, x < 256
  s1 : -9223372036854775808 ≤ e.seq
  s2 : e.seq ≤ 9223372036854775807
  d1 : -9223372036854775808 ≤ e.kind
  d2 : e.kind ≤ 9223372036854775807
theorem Em.good {w : World} {lo hi : Nat} {e : Ent} {g : Hd} (h : Em w lo hi e g) : Good e := ⟨h.bk, h.bv, h.s1, h.s2, h.d1, h.d2⟩
/-- An entry of the call's own. -/
structure Mine (B : Nat) (p : Ent × Hd) (A : World) : Prop where
  k : Own B p.1.key (.slice p.2.kA p.1.key.length p.2.kc) A
  v : Own B p.1.val (.slice p.2.vA p.1.val.length p.2.vc) A
  good : Good p.1
theorem Mine.em {B : Nat} {p : Ent × Hd} {A : World} (h : Mine B p A) : Em A 0 A.heap.size p.1 p.2 := ⟨h.k.bs, h.v.bs, h.good.bk, h.good.bv, h.good.s1, h.good.s2, h.good.d1, h.good.d2⟩
theorem Mine.below {B : Nat} {p : Ent × Hd} {A A' : World} (h : Mine B p A) (hx : Ext A A') : Mine B p A' := ⟨h.k.below hx, h.v.below hx, h.good⟩
theorem Mine.base {B B' : Nat} {p : Ent × Hd} {A : World} (h : Mine B p A) (hB : B' ≤ B) : Mine B' p A := ⟨h.k.base hB, h.v.base hB, h.good⟩
theorem Mine.chg {B : Nat} {p : Ent × Hd} {A A' : World} {S : Nat → Prop} (h : Mine B p A) (hc : Chg S A A') (hS : ∀ k, B ≤ k → ¬ S k) : Mine B p A' := ⟨row_chg h.k hc hS, row_chg h.v hc hS, h.good⟩

/-- A row of entries in a box, each of them of the call's own. -/
structure Seen (B sb : Nat) (R : List (Ent × Hd)) (A : World) : Prop where
  ex : ∃ v, Boxed A sb 26 v ∧ A.ownsRow B 40 4 v R.length (erow R)
  each : ∀ p ∈ R, Mine B p A

theorem rowN_kept {w w' : World} {base s n : Nat} {e : TypeId} {v : Value} {xs : List Value} (h : w.ownsRow base e s v n xs) (hk : ∀ g, v.ownBlock = some g → w'.heap[g]? = w.heap[g]?) : w'.ownsRow base e s v n xs := by
  obtain ⟨h1, h2⟩ := h
  refine ⟨h1, ?_⟩
  rcases h2 with h2 | ⟨g, cap, cur, hv, hg, hh, r⟩
  · exact Or.inl h2
  · exact Or.inr ⟨g, cap, cur, hv, hg, (hk g (by rw [hv]; rfl)).trans hh, r⟩
theorem rowN_lt {w : World} {base s n : Nat} {e : TypeId} {v : Value} {xs : List Value} (h : w.ownsRow base e s v n xs) : ∀ g, v.ownBlock = some g → base ≤ g ∧ g < w.heap.size ∧ ∃ cur, w.heap[g]? = some (.cells cur e (0, 0)) := by
  intro g hg
  rcases h.2 with ⟨rfl, _⟩ | ⟨g', cap, cur, hv, hb, hh, r⟩
  · cases hg
  · rw [hv] at hg
    injection hg with hg
    subst hg
    exact ⟨hb, (Array.getElem?_eq_some_iff.1 hh).1, cur, hh⟩
theorem rowN_base {w : World} {b b' s n : Nat} {e : TypeId} {v : Value} {xs : List Value} (h : w.ownsRow b e s v n xs) (hb : b' ≤ b) : w.ownsRow b' e s v n xs := by
  obtain ⟨h1, h2⟩ := h
  refine ⟨h1, ?_⟩
  rcases h2 with h2 | ⟨g, cap, cur, hv, hg, hh, r⟩
  · exact Or.inl h2
  · exact Or.inr ⟨g, cap, cur, hv, Nat.le_trans hb hg, hh, r⟩
theorem rowN_slice {w : World} {base s n : Nat} {e : TypeId} {v : Value} {xs : List Value} (h : w.ownsRow base e s v n xs) : ∃ A c, v = .slice A n c := by
  rcases h.2 with ⟨rfl, rfl⟩ | ⟨g', cap, cur, hv, _⟩
  · exact ⟨none, 0, rfl⟩
  · exact ⟨_, _, hv⟩
/-- Rows of unlike things lie apart. -/
theorem rows_apart {w : World} {B B' s s' n n' : Nat} {e e' : TypeId} {v v' : Value} {xs xs' : List Value} (h : w.ownsRow B e s v n xs) (h' : w.ownsRow B' e' s' v' n' xs') (hne : e ≠ e') {g : Nat} (hg : v.ownBlock = some g) : v'.ownBlock ≠ some g := by
  intro hg'
  obtain ⟨_, _, c, hc⟩ := rowN_lt h g hg
  obtain ⟨_, _, c', hc'⟩ := rowN_lt h' g hg'
  rw [hc] at hc'
  injection hc' with hc'
  injection hc' with _ h2 _
  exact hne h2
theorem Seen.chg {B sb : Nat} {R : List (Ent × Hd)} {A A' : World} {S : Nat → Prop} (h : Seen B sb R A) (hc : Chg S A A') (hS : ∀ k, B ≤ k → ¬ S k) (hb : ¬ S sb) : Seen B sb R A' := by
  obtain ⟨v, h1, h2⟩ := h.ex
  exact ⟨⟨v, boxed_chg h1 hc hb, rowN_kept h2 fun g hg => hc.block g (rowN_lt h2 g hg).2.1 (hS g (rowN_lt h2 g hg).1)⟩, fun p hp => (h.each p hp).chg hc hS⟩
theorem Seen.base {B B' sb : Nat} {R : List (Ent × Hd)} {A : World} (h : Seen B sb R A) (hB : B' ≤ B) : Seen B' sb R A := by
  obtain ⟨v, h1, h2⟩ := h.ex
  exact ⟨⟨v, h1, rowN_base h2 hB⟩, fun p hp => (h.each p hp).base hB⟩

/-- A copy, as a value. -/
def CpOk (B : Nat) (e : Ent) (v : Value) (u : World) : Prop := ∃ g : Hd, v = e.at_ g ∧ Mine B (e, g) u
theorem Mono.cp (B : Nat) (e : Ent) : Mono (CpOk B e) := fun _ _ _ ⟨g, h, m⟩ hu => ⟨g, h, m.below hu⟩
/-- A literal of one entry. -/
def LtOk (B : Nat) (e : Ent) (v : Value) (u : World) : Prop := ∃ (g : Hd) (b : Nat), v = .slice (some ⟨b, 0, none⟩) 1 1 ∧ Mine B (e, g) u ∧ u.heap[b]? = some (.cells (ecells (e, g)).toArray 40 (0, 0))
theorem Mono.lt (B : Nat) (e : Ent) : Mono (LtOk B e) := fun _ _ _ ⟨g, b, h, m, hb⟩ hu => ⟨g, b, h, m.below hu, ext_heap hu hb⟩

/-- Between two rounds: what is seen of the first k pieces. -/
def LatI (T : List (Ent × Hd)) (s : Int) (lo hi bd : Nat) (w w3 : World) (n₁ k : Nat) (A : World) : Prop :=
  ∃ R, R.map Prod.fst = firsts (T.map Prod.fst) s ((cuts (T.map Prod.fst) T.length 0 0).take k) ∧ Seen n₁ (w.heap.size + 1) R A ∧ Kept lo hi bd w3 A ∧ w3.heap.size ≤ A.heap.size ∧ n₁ ≤ A.heap.size ∧ A.cell? ⟨w.heap.size, 0, none⟩ = some (.int .i64 s) ∧ Below w.heap.size w A
theorem LatI.chg {T : List (Ent × Hd)} {s : Int} {lo hi bd n₁ k : Nat} {w w3 A A' : World} (h : LatI T s lo hi bd w w3 n₁ k A) (hz : w.heap.size + 2 ≤ w3.heap.size) (hc : Chg (Btw w3.heap.size n₁) A A') : LatI T s lo hi bd w w3 n₁ k A' := by
  obtain ⟨R, hR, hS, hK, hz0, hz1, hs, hb⟩ := h
  refine ⟨R, hR, hS.chg hc (fun i hi hb => by have := hb.2; omega) (fun hb => by have := hb.1; omega), fun i hi hlt => ?_, Nat.le_trans hz0 hc.size, Nat.le_trans hz1 hc.size, ?_, hb.trans (hc.below (fun i hb => by have := hb.1; omega) hb.size)⟩
  · exact (hc.block i (Nat.lt_of_lt_of_le hlt hz0) (fun hb => by have := hb.1; omega)).trans (hK i hi hlt)
  · rw [World.cell?_of_block (w := A) (a := ⟨w.heap.size, 0, none⟩) (hc.block w.heap.size (by omega) (fun hb => by have := hb.1; omega))]; exact hs

end Go.Proofs.YtpfaoiickmpmjaaDoor
