/- The reference's Same; the law's going over what Latest tells. -/
import Derived.Test.YtcofnbeemfhcpaaIseq
namespace Go.Proofs.Ytcofnbeemfhcpaa
open Go.RowKit Go.Shelf Go.ChangeShapes Go.WideShapes Go.ChangeAt

set_option maxRecDepth 100000 in
theorem cv_any {w : World} {lo hi : Nat} {A : Option Addr} {c : Nat} {l : List Nat} (h : Bs w lo hi (.slice A l.length c) l) : (convert 22 9 (.slice A l.length c)).run Try.prog w = .ok (.string (tx l)) w := by
  obtain ⟨A', c', he, _, _, _, hy⟩ := h
  injection he with e1 _ e3
  subst e1 e3
  exact run_text (P := Try.prog) w 22 5 Try.underlying22 Try.underlying5 hy l.length c rfl 9 Try.underlying9
attribute [local go_sem] Oper.semAt_some

set_option maxHeartbeats 2000000 in
theorem rsame_any {w : World} {lo hi lo2 hi2 : Nat} {a b : Ent} {g h : Hd} (hu : Em w lo hi a g) (hv : Em w lo2 hi2 b h) (h1 : hi ≤ w.heap.size) (h2 : hi2 ≤ w.heap.size) :
    Calls Try.prog 9 #[a.at_ g, b.at_ h] w fun e w' => ∃ z : Bool, (z = true ↔ a = b) ∧ e = .returned (.bool z) ∧ Ext w w' := by
  obtain ⟨w1, hw1⟩ : ∃ w1, w1 = (w.alloc (.cells #[.slice g.kA a.key.length g.kc, .int .i64 a.seq, .int .i64 a.kind, .slice g.vA a.val.length g.vc] 25)).alloc (.cells #[.slice h.kA b.key.length h.kc, .int .i64 b.seq, .int .i64 b.kind, .slice h.vA b.val.length h.vc] 25) := ⟨_, rfl⟩
  have HX : Hid (Ext w w1) := by rw [hw1]; exact Ext.trans (ext_alloc _ _) (ext_alloc _ _)
  have cvn : ∀ (X : Option Addr) (c : Nat) (l : List Nat) (lo hi : Nat), hi ≤ w.heap.size → Bs w lo hi (.slice X l.length c) l → (convert 22 9 (.slice X l.length c)).run Try.prog w1 = .ok (.string (tx l)) w1 := fun X c l lo hi hh hb => cv_any (hb.below HX.out hh)
  have v1 := cvn _ _ _ _ _ h1 hu.k
  have v2 := cvn _ _ _ _ _ h2 hv.k
  have v3 := cvn _ _ _ _ _ h1 hu.v
  have v4 := cvn _ _ _ _ _ h2 hv.v
  have t1 := tx_same hu.bk hv.bk
  have t2 := tx_same hu.bv hv.bv
  rw [hw1] at v1 v2 v3 v4
  clear cvn hu hv h1 h2
  unfold Ent.at_
  rw [hw1] at HX
  clear hw1
  by_cases hk : a.key = b.key
  · rw [decide_eq_true hk] at t1
    by_cases hs : a.seq = b.seq
    · have d1 : (a.seq == b.seq) = true := by simp [hs]
      by_cases hd : a.kind = b.kind
      · have d2 : (a.kind == b.kind) = true := by simp [hd]
        obtain ⟨z, hz⟩ : ∃ z, z = decide (a.val = b.val) := ⟨_, rfl⟩
        rw [← hz] at t2
        have HZ : Hid (z = true ↔ a = b) := by rw [hz]; unfold Hid; rw [decide_eq_true_eq]; exact ⟨fun h => Ent.ext hk hs hd h, fun h => by rw [h]⟩
        clear hk hs hd hz
        go_enter Try.func9, Try.ntmps9
        go_wp2_with fail
        go_ret
        exact ⟨z, HZ.out, by cases z <;> rfl, HX.out⟩
      · have d2 : (a.kind == b.kind) = false := by simp [hd]
        have HZ : Hid (false = true ↔ a = b) := ⟨fun h => (by cases h), fun h => absurd (by rw [h]) hd⟩
        clear hk hs hd t2
        go_enter Try.func9, Try.ntmps9
        go_wp2_with fail
        go_ret
        exact ⟨false, HZ.out, rfl, HX.out⟩
    · have d1 : (a.seq == b.seq) = false := by simp [hs]
      have HZ : Hid (false = true ↔ a = b) := ⟨fun h => (by cases h), fun h => absurd (by rw [h]) hs⟩
      clear hk hs t2
      go_enter Try.func9, Try.ntmps9
      go_wp2_with fail
      go_ret
      exact ⟨false, HZ.out, rfl, HX.out⟩
  · rw [decide_eq_false hk] at t1
    have HZ : Hid (false = true ↔ a = b) := ⟨fun h => (by cases h), fun h => absurd (by rw [h]) hk⟩
    clear hk t2
    go_enter Try.func9, Try.ntmps9
    go_wp2_with fail
    go_ret
    exact ⟨false, HZ.out, rfl, HX.out⟩

theorem results_cell_bool {fn : Func} {p : Tmp} (h : fn.results = #[.cell p 4]) (tmps : Array Value) (w : World) (g : Nat) (z : Bool) (hp : tmps.getD p undef = .pointer (some ⟨g, 0, none⟩)) (hc : w.cell? ⟨g, 0, none⟩ = some (.bool z)) :
    (results fn tmps).run Try.prog w = .ok (.bool z) w := by
  simp only [results, h]
  have hp' : tmps[p]?.getD undef = .pointer (some ⟨g, 0, none⟩) := by simpa using hp
  simp [Sem.run_bind, hp', go_sem, hc]
theorem latest_some (g : Nat) (w : World) : (binOp .eql 64 (.func (.func 41) #[] #[.pointer (some ⟨g, 0, none⟩)]) .nilFunc).run Try.prog w = .ok (.bool false) w := by kernel_rfl
theorem SeenV.stay {B sb : Nat} {v : Value} {R : List (Ent × Hd)} {A A' : World} (h : SeenV B sb v R A) (hs : Stay B A.heap.size A A') (hb : B ≤ sb) : SeenV B sb v R A' :=
  ⟨(hs sb hb h.box.lt).trans h.box, rowN_kept h.row fun g hg => hs g (rowN_lt h.row g hg).1 (rowN_lt h.row g hg).2.1,
    fun p hp => ⟨row_kept (h.each p hp).k fun g hg => hs g (row_lt (h.each p hp).k g hg).1 (row_lt (h.each p hp).k g hg).2, row_kept (h.each p hp).v fun g hg => hs g (row_lt (h.each p hp).v g hg).1 (row_lt (h.each p hp).v g hg).2, (h.each p hp).good⟩⟩

/-- Between two rounds. -/
structure OverI (w w3 : World) (X : Option Addr) (N c : Nat) (n₁ k : Nat) (A : World) : Prop where
  stay : Stay (w.heap.size + 4) w3.heap.size w3 A
  below : Below w.heap.size w A
  num : Boxed A (w.heap.size + 3) 3 (.int .i64 (k : Int))
  res : Boxed A (w.heap.size + 2) 4 (.bool false)
  most : Boxed A (w.heap.size + 1) 3 (.int .i64 0)
  want : Boxed A w.heap.size 26 (.slice X N c)
  z3 : w3.heap.size ≤ A.heap.size
  z1 : n₁ ≤ A.heap.size

set_option maxRecDepth 100000 in
set_option maxHeartbeats 8000000 in
theorem over_any {w : World} {lo hi0 c lo2 hi2 c2 : Nat} {A X : Option Addr} {L L2 : List (Ent × Hd)} (h : Es w lo hi0 A L) (hhi : hi0 ≤ w.heap.size) (hc : L.length ≤ c) (hcm : c ≤ maxLen) (hl : L.length ≤ 1000000000000) (hk : ∀ p ∈ L, p.1.key.length ≤ 1099511627776 ∧ p.1.val.length ≤ 1099511627776)
    (h2 : Es w lo2 hi2 X L2) (hhi2 : hi2 ≤ w.heap.size) (s : Int) (hl2 : L2.length ≤ 1000000000000) (hfit : ∀ n, RiseAt (L.map Prod.fst) n → firsts ((L.take n).map Prod.fst) s (cuts ((L.take n).map Prod.fst) (L.take n).length 0 0) = L2.map Prod.fst)
    (hk2 : ∀ p ∈ L2, p.1.key.length ≤ 1099511627776 ∧ p.1.val.length ≤ 1099511627776) :
    Calls Try.prog 23 #[.slice A L.length c, .int .i64 s, .slice X L2.length c2, .int .i64 0] w fun e w' => e = .returned (.bool true) ∧ Below w.heap.size w w' := by
  obtain ⟨w1, hw1⟩ : ∃ w1, w1 = (((w.alloc (.cells #[.slice X L2.length c2] 26)).alloc (.cells #[.int .i64 0] 3)).alloc (.cells #[.bool false] 4)).alloc (.cells #[.int .i64 0] 3) := ⟨_, rfl⟩
  have HX1 : Hid (Ext w w1) := by rw [hw1]; exact Ext.trans (Ext.trans (Ext.trans (ext_alloc _ _) (ext_alloc _ _)) (ext_alloc _ _)) (ext_alloc _ _)
  have HZ1 : Hid (w1.heap.size = w.heap.size + 4) := by rw [hw1]; simp [Hid]
  have HB0 : Hid (Boxed w1 w.heap.size 26 (.slice X L2.length c2)) := by rw [hw1]; exact ext_heap (Ext.trans (Ext.trans (ext_alloc _ _) (ext_alloc _ _)) (ext_alloc _ _)) (heap_at _ _ rfl)
  have HB1 : Hid (Boxed w1 (w.heap.size + 1) 3 (.int .i64 0)) := by rw [hw1]; exact ext_heap (Ext.trans (ext_alloc _ _) (ext_alloc _ _)) (heap_at _ _ (by simp))
  have HB2 : Hid (Boxed w1 (w.heap.size + 2) 4 (.bool false)) := by rw [hw1]; exact ext_heap (ext_alloc _ _) (heap_at _ _ (by simp))
  have HB3 : Hid (Boxed w1 (w.heap.size + 3) 3 (.int .i64 0)) := by rw [hw1]; exact heap_at _ _ (by simp)
  have HLT := Lib.hid (latest_any (h.below HX1.out hhi) (Nat.le_trans hhi HX1.out.size) hc hcm hl hk s)
  have HE2 := Lib.hid h2
  have HHI2 := Lib.hid hhi2
  have HL2 := Lib.hid hl2
  have HFIT := Lib.hid hfit
  have HK2 := Lib.hid hk2
  have hlI : (L2.length : Int) ≤ 1000000000000 := by omega
  clear h hhi hc hcm hl hk h2 hhi2 hl2 hfit hk2
  have hf1 : Fence.wide.fn 33 := trivial
  have hf2 : Fence.wide.fn 9 := trivial
  refine (callsIn_wide (n := 6)).1 ?_
  refine callsIn_of_wp_marks Try.func23 rfl trivial ?_
  simp only [Try.ntmps23, List.size_toArray, List.length_cons, List.length_nil, Nat.reduceAdd, Nat.reduceSub, Array.replicate_succ, Array.replicate_zero, List.push_toArray, List.append_toArray, List.nil_append, List.cons_append]
  gi_wp2_with fail
  rw [← hw1]
  clear hw1
  refine (callsIn_wide.2 HLT.out).mono ?_
  rintro x w3 ⟨n, sb, R, hrise, hR, rfl, hx3, hsb, hseen⟩
  obtain ⟨v, hbox, hrow⟩ := hseen.ex
  have hRL : R.map Prod.fst = L2.map Prod.fst := hR.trans (HFIT.out n hrise)
  have HRL := Lib.hid hRL
  have hlen : R.length = L2.length := by have := congrArg List.length hRL; simpa using this
  have HLEN := Lib.hid hlen
  have HSV : Hid (SeenV w1.heap.size sb v R w3) := ⟨hbox, hrow, hseen.each⟩
  have HX3 := Lib.hid hx3
  have HSB := Lib.hid hsb
  have HRK : Hid (∀ p ∈ R, p.1.key.length ≤ 1099511627776 ∧ p.1.val.length ≤ 1099511627776) := fun p hp => by
    have h1 : p.1 ∈ L2.map Prod.fst := by rw [← HRL.out]; exact List.mem_map.2 ⟨p, hp, rfl⟩
    obtain ⟨q, hq, he⟩ := List.mem_map.1 h1
    rw [← he]; exact HK2.out q hq
  have hfn := latest_some sb
  have HC1 : Hid (∀ A : World, Stay (w.heap.size + 4) w3.heap.size w3 A → SeenV w1.heap.size sb v R A) := fun A hs => HSV.out.stay (by rw [HZ1.out]; exact hs) HSB.out
  clear hR hx3 hsb hseen hbox hrow hRL hlen hrise
  gi_wp2_with fail
  clear hfn
  refine wpIn_over rfl enters_latest (seq_iter HSV.out (by have := HLEN.out; have := HL2.out; omega) HRK.out) (fun _ => rfl) (OverI w w3 X L2.length c2) (fun _ _ => False) (fun _ _ _ h => HC1.out _ h.stay) ?hI (fun _ _ _ h _ => h) ?h0 ?round ?done (fun _ _ _ _ h _ => h.elim)
  case hI =>
    intro n₁ k A1 A2 hn hi hc
    have z1 := HZ1.out
    have z3 := HX3.out.size
    exact ⟨hi.stay.trans fun i h1 h2 => hc.block i (Nat.lt_of_lt_of_le h2 hi.z3) (fun hb => by have := hb.1; omega), hi.below.trans (hc.below (fun i hb => by have := hb.1; omega) hi.below.size), boxed_chg hi.num hc (fun hb => by have := hb.1; omega), boxed_chg hi.res hc (fun hb => by have := hb.1; omega),
      boxed_chg hi.most hc (fun hb => by have := hb.1; omega), boxed_chg hi.want hc (fun hb => by have := hb.1; omega), Nat.le_trans hi.z3 hc.size, Nat.le_trans hi.z1 hc.size⟩
  case h0 =>
    intro A1 hx
    have hxx := Ext.trans HX3.out hx
    exact ⟨fun i _ h2 => hx.block i h2, Ext.trans HX1.out hxx, ext_heap hxx HB3.out, ext_heap hxx HB2.out, ext_heap hxx HB1.out, ext_heap hxx HB0.out, hx.size, Nat.le_refl _⟩
  case round =>
    rintro l2 n₁ k ⟨e, g⟩ A1 hl1 hl2 hn hnA hi hk ⟨p, hp, he, hm⟩
    have he' : e = p.1 := he
    have HM := Lib.hid hm
    have HI1 := Lib.hid hi
    have HN1 := Lib.hid hn
    have HL12 := Lib.hid (And.intro hl1 hl2)
    have HK1 := Lib.hid hk
    obtain ⟨q, hq⟩ : ∃ q, L2[k]? = some q := ⟨_, List.getElem?_eq_getElem (by have := HLEN.out; omega)⟩
    have heq : e = q.1 := by
      have h1 := congrArg (fun l => l[k]?) HRL.out
      simp only [List.getElem?_map, hp, hq, Option.map_some] at h1
      injection h1 with h1
      rw [he', h1]
    have HQ := Lib.hid hq
    have HEQ := Lib.hid heq
    clear hl1 hl2 hn hnA hi hk hp he he' hm hq heq
    dsimp only [seqV, Ent.at_]
    gi_wp2
    obtain ⟨A2, hA2⟩ : ∃ A2, A2 = A1.alloc (.cells #[.slice g.kA e.key.length g.kc, .int .i64 e.seq, .int .i64 e.kind, .slice g.vA e.val.length g.vc] 25) := ⟨_, rfl⟩
    rw [← hA2]
    have HX2 : Hid (Ext A1 A2) := by rw [hA2]; exact ext_alloc _ _
    have HBE : Hid (A2.heap[A1.heap.size]? = some (.cells #[.slice g.kA e.key.length g.kc, .int .i64 e.seq, .int .i64 e.kind, .slice g.vA e.val.length g.vc] 25 (0, 0))) := by rw [hA2]; exact heap_at _ _ rfl
    clear hA2
    refine ⟨Step.of_chg (S := fun _ => False) (Chg.of_ext HX2.out) HI1.out.z1 (fun _ _ _ h => h), fun A3 hc => ?_⟩
    have HCH : Hid (Chg (fun i => i = l2) A1 A3) := (Chg.of_ext HX2.out).trans hc
    have HI3 : Hid (OverI w w3 X L2.length c2 n₁ k A3) := by
      have hi := HI1.out
      have h12 := HL12.out
      have hc := HCH.out
      have z1 := HZ1.out
      have z3 := HX3.out.size
      exact ⟨hi.stay.trans fun i h1 h2 => hc.block i (Nat.lt_of_lt_of_le h2 hi.z3) (fun hb => by omega), hi.below.trans (hc.below (fun i hb => by omega) hi.below.size), boxed_chg hi.num hc (fun hb => by omega), boxed_chg hi.res hc (fun hb => by omega),
        boxed_chg hi.most hc (fun hb => by omega), boxed_chg hi.want hc (fun hb => by omega), Nat.le_trans hi.z3 hc.size, Nat.le_trans hi.z1 hc.size⟩
    have HM3 : Hid (Mine n₁ (e, g) A3) := HM.out.chg HCH.out (fun i h1 h2 => by have := HL12.out.2; omega)
    have HB3' : Hid (A3.heap[A1.heap.size]? = some (.cells #[.slice g.kA e.key.length g.kc, .int .i64 e.seq, .int .i64 e.kind, .slice g.vA e.val.length g.vc] 25 (0, 0))) :=
      (hc.block _ (Array.getElem?_eq_some_iff.1 HBE.out).1 (fun e => by have := HI1.out.z1; have := HL12.out.2; omega)).trans HBE.out
    have HE3 := Lib.hid (HE2.out.below HI3.out.below HHI2.out)
    obtain ⟨b, o, rfl⟩ := HE3.out.base (by have := (List.getElem?_eq_some_iff.1 HQ.out).1; omega)
    obtain ⟨d0, d1, d2, d3⟩ := HE3.out.get HQ.out
    have HRS : Hid (∀ u, Ext A3 u → Calls Try.prog 9 #[.agg #[.slice g.kA e.key.length g.kc, .int .i64 e.seq, .int .i64 e.kind, .slice g.vA e.val.length g.vc], .agg #[.slice q.2.kA q.1.key.length q.2.kc, .int .i64 q.1.seq, .int .i64 q.1.kind, .slice q.2.vA q.1.val.length q.2.vc]] u fun x w' => x = .returned (.bool true) ∧ Ext u w') := fun u hu => by
      refine (rsame_any (HM3.out.below hu).em (((HE3.out.below hu (Nat.le_trans HHI2.out HI3.out.below.size)).each q (List.mem_of_getElem? HQ.out))) (Nat.le_refl _) (Nat.le_trans (Nat.le_trans HHI2.out HI3.out.below.size) hu.size)).mono ?_
      rintro x w' ⟨z, hz, rfl, hx⟩
      have : z = true := hz.2 HEQ.out
      subst this
      exact ⟨rfl, hx⟩
    have b0 := HI3.out.num.cell
    have f0 := HI3.out.num.frozen
    have b1 := HI3.out.want.cell
    have b2 := HI3.out.most.cell
    have e0 := cell_of HB3'.out (k := 0) rfl
    have e1 := cell_of HB3'.out (k := 1) rfl
    have e2 := cell_of HB3'.out (k := 2) rfl
    have e3 := cell_of HB3'.out (k := 3) rfl
    have hkl : k < L2.length := (List.getElem?_eq_some_iff.1 HQ.out).1
    have dk : decide ((L2.length : Int) ≤ (k : Int)) = false := by simp; omega
    have dkn : decide (L2.length ≤ k) = false := by simp; omega
    have n1 : (0 : Int) ≤ (k : Int) := by omega
    have n2 : (k : Int) < (L2.length : Int) := by omega
    have HKL := Lib.hid hkl
    have HMIX : Try.prog.follows .mixedOrders = true := by kernel_rfl
    clear hc hkl
    gi_wp2
    refine flow_in HMIX (by kernel_rfl) (fun _ _ h => h) [Is (.int .i64 (k : Int)), Is (.slice (some ⟨b, o, none⟩) L2.length c2), Is (.int .i64 (L2.length : Int)), Is (.bool false), Is (.bool false), Is (.agg #[.slice g.kA e.key.length g.kc, .int .i64 e.seq, .int .i64 e.kind, .slice g.vA e.val.length g.vc]), Is (.slice (some ⟨b, o, none⟩) L2.length c2), Is (.int .i64 (k : Int)), Is (.pointer (some ⟨b, o + k * 4, none⟩)), Is (.agg #[.slice q.2.kA q.1.key.length q.2.kc, .int .i64 q.1.seq, .int .i64 q.1.kind, .slice q.2.vA q.1.val.length q.2.vc]), Is (.bool true), Is (.bool false), Is (.bool false)] (by kernel_rfl) (by kernel_rfl) ?mono (fun f1 => ?obl) ?fin
    case mono =>
      simp only [List.forall_mem_cons, List.not_mem_nil, false_imp_iff, implies_true, and_true]
      exact ⟨.is _, .is _, .is _, .is _, .is _, .is _, .is _, .is _, .is _, .is _, .is _, .is _, .is _⟩
    case fin =>
      intro g1 u hu hg
      simp only [puts, Act.put, List.setIfInBounds_toArray, List.set_cons_zero, List.set_cons_succ]
      have h12 : g1 12 = .bool false := hg 12 (by decide)
      rw [h12]
      have HU : Hid (Ext A3 u) := Ext.trans (Ext.drew A3) hu
      have b0 := ext_cell HU.out b0
      have b2 := ext_cell HU.out b2
      have f0 : u.frozen? ⟨w.heap.size + 3, 0, none⟩ = false := Boxed.frozen (ext_heap HU.out HI3.out.num)
      clear h12 hg hu e0 e1 e2 e3 d0 d1 d2 d3
      gi_wp2
      have hi := HI3.out
      have hnum : Boxed u (w.heap.size + 3) 3 (.int .i64 (k : Int)) := ext_heap HU.out hi.num
      have hS : Chg (fun i => i = w.heap.size + 3) A3 (u.setCell ⟨w.heap.size + 3, 0, none⟩ (.int .i64 ((k : Int) + 1))) := (Chg.of_ext HU.out).trans (Chg.setCell _ _ _ rfl)
      have z1 := HZ1.out
      have z3 := HX3.out.size
      exact ⟨Step.of_chg hS hi.z1 (fun i h1 h2 h3 => by omega), hi.stay.trans fun i h1 h2 => hS.block i (Nat.lt_of_lt_of_le h2 hi.z3) (fun hb => by omega), hi.below.trans (hS.below (fun i hb => by omega) hi.below.size), hnum.set _, boxed_chg hi.res hS (fun hb => by omega),
        boxed_chg hi.most hS (fun hb => by omega), boxed_chg hi.want hS (fun hb => by omega), Nat.le_trans hi.z3 hS.size, Nat.le_trans hi.z1 hS.size⟩
    case obl =>
      refine ⟨fun u hu hd => ?_, ?_⟩
      · have hu2 := Ext.trans (Ext.drew A3) hu
        have q1 := ext_cell hu2 b0
        go_simp
        exact ⟨Ext.refl _, rfl⟩
      refine ⟨fun u hu hd => ?_, ?_⟩
      · simp only [Act.put, List.setIfInBounds_toArray, List.set_cons_zero, List.set_cons_succ]
        have hu2 := Ext.trans (Ext.drew A3) hu
        have q1 := ext_cell hu2 b1
        go_simp
        exact ⟨Ext.refl _, rfl⟩
      refine ⟨fun u hu hd => ?_, ?_⟩
      · simp only [Act.put, List.setIfInBounds_toArray, List.set_cons_zero, List.set_cons_succ]
        have e1 : f1 1 = (.slice (some ⟨b, o, none⟩) L2.length c2) := hd 1 (by kernel_rfl)
        go_simp
        exact ⟨Ext.refl _, rfl⟩
      refine ⟨fun u hu hd => ?_, ?_⟩
      · simp only [Act.put, List.setIfInBounds_toArray, List.set_cons_zero, List.set_cons_succ]
        have e0 : f1 0 = (.int .i64 (k : Int)) := hd 0 (by kernel_rfl)
        have e2 : f1 2 = (.int .i64 (L2.length : Int)) := hd 2 (by kernel_rfl)
        go_simp
        exact ⟨Ext.refl _, rfl⟩
      refine ⟨fun u hu hd => ?_, ?_⟩
      · simp only [Act.put, List.setIfInBounds_toArray, List.set_cons_zero, List.set_cons_succ]
        have e3 : f1 3 = (.bool false) := hd 3 (by kernel_rfl)
        go_simp
        exact ⟨Ext.refl _, rfl⟩
      refine ⟨fun u hu hd => ?_, ?_⟩
      · simp only [Act.put, List.setIfInBounds_toArray, List.set_cons_zero, List.set_cons_succ]
        have e4' : f1 4 = .bool false := hd 4 (by kernel_rfl)
        have hu2 := Ext.trans (Ext.drew A3) hu
        have q0 := ext_cell hu2 e0
        have q1 := ext_cell hu2 e1
        have q2 := ext_cell hu2 e2
        have q3 := ext_cell hu2 e3
        go_simp
        exact ⟨Ext.refl _, rfl⟩
      refine ⟨fun u hu hd => ?_, ?_⟩
      · simp only [Act.put, List.setIfInBounds_toArray, List.set_cons_zero, List.set_cons_succ]
        have e4' : f1 4 = .bool false := hd 4 (by kernel_rfl)
        have hu2 := Ext.trans (Ext.drew A3) hu
        have q1 := ext_cell hu2 b1
        go_simp
        exact ⟨Ext.refl _, rfl⟩
      refine ⟨fun u hu hd => ?_, ?_⟩
      · simp only [Act.put, List.setIfInBounds_toArray, List.set_cons_zero, List.set_cons_succ]
        have e4' : f1 4 = .bool false := hd 4 (by kernel_rfl)
        have hu2 := Ext.trans (Ext.drew A3) hu
        have q1 := ext_cell hu2 b0
        go_simp
        exact ⟨Ext.refl _, rfl⟩
      refine ⟨fun u hu hd => ?_, ?_⟩
      · simp only [Act.put, List.setIfInBounds_toArray, List.set_cons_zero, List.set_cons_succ]
        have e4' : f1 4 = .bool false := hd 4 (by kernel_rfl)
        have e6 : f1 6 = (.slice (some ⟨b, o, none⟩) L2.length c2) := hd 6 (by kernel_rfl)
        have e7 : f1 7 = (.int .i64 (k : Int)) := hd 7 (by kernel_rfl)
        go_simp
        exact ⟨Ext.refl _, rfl⟩
      refine ⟨fun u hu hd => ?_, ?_⟩
      · simp only [Act.put, List.setIfInBounds_toArray, List.set_cons_zero, List.set_cons_succ]
        have e4' : f1 4 = .bool false := hd 4 (by kernel_rfl)
        have e8 : f1 8 = (.pointer (some ⟨b, o + k * 4, none⟩)) := hd 8 (by kernel_rfl)
        have hu2 := Ext.trans (Ext.drew A3) hu
        have q0 := ext_cell hu2 d0
        have q1 := ext_cell hu2 d1
        have q2 := ext_cell hu2 d2
        have q3 := ext_cell hu2 d3
        go_simp
        exact ⟨Ext.refl _, rfl⟩
      refine ⟨fun u hu hd => ?_, ?_⟩
      · simp only [Act.put, List.setIfInBounds_toArray, List.set_cons_zero, List.set_cons_succ]
        have e4' : f1 4 = .bool false := hd 4 (by kernel_rfl)
        have e5 : f1 5 = (.agg #[.slice g.kA e.key.length g.kc, .int .i64 e.seq, .int .i64 e.kind, .slice g.vA e.val.length g.vc]) := hd 5 (by kernel_rfl)
        have e9 : f1 9 = (.agg #[.slice q.2.kA q.1.key.length q.2.kc, .int .i64 q.1.seq, .int .i64 q.1.kind, .slice q.2.vA q.1.val.length q.2.vc]) := hd 9 (by kernel_rfl)
        have hu2 := Ext.trans (Ext.drew A3) hu
        go_simp
        refine (HRS.out u hu2).mono ?_
        rintro x w9 ⟨rfl, hx9⟩
        exact ⟨_, rfl, hx9, rfl⟩
      refine ⟨fun u hu hd => ?_, ?_⟩
      · simp only [Act.put, List.setIfInBounds_toArray, List.set_cons_zero, List.set_cons_succ]
        have e4' : f1 4 = .bool false := hd 4 (by kernel_rfl)
        have e10 : f1 10 = (.bool true) := hd 10 (by kernel_rfl)
        go_simp
        exact ⟨Ext.refl _, rfl⟩
      refine ⟨fun u hu hd => ?_, ?_⟩
      · simp only [Act.put, List.setIfInBounds_toArray, List.set_cons_zero, List.set_cons_succ]
        have e4' : f1 4 = .bool false := hd 4 (by kernel_rfl)
        have e11 : f1 11 = (.bool false) := hd 11 (by kernel_rfl)
        go_simp
        exact ⟨Ext.refl _, rfl⟩
      trivial
  case done =>
    rintro D' n₁ W' hDl hDn hn hi hD
    rw [HLEN.out] at hi
    have HDL := Lib.hid (And.intro hDl hDn)
    have HDD := Lib.hid hD
    have HI := Lib.hid hi
    have q0 := hi.num.cell
    have q1 := hi.want.cell
    have q2 := hi.res.cell
    have f2 := hi.res.frozen
    clear hDl hDn hn hi hD
    gi_wp2
    have hne : D' ≠ w.heap.size + 2 := by have h1 := HDL.out; have h2 := HZ1.out; have h3 := HX3.out.size; omega
    have HD2 : Hid ((W'.setCell ⟨w.heap.size + 2, 0, none⟩ (.bool true)).heap[D']? = some (.deferred (some []))) := (Below.heap_setCell _ _ _ _ hne).trans HDD.out
    have HBR : Hid (Boxed (W'.setCell ⟨w.heap.size + 2, 0, none⟩ (.bool true)) (w.heap.size + 2) 4 (.bool true)) := HI.out.res.set _
    have HBW : Hid (Below w.heap.size w (W'.setCell ⟨w.heap.size + 2, 0, none⟩ (.bool true))) := Below.setCell HI.out.below (show w.heap.size ≤ w.heap.size + 2 by omega) _
    refine ⟨by simp, .inl ⟨_, _, rfl, run_takeDeferred HD2.out, ?_⟩⟩
    refine ⟨_, results_cell_bool Try.results23 _ _ (w.heap.size + 2) true rfl (Boxed.cell (boxed_chg HBR.out (putObj_chg _ D' _) (fun e => hne e.symm))), ⟨rfl, ?_⟩⟩
    exact HBW.out.trans ((putObj_chg _ D' _).below (fun i e => by have h1 := HDL.out; have h2 := HZ1.out; have h3 := HX3.out.size; omega) HBW.out.size)
end Go.Proofs.Ytcofnbeemfhcpaa
