/- Gcoll Gclos2 Gclos3 Gwants Gmake Gkeep Grest Ggath Gsame, joined. -/
import Derived.Test.YtlnihaeeoolkhaaMa5
import Derived.Test.YtlnihaeeoolkhaaMa4
import Derived.Lib.JoinLaws

/- slices.AppendSeq and slices.Collect of a function that goes over copies (merge). -/
namespace Go.Proofs.Ytlnihaeeoolkhaa
open Go.ChangeShapes Go.WideShapes Go.ChangeAt Go.RowKit Go.Shelf
attribute [local go_sem] Oper.semAt_some

theorem mine_chg {B : Nat} {D D' S : Nat → Prop} {p : Ent × Hd} {A A' : World} (h : Mine B p A ∧ FreeB D (.slice p.2.kA p.1.key.length p.2.kc) ∧ FreeB D (.slice p.2.vA p.1.val.length p.2.vc)) (hc : Chg S A A') (hS : ∀ b, S b → D b) (hD : ∀ i, D' i → D i ∨ A.heap.size ≤ i) :
    Mine B p A' ∧ FreeB D' (.slice p.2.kA p.1.key.length p.2.kc) ∧ FreeB D' (.slice p.2.vA p.1.val.length p.2.vc) :=
  ⟨⟨row_kept h.1.k fun b hb => hc.block b (row_lt h.1.k b hb).2 (fun hs => h.2.1 b hb (hS b hs)), row_kept h.1.v fun b hb => hc.block b (row_lt h.1.v b hb).2 (fun hs => h.2.2 b hb (hS b hs)), h.1.good⟩,
    h.2.1.grow (fun b hb => (row_lt h.1.k b hb).2) hD, h.2.2.grow (fun b hb => (row_lt h.1.v b hb).2) hD⟩
/-- What is collected between two rounds. -/
structure ColM (base lb s3 B0 : Nat) (w : World) (L : List Ent) (D K : Nat → Prop) (k : Nat) (A : World) (X : Option Addr) (c : Nat) (R : List (Ent × Hd)) : Prop where
  below : Below w.heap.size w A
  z : s3 ≤ A.heap.size
  dz : ∀ i, D i → s3 ≤ i
  kz : ∀ i, K i → s3 ≤ i
  box : Boxed A lb 22 (.slice X R.length c)
  row : OwnE base R (.slice X R.length c) A
  is : R.map Prod.fst = L.take k
  fd : FreeB D (.slice X R.length c)
  fk : FreeB K (.slice X R.length c)
  each : ∀ p ∈ R, Mine base p A ∧ FreeB D (.slice p.2.kA p.1.key.length p.2.kc) ∧ FreeB D (.slice p.2.vA p.1.val.length p.2.vc)
theorem ColM.chg {base lb s3 B0 : Nat} {w : World} {L : List Ent} {D K D' K' : Nat → Prop} {k c : Nat} {A A' : World} {X : Option Addr} {R : List (Ent × Hd)} (h : ColM base lb s3 B0 w L D K k A X c R) (hlb : lb < s3) (hs : w.heap.size ≤ s3) (hc : Chg D A A') (hD : ∀ i, D' i → D i ∨ A.heap.size ≤ i) (hK : ∀ i, K' i → K i ∨ A.heap.size ≤ i) : ColM base lb s3 B0 w L D' K' k A' X c R :=
  ⟨h.below.trans (hc.below (fun i hi => Nat.le_trans hs (h.dz i hi)) h.below.size), Nat.le_trans h.z hc.size,
    fun i hi => (hD i hi).elim (h.dz i) (fun h2 => Nat.le_trans h.z h2), fun i hi => (hK i hi).elim (h.kz i) (fun h2 => Nat.le_trans h.z h2),
    boxed_chg h.box hc (fun hd => by have := h.dz lb hd; omega), h.row.keep fun g hg => hc.block g (ownE_lt h.row g hg).2.1 (h.fd g hg), h.is,
    h.fd.grow (fun b hb => (ownE_lt h.row b hb).2.1) hD, h.fk.grow (fun b hb => (ownE_lt h.row b hb).2.1) hK, fun p hp => mine_chg (h.each p hp) hc (fun b hb => hb) hD⟩

/-- Behind a round. -/
theorem colm_next {base lb s3 B0 : Nat} {w A3 w5 w6 : World} {L : List Ent} {D K : Nat → Prop} {k cR N c5 : Nat} {X X5 : Option Addr} {R : List (Ent × Hd)} {p : Ent × Hd} {o : Obj} (hT : ColM base lb s3 B0 w L D K k A3 X cR R) (hlb : lb < s3) (hbase : w.heap.size ≤ base) (hbl : w.heap.size ≤ lb) (_hB0 : B0 ≤ w.heap.size)
    (hD : ∀ i, D i → i < A3.heap.size) (hK : ∀ i, K i → i < A3.heap.size)
    (hp : L[k]? = some p.1) (hlive : Mine base p A3 ∧ FreeB D (.slice p.2.kA p.1.key.length p.2.kc) ∧ FreeB D (.slice p.2.vA p.1.val.length p.2.vc))
    (hN : N = R.length + 1) (hg5 : OwnE base (R ++ [p]) (.slice X5 N c5) w5) (hgr : (A3.alloc o).grownBy w5 (Value.slice X R.length cR).ownBlock)
    (hat : ∀ g, (Value.slice X5 N c5).ownBlock = some g → (Value.slice X R.length cR).ownBlock = some g ∨ g = (A3.alloc o).heap.size) (hw6 : w6 = w5.setCell ⟨lb, 0, none⟩ (.slice X5 N c5)) :
    StepK K A3 w6 ∧ ColM base lb s3 B0 w L D K (k + 1) w6 X5 c5 (R ++ [p]) := by
  have hlen : N = (R ++ [p]).length := by rw [hN]; simp
  subst hlen
  have hb5 := col_box hT.box hT.row hgr
  have hb6 : Boxed w6 lb 22 (.slice X5 (R ++ [p]).length c5) := by rw [hw6]; exact hb5.set _
  have hc : Chg (fun i => (Value.slice X R.length cR).ownBlock = some i ∨ i = lb) A3 w6 := by
    rw [hw6]
    exact ((Chg.alloc (S := fun i => (Value.slice X R.length cR).ownBlock = some i ∨ i = lb) A3 o).trans (Chg.grown hgr fun g hg => .inl hg)).trans (Chg.setCell _ _ _ (.inr rfl))
  have hrow := fun g hg => ownE_lt hT.row g hg
  have hM : ∀ q : Ent × Hd, Mine base q A3 → Mine base q w6 := fun q hq => by
    have hk : ∀ {l : List Nat} {x : Value}, Own base l x A3 → Own base l x w6 := fun hx => row_kept hx fun g' hg' => hc.block g' (row_lt hx g' hg').2 (fun e => by
      obtain ⟨_, _, c1, hc1⟩ := rowN_lt hx g' hg'
      rcases e with e | e
      · exact rows_apart hx hT.row (by decide) hg' e
      · have h9 : A3.heap[lb]? = _ := hT.box
        rw [e, h9] at hc1
        injection hc1 with hc1
        injection hc1 with _ hc1
        exact absurd hc1 (by decide))
    exact ⟨hk hq.k, hk hq.v, hq.good⟩
  refine ⟨StepK.of_chg hc (fun i _ hk hs => ?_), hT.below.trans (hc.below (fun i hi => ?_) hT.below.size), Nat.le_trans hT.z hc.size, hT.dz, hT.kz, hb6, ?_, ?_, fun g hg hd => ?_, fun g hg hd => ?_, fun q hq => ?_⟩
  · rcases hs with hs | hs
    · exact hT.fk i hs hk
    · have := hT.kz i hk; omega
  · rcases hi with hi | hi
    · have := (hrow i hi).1; omega
    · omega
  · rw [hw6]
    refine hg5.keep fun g hg => Below.heap_setCell _ _ _ _ fun e => ?_
    obtain ⟨_, _, cc, hcc⟩ := ownE_lt hg5 g hg
    have h1 : w5.heap[lb]? = _ := hb5
    rw [e, h1] at hcc
    injection hcc with hcc
    injection hcc with _ hcc
    exact absurd hcc (by decide)
  · rw [List.map_append, hT.is, List.take_add_one, hp]; rfl
  · rcases hat g hg with h | h
    · exact hT.fd g h hd
    · have := hD g hd; rw [h] at this; simp at this; omega
  · rcases hat g hg with h | h
    · exact hT.fk g h hd
    · have := hK g hd; rw [h] at this; simp at this; omega
  · rcases List.mem_append.1 hq with hq | hq
    · exact ⟨hM q (hT.each q hq).1, (hT.each q hq).2⟩
    · rw [List.mem_singleton] at hq; subst hq
      exact ⟨hM q hlive.1, hlive.2⟩

theorem NIter.base {gf : Nat} {lb : Array Value} {B0 N N' : Nat} {L : List Ent} {C : World → Prop} {X : Nat → Prop} {w : World} (h : NIter gf lb B0 N L C X w) (hN : N' ≤ N) : NIter gf lb B0 N' L C X w :=
  fun m l J Jx W h1 h2 h3 h4 h5 hY => h m l J Jx W h1 h2 h3 h4 h5 fun D K k x A hd hk hj hok => hY D K k x A hd hk hj ⟨hok.1, hok.2.1.base hN, hok.2.2⟩

/-- What Collect answers. -/
def CollAns (w : World) (L : List Ent) (x : Ending) (w' : World) : Prop := ∃ X c R, x = .returned (.slice X R.length c) ∧ Got w.heap.size (.slice X R.length c) R w' ∧ R.map Prod.fst = L ∧ Below w.heap.size w w'

set_option maxRecDepth 100000 in
set_option maxHeartbeats 8000000 in
theorem appendSeq_any {w : World} {gf B0 : Nat} {lb : Array Value} {L : List Ent} {C : World → Prop} (hit : ∀ u, Ext w u → NIter gf lb B0 w.heap.size L C (fun _ => False) u) (eg : ∀ args w, (callFunc gf args).run Try.prog w = .ok (.enter gf args) w) (hC : ∀ A, Below w.heap.size w A → C A) (hB0 : B0 ≤ w.heap.size) (hl : L.length ≤ 1000000) :
    Calls Try.prog 53 #[.slice none 0 0, .func (.func gf) #[] lb] w (CollAns w L) := by
  obtain ⟨w1, hw1⟩ : ∃ w1, w1 = w.alloc (.cells #[.slice none 0 0] 22) := ⟨_, rfl⟩
  have HX1 : Hid (Ext w w1) := by rw [hw1]; exact ext_alloc _ _
  have HZ1 : Hid (w1.heap.size = w.heap.size + 1) := by rw [hw1]; simp [Hid]
  have HB1 : Hid (Boxed w1 w.heap.size 22 (.slice none 0 0)) := by rw [hw1]; exact heap_at _ _ rfl
  have HIT := Lib.hid (hit w1 HX1.out)
  have HC := Lib.hid hC
  have HB := Lib.hid hB0
  have HL := Lib.hid hl
  clear hit hC hB0 hl
  refine (callsIn_wide (n := 6)).1 ?_
  refine callsIn_of_wp_marks Try.func53 rfl trivial ?_
  simp only [Try.ntmps53, List.size_toArray, List.length_cons, List.length_nil, Nat.reduceAdd, Nat.reduceSub, Array.replicate_succ, Array.replicate_zero, List.push_toArray, List.append_toArray, List.nil_append, List.cons_append]
  gi_wp2_with fail
  rw [← hw1]
  clear hw1
  refine wpIn_overX rfl eg (fun _ h => h.elim) HIT.out (fun _ => rfl) (fun D K k A => ∃ X c R, ColM w.heap.size w.heap.size (w.heap.size + 1) B0 w L D K k A X c R)
    (fun _ _ _ => False) (fun _ _ _ _ h => by obtain ⟨_, _, _, h⟩ := h; exact HC.out _ h.below) ?hI (fun _ _ _ _ h _ => h) ?h0 ?rnd ?hok ?done (fun _ _ _ _ _ _ h _ => h.elim)
  case hI =>
    rintro D K k A D' K' A' ⟨X, c, R, h1⟩ hc hD hK
    exact ⟨X, c, R, h1.chg (by omega) (by omega) hc hD hK⟩
  case h0 =>
    intro A D K hx hD hK
    have z1 := HZ1.out
    have hs := hx.size
    exact ⟨none, 0, [], ⟨Ext.trans HX1.out hx, by omega, fun i h => by have := (hD i h).elim False.elim id; omega, fun i h => by have := (hK i h).elim False.elim id; omega, ext_heap hx HB1.out, World.ownsRow_nil _ _ _ _, rfl, fun b hb => (by cases hb), fun b hb => (by cases hb), fun p hp => (by cases hp)⟩⟩
  case hok =>
    rintro D K D' K' k x A ⟨⟨h1, h2⟩, hm, hf1, hf2⟩ ⟨od, hd⟩ ⟨ol, hl⟩ hD' _ _ _
    have hfr : ∀ {l : List Nat} {v : Value}, Own w.heap.size l v A → FreeB D v → FreeB D' v := fun ho hf b hb hd' => by
      obtain ⟨_, _, cc, hcc⟩ := rowN_lt ho b hb
      rcases hD' b hd' with h | h | h
      · exact hf b hb h
      · rw [h, hd] at hcc; cases hcc
      · rw [h, hl] at hcc; cases hcc
    refine ⟨⟨h1, h2.1, fun A' T hc hT => h2.2 A' T hc fun b hb => ?_⟩, hm, hfr hm.k hf1, hfr hm.v hf2⟩
    have hBW : B0 ≤ w1.heap.size := by have := HB.out; have := HZ1.out; omega
    rcases hT b hb with h | h
    · rcases hD' b h with h | h | h
      · exact .inl h
      · exact .inr (.inr ⟨by omega, fun c fz e => by rw [h, hd] at e; cases e⟩)
      · exact .inr (.inr ⟨by omega, fun c fz e => by rw [h, hl] at e; cases e⟩)
    · exact .inr h
  case rnd =>
    rintro l2 D K k ⟨e, g⟩ A rfl hDl hKl hDm hKm hDb hKb ⟨X0, c0, R0, hi⟩ ⟨⟨hek, _⟩, hlv⟩
    have hek' : L[k]? = some e := hek
    have HI1 := Lib.hid hi
    have HLV := Lib.hid hlv
    have HEK := Lib.hid hek'
    have HDK := Lib.hid (And.intro hDl (And.intro hKl (And.intro hDb hKb)))
    clear hDl hKl hDm hKm hDb hKb hi hek hek' hlv
    dsimp only [entV, Ent.at_]
    gi_wp2
    obtain ⟨A2, hA2⟩ : ∃ A2, A2 = A.alloc (.cells #[.slice g.kA e.key.length g.kc, .int .i64 e.seq, .int .i64 e.kind, .slice g.vA e.val.length g.vc] 46) := ⟨_, rfl⟩
    rw [← hA2]
    have HX2 : Hid (Ext A A2) := by rw [hA2]; exact ext_alloc _ _
    have HBE2 : Hid (A2.heap[A.heap.size]? = some (.cells #[.slice g.kA e.key.length g.kc, .int .i64 e.seq, .int .i64 e.kind, .slice g.vA e.val.length g.vc] 46 (0, 0))) := by rw [hA2]; exact heap_at _ _ rfl
    clear hA2
    refine ⟨StepK.of_chg (S := fun _ => False) (Chg.of_ext HX2.out) (fun _ _ _ h => h), fun A3 hc => ?_⟩
    have HCH : Hid (Chg D A A3) := ((Chg.of_ext (S := D) HX2.out).trans (hc.mono fun i _ e => by rw [e]; exact HDK.out.1))
    have HI3 := Lib.hid (HI1.out.chg (by omega) (by omega) HCH.out (fun i h => .inl h) (fun i h => .inl h))
    have HL3 := Lib.hid (mine_chg HLV.out HCH.out (fun b hb => hb) (fun b hb => .inl hb))
    have HB3 : Hid (A3.heap[A.heap.size]? = some (.cells #[.slice g.kA e.key.length g.kc, .int .i64 e.seq, .int .i64 e.kind, .slice g.vA e.val.length g.vc] 46 (0, 0))) :=
      (hc.block _ (Array.getElem?_eq_some_iff.1 HBE2.out).1 (fun e => by have := HDK.out.2.2.2 _ HDK.out.2.1; omega)).trans HBE2.out
    have HRL : Hid (R0.length = k ∧ k < 1000000) := by
      have h1 := (List.getElem?_eq_some_iff.1 HEK.out).1
      have h2 := congrArg List.length HI3.out.is
      rw [List.length_map, List.length_take] at h2
      have := HL.out
      exact ⟨by omega, by omega⟩
    have q0 := HI3.out.box.cell
    have e0 := cell_of HB3.out (k := 0) rfl
    have e1 := cell_of HB3.out (k := 1) rfl
    have e2 := cell_of HB3.out (k := 2) rfl
    have e3 := cell_of HB3.out (k := 3) rfl
    have HZA : Hid (w.heap.size ≤ A3.heap.size) := HI3.out.below.size
    have HAA : Hid (A.heap.size ≤ A3.heap.size) := HCH.out.size
    clear hc
    obtain ⟨N, hN⟩ : ∃ N, N = R0.length + 1 := ⟨_, rfl⟩
    have HN := Lib.hid hN
    clear hN
    gi_wp2_with (gi_at_builtin; refine wpListIn_pushe rfl (.tmp 8) (.tmp 10) rfl w.heap.size _ R0 rfl (HI3.out.row.below (ext_alloc _ _)) (e, g) A3.heap.size rfl (heap_at _ _ rfl) (by have := HRL.out; omega) (Nat.le_trans HZA.out (by simp)) ?_; rw [← HN.out]; intro X5 c5 w5 hgot5 hgr5 hat5; have HG5 := Lib.hid hgot5; have HGR5 := Lib.hid hgr5; have HAT5 := Lib.hid hat5; have q1 := col_box HI3.out.box HI3.out.row hgr5; have HQ1 := Lib.hid q1; have q2 := q1.cell; have q3 := q1.frozen; clear hgot5 hgr5 hat5 q1)
    obtain ⟨w6, hw6⟩ : ∃ w6, w6 = w5.setCell ⟨w.heap.size, 0, none⟩ (.slice X5 N c5) := ⟨_, rfl⟩
    rw [← hw6]
    obtain ⟨hst, hnx⟩ := colm_next HI3.out (by omega) (Nat.le_refl _) (by omega) HB.out (fun i h => by have := (HDK.out.2.2.1 i h).2; have := HAA.out; omega) (fun i h => by have := (HDK.out.2.2.2 i h).2; have := HAA.out; omega) HEK.out HL3.out HN.out HG5.out HGR5.out HAT5.out hw6
    clear hw6 q2 q3
    exact ⟨hst, X5, c5, R0 ++ [(e, g)], hnx⟩
  case done =>
    rintro M k W2 D K rfl hDm hKm ⟨X, c, R, hi⟩ hk hd
    have hk' : k = L.length := hk
    have HI := Lib.hid hi
    have HDM := Lib.hid (And.intro hDm hd)
    have HTK : Hid (R.map Prod.fst = L) := by
      have h1 := hi.is
      rw [hk', List.take_of_length_le (Nat.le_refl _)] at h1
      exact h1
    have q0 := hi.box.cell
    clear hi hk hk' hDm hKm hd
    gi_wp2_with fail
    refine leaves_marks (u := .returning) (by simp) [w1.heap.size] W2 (by simp) (fun i hi => ?_) (fun W3 hc => ?_)
    · rw [List.mem_singleton] at hi; rw [hi]; exact HDM.out.2
    · have hc' : Chg D W2 W3 := hc.mono fun i _ hi => by rw [List.mem_singleton] at hi; rw [hi]; exact HDM.out.1
      have hfin := HI.out.chg (by omega) (by omega) hc' (fun i h => .inl h) (fun i h => .inl h)
      exact ⟨_, results_tmp rfl _ _ _, X, c, R, rfl, ⟨hfin.row, fun p hp => (hfin.each p hp).1⟩, HTK.out, hfin.below⟩

set_option maxRecDepth 100000 in
set_option maxHeartbeats 8000000 in
theorem collect_any {w : World} {gf B0 : Nat} {lb : Array Value} {L : List Ent} {C : World → Prop} (hit : ∀ u, Ext w u → NIter gf lb B0 w.heap.size L C (fun _ => False) u) (eg : ∀ args w, (callFunc gf args).run Try.prog w = .ok (.enter gf args) w) (hC : ∀ A, Below w.heap.size w A → C A) (hB0 : B0 ≤ w.heap.size) (hl : L.length ≤ 1000000) :
    Calls Try.prog 50 #[.func (.func gf) #[] lb] w (CollAns w L) := by
  have H := Lib.hid (appendSeq_any hit eg hC hB0 hl)
  clear hit hC hB0 hl
  go_enter Try.func50, Try.ntmps50
  go_wp2_with fail
  refine H.out.mono ?_
  rintro x w2 ⟨X, c, R, rfl, h1, h2, h3⟩
  have HH := Lib.hid (And.intro h1 (And.intro h2 h3))
  clear h1 h2 h3
  go_wp2_with fail
  go_ret
  exact ⟨X, c, R, rfl, HH.out.1, HH.out.2.1, HH.out.2.2⟩
end Go.Proofs.Ytlnihaeeoolkhaa

/- merge's closures that say which entries are wanted. -/
namespace Go.Proofs.Ytlnihaeeoolkhaa
open Go.ChangeShapes Go.WideShapes Go.ChangeAt Go.RowKit

set_option maxHeartbeats 1000000 in
theorem deletes_any {w : World} {e : Ent} {g : Hd} : Calls Try.prog 30 #[e.at_ g] w fun x w' => x = .returned (.bool (decide (e.kind = 2))) ∧ Ext w w' := by
  unfold Ent.at_
  obtain ⟨w1, hw1⟩ : ∃ w1, w1 = w.alloc (.cells #[.slice g.kA e.key.length g.kc, .int .i64 e.seq, .int .i64 e.kind, .slice g.vA e.val.length g.vc] 46) := ⟨_, rfl⟩
  have HX1 : Hid (Ext w w1) := by rw [hw1]; exact ext_alloc _ _
  have c2 : w1.cell? ⟨w.heap.size, 2, none⟩ = some (.int .i64 e.kind) := by rw [hw1]; exact cell_of (heap_at _ _ rfl) rfl
  obtain ⟨z, hz⟩ : ∃ z, z = decide (e.kind = 2) := ⟨_, rfl⟩
  rw [← hz]
  have d : (e.kind == 2) = z := by rw [hz, Bool.eq_iff_iff]; simp
  clear hz
  go_enter Try.func30, Try.ntmps30
  go_upto_region 1 with (fail)
  rw [← hw1]
  clear hw1
  go_wp2_with fail
  go_ret
  exact ⟨rfl, HX1.out⟩
set_option maxHeartbeats 1000000 in
theorem each_any {w : World} {e : Ent} {g : Hd} : Calls Try.prog 36 #[e.at_ g] w fun x w' => x = .returned (.bool true) ∧ Ext w w' := by
  unfold Ent.at_
  go_enter Try.func36, Try.ntmps36
  go_wp2_with fail
  go_ret
  exact ⟨rfl, ext_alloc _ _⟩

/-- seenAt's closure, as a value. -/
def seenV (bs bf bl : Nat) : Value := .func (.func 45) #[] #[.pointer (some ⟨bs, 0, none⟩), .pointer (some ⟨bf, 0, none⟩), .pointer (some ⟨bl, 0, none⟩)]
/-- Is it kept? -/
def keepB (floor : Int) (bottom : Bool) (st : Option (List Nat)) (e : Ent) : Bool := decide (floor < e.seq) || (seenB floor st e && !(bottom && decide (e.kind = 2)))
theorem seenN_above {s : Int} {st : Option (List Nat)} {e : Ent} (h : s < e.seq) : seenN s st e = st := by
  have : seenB s st e = false := by unfold seenB; rw [decide_eq_false (by omega)]; rfl
  unfold seenN
  rw [this]; rfl
set_option maxRecDepth 100000 in
set_option maxHeartbeats 8000000 in
theorem keep1_any {w : World} {B bs bf bl bp bq br lo hi : Nat} {s : Int} {bottom : Bool} {st : Option (List Nat)} {e : Ent} {g : Hd} (h : SeenSt w B bs bf bl s st) (h1 : bs ≠ bf) (h2 : bs ≠ bl) (h3 : bf ≠ bl) (hB : B ≤ w.heap.size)
    (hp : Boxed w bp 2 (.int .i64 s)) (hq : Boxed w bq 55 (seenV bs bf bl)) (hr : Boxed w br 4 (.bool bottom)) (hd : br ≠ bf ∧ br ≠ bl) (hm : Em w lo hi e g) (hhi : hi ≤ w.heap.size) (hk : e.key.length ≤ 140737488351232) :
    Calls Try.prog 29 #[e.at_ g, .pointer (some ⟨bp, 0, none⟩), .pointer (some ⟨bq, 0, none⟩), .pointer (some ⟨br, 0, none⟩)] w fun x w' => x = .returned (.bool (keepB s bottom st e)) ∧ SeenSt w' B bs bf bl s (seenN s st e) ∧ Chg (fun i => i = bf ∨ i = bl) w w' ∧ LastNew bl w w' := by
  obtain ⟨w1, hw1⟩ : ∃ w1, w1 = w.alloc (.cells #[.slice g.kA e.key.length g.kc, .int .i64 e.seq, .int .i64 e.kind, .slice g.vA e.val.length g.vc] 46) := ⟨_, rfl⟩
  have HX1 : Hid (Ext w w1) := by rw [hw1]; exact ext_alloc _ _
  have HBX : Hid (w1.heap[w.heap.size]? = some (.cells #[.slice g.kA e.key.length g.kc, .int .i64 e.seq, .int .i64 e.kind, .slice g.vA e.val.length g.vc] 46 (0, 0))) := by rw [hw1]; exact heap_at _ _ rfl
  have HZ1 : Hid (w1.heap.size = w.heap.size + 1) := by rw [hw1]; simp [Hid]
  have HS1 := Lib.hid (h.ext HX1.out)
  have HCALL := Lib.hid (seen1_any (h.ext HX1.out) h1 h2 h3 (Nat.le_trans hB HX1.out.size) (hm.below HX1.out hhi) (Nat.le_trans hhi HX1.out.size) hk)
  have HBF : Hid (bf < w.heap.size ∧ bl < w.heap.size) := ⟨Boxed.lt h.fl, by obtain ⟨A, n, c, hb, _⟩ := h.la; exact Boxed.lt hb⟩
  have HR1 := Lib.hid (boxed_ext hr HX1.out)
  have HDD := Lib.hid hd
  have c0 := cell_of HBX.out (k := 0) rfl
  have c1 := cell_of HBX.out (k := 1) rfl
  have c2 := cell_of HBX.out (k := 2) rfl
  have c3 := cell_of HBX.out (k := 3) rfl
  have b0 := Boxed.cell (boxed_ext hp HX1.out)
  have b1 := Boxed.cell (boxed_ext hq HX1.out)
  have b2 := Boxed.cell HR1.out
  obtain ⟨y, hy⟩ : ∃ y, y = seenB s st e := ⟨_, rfl⟩
  obtain ⟨z, hz⟩ : ∃ z, z = keepB s bottom st e := ⟨_, rfl⟩
  rw [← hz]
  rw [← hy] at HCALL
  have HZ := Lib.hid hz
  have HY := Lib.hid hy
  unfold Ent.at_ at HCALL ⊢
  unfold seenV at b1
  clear h h1 h2 h3 hB hp hq hr hd hm hhi hk hz hy
  go_enter Try.func29, Try.ntmps29
  go_upto_region 1 with (fail)
  rw [← hw1]
  clear hw1
  by_cases hs : s < e.seq
  · have d : decide (s < e.seq) = true := by simp; omega
    obtain rfl : z = true := by rw [HZ.out]; unfold keepB; rw [d]; rfl
    have HN : Hid (seenN s st e = st) := seenN_above hs
    clear hs
    go_wp2_with fail
    go_ret
    exact ⟨rfl, by rw [HN.out]; exact HS1.out, Chg.of_ext HX1.out, LastNew.same (HX1.out.block bl HBF.out.2)⟩
  have d : decide (s < e.seq) = false := by simp; omega
  clear hs
  have hzz : z = (y && !(bottom && decide (e.kind = 2))) := by rw [HZ.out, HY.out]; unfold keepB; rw [d]; rfl
  have HZZ := Lib.hid hzz
  clear hzz
  go_wp2_with fail
  refine HCALL.out.mono ?_
  rintro x w2 ⟨rfl, hs2, hc2, hl2⟩
  have HL2 : Hid (LastNew bl w w2) := hl2.next HX1.out HBF.out.2
  have HB2L : Hid (bl < w2.heap.size) := Nat.lt_of_lt_of_le HBF.out.2 (Nat.le_trans HX1.out.size hc2.size)
  have HS2 := Lib.hid hs2
  have HC2 := Lib.hid hc2
  have HBX2 : Hid (w2.heap[w.heap.size]? = some (.cells #[.slice g.kA e.key.length g.kc, .int .i64 e.seq, .int .i64 e.kind, .slice g.vA e.val.length g.vc] 46 (0, 0))) := (hc2.block w.heap.size (by have := HZ1.out; omega) (fun h => by have := HBF.out; omega)).trans HBX.out
  have c0 := cell_of HBX2.out (k := 0) rfl
  have c1 := cell_of HBX2.out (k := 1) rfl
  have c2 := cell_of HBX2.out (k := 2) rfl
  have c3 := cell_of HBX2.out (k := 3) rfl
  have b2 := Boxed.cell (boxed_chg HR1.out hc2 (fun h => by have := HDD.out; omega))
  have HFIN : Hid (Chg (fun i => i = bf ∨ i = bl) w w2) := (Chg.of_ext HX1.out).trans hc2
  clear hs2 hc2 hl2 b0 b1
  cases y with
  | false =>
    obtain rfl : z = false := HZZ.out
    go_wp2_with fail
    go_ret
    exact ⟨rfl, HS2.out, HFIN.out, HL2.out⟩
  | true =>
    cases bottom with
    | false =>
      obtain rfl : z = true := HZZ.out
      go_wp2_with fail
      go_ret
      exact ⟨rfl, HS2.out, HFIN.out, HL2.out⟩
    | true =>
      obtain ⟨k2, hk2⟩ : ∃ k2, k2 = decide (e.kind = 2) := ⟨_, rfl⟩
      have HDE := Lib.hid (deletes_any (w := w2) (e := e) (g := g))
      rw [← hk2] at HDE
      unfold Ent.at_ at HDE
      obtain rfl : z = !k2 := by rw [HZZ.out, hk2]; rfl
      clear hk2
      go_wp2_with fail
      refine HDE.out.mono ?_
      rintro x w3 ⟨rfl, hx3⟩
      have HS3 := Lib.hid (HS2.out.ext hx3)
      have HL3 : Hid (LastNew bl w w3) := HL2.out.ext hx3 HB2L.out
      have HF3 : Hid (Chg (fun i => i = bf ∨ i = bl) w w3) := HFIN.out.trans (Chg.of_ext hx3)
      clear hx3
      go_wp2_with fail
      go_ret
      exact ⟨rfl, HS3.out, HF3.out, HL3.out⟩
end Go.Proofs.Ytlnihaeeoolkhaa

/- merge's closures of Seen and Clip. -/
namespace Go.Proofs.Ytlnihaeeoolkhaa
open Go.ChangeShapes Go.WideShapes Go.ChangeAt Go.RowKit

/-- Is it handed on by Seen? -/
def seesB (s : Int) (st : Option (List Nat)) (e : Ent) : Bool := seenB s st e && !decide (e.kind = 2)
set_option maxRecDepth 100000 in
set_option maxHeartbeats 8000000 in
theorem sees1_any {w : World} {B bs bf bl bq lo hi : Nat} {s : Int} {st : Option (List Nat)} {e : Ent} {g : Hd} (h : SeenSt w B bs bf bl s st) (h1 : bs ≠ bf) (h2 : bs ≠ bl) (h3 : bf ≠ bl) (hB : B ≤ w.heap.size)
    (hq : Boxed w bq 55 (seenV bs bf bl)) (hm : Em w lo hi e g) (hhi : hi ≤ w.heap.size) (hk : e.key.length ≤ 140737488351232) :
    Calls Try.prog 39 #[e.at_ g, .pointer (some ⟨bq, 0, none⟩)] w fun x w' => x = .returned (.bool (seesB s st e)) ∧ SeenSt w' B bs bf bl s (seenN s st e) ∧ Chg (fun i => i = bf ∨ i = bl) w w' ∧ LastNew bl w w' := by
  obtain ⟨w1, hw1⟩ : ∃ w1, w1 = w.alloc (.cells #[.slice g.kA e.key.length g.kc, .int .i64 e.seq, .int .i64 e.kind, .slice g.vA e.val.length g.vc] 46) := ⟨_, rfl⟩
  have HX1 : Hid (Ext w w1) := by rw [hw1]; exact ext_alloc _ _
  have HBX : Hid (w1.heap[w.heap.size]? = some (.cells #[.slice g.kA e.key.length g.kc, .int .i64 e.seq, .int .i64 e.kind, .slice g.vA e.val.length g.vc] 46 (0, 0))) := by rw [hw1]; exact heap_at _ _ rfl
  have HZ1 : Hid (w1.heap.size = w.heap.size + 1) := by rw [hw1]; simp [Hid]
  have HCALL := Lib.hid (seen1_any (h.ext HX1.out) h1 h2 h3 (Nat.le_trans hB HX1.out.size) (hm.below HX1.out hhi) (Nat.le_trans hhi HX1.out.size) hk)
  have HBF : Hid (bf < w.heap.size ∧ bl < w.heap.size) := ⟨Boxed.lt h.fl, by obtain ⟨A, n, c, hb, _⟩ := h.la; exact Boxed.lt hb⟩
  have c0 := cell_of HBX.out (k := 0) rfl
  have c1 := cell_of HBX.out (k := 1) rfl
  have c2 := cell_of HBX.out (k := 2) rfl
  have c3 := cell_of HBX.out (k := 3) rfl
  have b1 := Boxed.cell (boxed_ext hq HX1.out)
  obtain ⟨y, hy⟩ : ∃ y, y = seenB s st e := ⟨_, rfl⟩
  obtain ⟨z, hz⟩ : ∃ z, z = seesB s st e := ⟨_, rfl⟩
  rw [← hz]
  rw [← hy] at HCALL
  have HZ : Hid (z = (y && !decide (e.kind = 2))) := by rw [Hid, hz, hy]; rfl
  unfold Ent.at_ at HCALL ⊢
  unfold seenV at b1
  clear h h1 h2 h3 hB hq hm hhi hk hz hy
  go_enter Try.func39, Try.ntmps39
  go_upto_region 1 with (fail)
  rw [← hw1]
  clear hw1
  go_wp2_with fail
  refine HCALL.out.mono ?_
  rintro x w2 ⟨rfl, hs2, hc2, hl2⟩
  have HL2 : Hid (LastNew bl w w2) := hl2.next HX1.out HBF.out.2
  have HB2L : Hid (bl < w2.heap.size) := Nat.lt_of_lt_of_le HBF.out.2 (Nat.le_trans HX1.out.size hc2.size)
  have HS2 := Lib.hid hs2
  have HBX2 : Hid (w2.heap[w.heap.size]? = some (.cells #[.slice g.kA e.key.length g.kc, .int .i64 e.seq, .int .i64 e.kind, .slice g.vA e.val.length g.vc] 46 (0, 0))) := (hc2.block w.heap.size (by have := HZ1.out; omega) (fun h => by have := HBF.out; omega)).trans HBX.out
  have c0 := cell_of HBX2.out (k := 0) rfl
  have c1 := cell_of HBX2.out (k := 1) rfl
  have c2 := cell_of HBX2.out (k := 2) rfl
  have c3 := cell_of HBX2.out (k := 3) rfl
  have HFIN : Hid (Chg (fun i => i = bf ∨ i = bl) w w2) := (Chg.of_ext HX1.out).trans hc2
  clear hs2 hc2 hl2 b1
  cases y with
  | false =>
    obtain rfl : z = false := HZ.out
    go_wp2_with fail
    go_ret
    exact ⟨rfl, HS2.out, HFIN.out, HL2.out⟩
  | true =>
    obtain ⟨k2, hk2⟩ : ∃ k2, k2 = decide (e.kind = 2) := ⟨_, rfl⟩
    have HDE := Lib.hid (deletes_any (w := w2) (e := e) (g := g))
    rw [← hk2] at HDE
    unfold Ent.at_ at HDE
    obtain rfl : z = !k2 := by rw [HZ.out, hk2]; rfl
    clear hk2
    go_wp2_with fail
    refine HDE.out.mono ?_
    rintro x w3 ⟨rfl, hx3⟩
    have HS3 := Lib.hid (HS2.out.ext hx3)
    have HL3 : Hid (LastNew bl w w3) := HL2.out.ext hx3 HB2L.out
    have HF3 : Hid (Chg (fun i => i = bf ∨ i = bl) w w3) := HFIN.out.trans (Chg.of_ext hx3)
    clear hx3
    go_wp2_with fail
    go_ret
    exact ⟨rfl, HS3.out, HF3.out, HL3.out⟩

/-- Is its key from fr on, and, if there is an end, below tt? -/
def cutsB (fr tt : List Nat) (en : Bool) (e : Ent) : Bool := !decide (cmpK e.key fr < 0) && (!en || decide (cmpK e.key tt < 0))
set_option maxRecDepth 100000 in
set_option maxHeartbeats 8000000 in
theorem cuts1_any {w : World} {ba be bb lo hi lo2 hi2 fc tc : Nat} {FA TA : Option Addr} {fr tt : List Nat} {en : Bool} {e : Ent} {g : Hd} (ha : Boxed w ba 34 (.slice FA fr.length fc)) (he : Boxed w be 4 (.bool en)) (hb : Boxed w bb 34 (.slice TA tt.length tc))
    (hf : Bs w lo2 hi2 (.slice FA fr.length fc) fr) (ht : Bs w lo2 hi2 (.slice TA tt.length tc) tt) (bf : ∀ x ∈ fr, x < 256) (bt : ∀ x ∈ tt, x < 256) (hh2 : hi2 ≤ w.heap.size) (hm : Em w lo hi e g) (hhi : hi ≤ w.heap.size) :
    Calls Try.prog 33 #[e.at_ g, .pointer (some ⟨ba, 0, none⟩), .pointer (some ⟨be, 0, none⟩), .pointer (some ⟨bb, 0, none⟩)] w fun x w' => x = .returned (.bool (cutsB fr tt en e)) ∧ Ext w w' := by
  obtain ⟨w1, hw1⟩ : ∃ w1, w1 = w.alloc (.cells #[.slice g.kA e.key.length g.kc, .int .i64 e.seq, .int .i64 e.kind, .slice g.vA e.val.length g.vc] 46) := ⟨_, rfl⟩
  have HX1 : Hid (Ext w w1) := by rw [hw1]; exact ext_alloc _ _
  have c0 : w1.cell? ⟨w.heap.size, 0, none⟩ = some (.slice g.kA e.key.length g.kc) := by rw [hw1]; exact cell_of (heap_at _ _ rfl) rfl
  have b0 := Boxed.cell (boxed_ext ha HX1.out)
  have b1 := Boxed.cell (boxed_ext he HX1.out)
  have b2 := Boxed.cell (boxed_ext hb HX1.out)
  obtain ⟨q1, hq1⟩ : ∃ q, q = cmpK e.key fr := ⟨_, rfl⟩
  obtain ⟨q2, hq2⟩ : ∃ q, q = cmpK e.key tt := ⟨_, rfl⟩
  have HC1 := Lib.hid (keys_any (hm.k.below HX1.out hhi) (hf.below HX1.out hh2) hm.bk bf)
  have HC2 := Lib.hid (keys_any (hm.k.below HX1.out hhi) (ht.below HX1.out hh2) hm.bk bt)
  rw [← hq1] at HC1
  rw [← hq2] at HC2
  obtain ⟨z, hz⟩ : ∃ z, z = cutsB fr tt en e := ⟨_, rfl⟩
  rw [← hz]
  have HZ : Hid (z = (!decide (q1 < 0) && (!en || decide (q2 < 0)))) := by rw [Hid, hz, hq1, hq2]; rfl
  unfold Ent.at_
  clear ha he hb hf ht bf bt hh2 hm hhi hz hq1 hq2
  go_enter Try.func33, Try.ntmps33
  go_upto_region 1 with (fail)
  rw [← hw1]
  clear hw1
  by_cases h1 : q1 < 0
  · have d : decide (0 ≤ q1) = false := by simp; omega
    obtain rfl : z = false := by rw [HZ.out, decide_eq_true h1]; rfl
    clear h1
    go_wp2_with fail
    refine HC1.out.mono ?_
    rintro x w2 ⟨rfl, hw⟩
    have hw := hw.symm
    subst hw
    go_wp2_with fail
    go_ret
    exact ⟨rfl, HX1.out⟩
  have d : decide (0 ≤ q1) = true := by simp; omega
  have HZZ : Hid (z = (!en || decide (q2 < 0))) := by rw [Hid, HZ.out, decide_eq_false h1]; rfl
  clear h1
  go_wp2_with fail
  refine HC1.out.mono ?_
  rintro x w2 ⟨rfl, hw⟩
  have hw := hw.symm
  subst hw
  cases en with
  | false =>
    obtain rfl : z = true := HZZ.out
    go_wp2_with fail
    go_ret
    exact ⟨rfl, HX1.out⟩
  | true =>
    have d2 : decide (q2 < 0) = z := by rw [HZZ.out]; rfl
    go_wp2_with fail
    refine HC2.out.mono ?_
    rintro x w2 ⟨rfl, hw⟩
    have hw := hw.symm
    subst hw
    go_wp2_with fail
    go_ret
    exact ⟨rfl, HX1.out⟩
end Go.Proofs.Ytlnihaeeoolkhaa

/- merge's closures, as what only asks of them. -/
namespace Go.Proofs.Ytlnihaeeoolkhaa
open Go.ChangeShapes Go.WideShapes Go.ChangeAt Go.RowKit

theorem wants_each {B0 : Nat} {L : List Ent} : Wants (S := Unit) B0 36 #[] (fun _ _ => true) (fun s _ => s) L (fun _ => False) (fun _ F u => ∀ b, F b → b < u.heap.size) (fun _ => True) where
  more := fun _ _ h _ => h
  keep := fun _ _ _ _ _ h hc _ b hb => Nat.lt_of_lt_of_le (h b hb) hc.size
  lt := fun _ _ _ h => h
  box := fun _ _ _ _ _ h => h.elim
  call := fun _ F u e g h _ _ _ => by
    refine (each_any (w := u) (e := e) (g := g)).mono ?_
    rintro x u' ⟨rfl, hx⟩
    exact ⟨rfl, ⟨F, fun b hb => Nat.lt_of_lt_of_le (h b hb) hx.size, fun b hb => .inl hb⟩, Chg.of_ext hx⟩

theorem SeenSt.chg {u u' : World} {B bs bf bl : Nat} {s : Int} {st : Option (List Nat)} {T : Nat → Prop} (h : SeenSt u B bs bf bl s st) (hc : Chg T u u') (h1 : ¬ T bs) (h2 : ¬ T bf) (h3 : ¬ T bl) (h4 : ∀ v, Boxed u bl 34 v → ∀ g, v.ownBlock = some g → ¬ T g) : SeenSt u' B bs bf bl s st := by
  obtain ⟨A, n, c, g1, g2⟩ := h.la
  refine ⟨boxed_chg h.sq hc h1, boxed_chg h.fl hc h2, A, n, c, boxed_chg g1 hc h3, fun k hk => ?_⟩
  obtain ⟨e, g3, g4⟩ := g2 k hk
  refine ⟨e, row_kept g3 fun g hg => hc.block g (row_lt g3 g hg).2 (h4 _ g1 g (by rw [e]; exact hg)), g4⟩

/-- The state of Keep's and Seen's closures, in the blocks F. -/
structure SeesSt (B bs bf bl bq : Nat) (s : Int) (σ : Option (List Nat)) (F : Nat → Prop) (u : World) : Prop where
  st : SeenSt u B bs bf bl s σ
  sz : B ≤ u.heap.size
  q : Boxed u bq 55 (seenV bs bf bl)
  six : F bs ∧ F bf ∧ F bl ∧ F bq
  key : ∀ v, Boxed u bl 34 v → ∀ g, v.ownBlock = some g → F g
  lt : ∀ b, F b → b < u.heap.size

theorem wants_sees {B0 B bs bf bl bq : Nat} {s : Int} {L : List Ent} (h1 : bs ≠ bf) (h2 : bs ≠ bl) (h3 : bf ≠ bl) (hq : bq ≠ bf ∧ bq ≠ bl) (hb : B0 ≤ bs ∧ B0 ≤ bf ∧ B0 ≤ bl ∧ B0 ≤ bq) (hL : ∀ e ∈ L, e.key.length ≤ 140737488351232) :
    Wants B0 39 #[.pointer (some ⟨bq, 0, none⟩)] (seesB s) (seenN s) L (fun i => i = bs ∨ i = bf ∨ i = bl ∨ i = bq) (SeesSt B bs bf bl bq s) (fun _ => True) where
  more := fun _ _ h _ => h
  keep := fun σ F u u' T h hc hF => ⟨h.st.chg hc (hF _ h.six.1) (hF _ h.six.2.1) (hF _ h.six.2.2.1) (fun v hv g hg => hF g (h.key v hv g hg)), Nat.le_trans h.sz hc.size, boxed_chg h.q hc (hF _ h.six.2.2.2), h.six,
    fun v hv g hg => h.key v ((hc.block bl (h.lt _ h.six.2.2.1) (hF _ h.six.2.2.1)).symm.trans hv) g hg, fun b hb => Nat.lt_of_lt_of_le (h.lt b hb) hc.size⟩
  lt := fun _ _ _ h => h.lt
  box := fun σ F u h b hx => by
    obtain ⟨A, n, c, g1, _⟩ := h.st.la
    have nu : ∀ {b t : Nat} {v : Value}, Boxed u b t v → t ≠ 5 → NotU8 u b := fun {b t v} h9 ht c fz e => by
      have h9 : u.heap[b]? = _ := h9
      rw [h9] at e
      injection e with e
      injection e with _ e
      exact ht e
    rcases hx with rfl | rfl | rfl | rfl
    · exact ⟨hb.1, nu h.st.sq (by decide)⟩
    · exact ⟨hb.2.1, nu h.st.fl (by decide)⟩
    · exact ⟨hb.2.2.1, nu g1 (by decide)⟩
    · exact ⟨hb.2.2.2, nu h.q (by decide)⟩
  call := fun σ F u e g h _ hm he => by
    refine (sees1_any h.st h1 h2 h3 h.sz h.q hm (Nat.le_refl _) (hL e he)).mono ?_
    rintro x u' ⟨rfl, hs, hc, hl⟩
    refine ⟨rfl, ⟨fun b => F b ∨ (u.heap.size ≤ b ∧ b < u'.heap.size), ⟨hs, Nat.le_trans h.sz hc.size, boxed_chg h.q hc (fun h => h.elim hq.1 hq.2), ⟨.inl h.six.1, .inl h.six.2.1, .inl h.six.2.2.1, .inl h.six.2.2.2⟩, fun v hv g hg => ?_, fun b hb => ?_⟩, fun b hb => hb.imp id And.left⟩, hc.mono fun _ _ h => h.elim (fun h => .inr (.inl h)) (fun h => .inr (.inr (.inl h)))⟩
    · rcases hl v hv with h9 | h9
      · exact .inl (h.key v h9 g hg)
      · exact .inr (h9 g hg)
    · rcases hb with hb | hb
      · exact Nat.lt_of_lt_of_le (h.lt b hb) hc.size
      · exact hb.2

theorem wants_keep {B0 B bs bf bl bp bq br : Nat} {s : Int} {bottom : Bool} {L : List Ent} (h1 : bs ≠ bf) (h2 : bs ≠ bl) (h3 : bf ≠ bl) (hq : bq ≠ bf ∧ bq ≠ bl) (hd : br ≠ bf ∧ br ≠ bl) (hb : B0 ≤ bs ∧ B0 ≤ bf ∧ B0 ≤ bl ∧ B0 ≤ bq) (hL : ∀ e ∈ L, e.key.length ≤ 140737488351232) :
    Wants B0 29 #[.pointer (some ⟨bp, 0, none⟩), .pointer (some ⟨bq, 0, none⟩), .pointer (some ⟨br, 0, none⟩)] (keepB s bottom) (seenN s) L (fun i => i = bs ∨ i = bf ∨ i = bl ∨ i = bq) (SeesSt B bs bf bl bq s) (fun A => Boxed A bp 2 (.int .i64 s) ∧ Boxed A br 4 (.bool bottom)) where
  more := fun _ _ h hx => ⟨boxed_ext h.1 hx, boxed_ext h.2 hx⟩
  keep := fun σ F u u' T h hc hF => ⟨h.st.chg hc (hF _ h.six.1) (hF _ h.six.2.1) (hF _ h.six.2.2.1) (fun v hv g hg => hF g (h.key v hv g hg)), Nat.le_trans h.sz hc.size, boxed_chg h.q hc (hF _ h.six.2.2.2), h.six,
    fun v hv g hg => h.key v ((hc.block bl (h.lt _ h.six.2.2.1) (hF _ h.six.2.2.1)).symm.trans hv) g hg, fun b hb => Nat.lt_of_lt_of_le (h.lt b hb) hc.size⟩
  lt := fun _ _ _ h => h.lt
  box := fun σ F u h b hx => by
    obtain ⟨A, n, c, g1, _⟩ := h.st.la
    have nu : ∀ {b t : Nat} {v : Value}, Boxed u b t v → t ≠ 5 → NotU8 u b := fun {b t v} h9 ht c fz e => by
      have h9 : u.heap[b]? = _ := h9
      rw [h9] at e
      injection e with e
      injection e with _ e
      exact ht e
    rcases hx with rfl | rfl | rfl | rfl
    · exact ⟨hb.1, nu h.st.sq (by decide)⟩
    · exact ⟨hb.2.1, nu h.st.fl (by decide)⟩
    · exact ⟨hb.2.2.1, nu g1 (by decide)⟩
    · exact ⟨hb.2.2.2, nu h.q (by decide)⟩
  call := fun σ F u e g h hpr hm he => by
    refine (keep1_any h.st h1 h2 h3 h.sz hpr.1 h.q hpr.2 hd hm (Nat.le_refl _) (hL e he)).mono ?_
    rintro x u' ⟨rfl, hs, hc, hl⟩
    refine ⟨rfl, ⟨fun b => F b ∨ (u.heap.size ≤ b ∧ b < u'.heap.size), ⟨hs, Nat.le_trans h.sz hc.size, boxed_chg h.q hc (fun h => h.elim hq.1 hq.2), ⟨.inl h.six.1, .inl h.six.2.1, .inl h.six.2.2.1, .inl h.six.2.2.2⟩, fun v hv g hg => ?_, fun b hb => ?_⟩, fun b hb => hb.imp id And.left⟩, hc.mono fun _ _ h => h.elim (fun h => .inr (.inl h)) (fun h => .inr (.inr (.inl h)))⟩
    · rcases hl v hv with h9 | h9
      · exact .inl (h.key v h9 g hg)
      · exact .inr (h9 g hg)
    · rcases hb with hb | hb
      · exact Nat.lt_of_lt_of_le (h.lt b hb) hc.size
      · exact hb.2

/-- The state of Clip's closure, in the blocks F: its boxes and what it copied. -/
structure CutsSt (B ba be bb : Nat) (fr tt : List Nat) (fv tv : Value) (en : Bool) (F : Nat → Prop) (u : World) : Prop where
  a : Boxed u ba 34 fv
  e : Boxed u be 4 (.bool en)
  b : Boxed u bb 34 tv
  f : Own B fr fv u
  t : Own B tt tv u
  three : F ba ∧ F be ∧ F bb
  kf : ∀ g, fv.ownBlock = some g → F g
  kt : ∀ g, tv.ownBlock = some g → F g
  lt : ∀ b, F b → b < u.heap.size
theorem CutsSt.chg {B ba be bb : Nat} {fr tt : List Nat} {fv tv : Value} {en : Bool} {F T : Nat → Prop} {u u' : World} (h : CutsSt B ba be bb fr tt fv tv en F u) (hc : Chg T u u') (hF : ∀ b, F b → ¬ T b) : CutsSt B ba be bb fr tt fv tv en F u' :=
  ⟨boxed_chg h.a hc (hF _ h.three.1), boxed_chg h.e hc (hF _ h.three.2.1), boxed_chg h.b hc (hF _ h.three.2.2),
    row_kept h.f fun g hg => hc.block g (row_lt h.f g hg).2 (hF _ (h.kf g hg)), row_kept h.t fun g hg => hc.block g (row_lt h.t g hg).2 (hF _ (h.kt g hg)), h.three, h.kf, h.kt, fun b hb => Nat.lt_of_lt_of_le (h.lt b hb) hc.size⟩

theorem CutsSt.ext {B ba be bb : Nat} {fr tt : List Nat} {fv tv : Value} {en : Bool} {F : Nat → Prop} {u u' : World} (h : CutsSt B ba be bb fr tt fv tv en F u) (hx : Ext u u') : CutsSt B ba be bb fr tt fv tv en F u' := h.chg (T := fun _ => False) (Chg.of_ext hx) (fun _ _ h => h)
theorem wants_cuts {B0 B ba be bb : Nat} {fr tt : List Nat} {fv tv : Value} {en : Bool} {F0 : Nat → Prop} {L : List Ent} (bf : ∀ x ∈ fr, x < 256) (bt : ∀ x ∈ tt, x < 256) :
    Wants (S := Unit) B0 33 #[.pointer (some ⟨ba, 0, none⟩), .pointer (some ⟨be, 0, none⟩), .pointer (some ⟨bb, 0, none⟩)] (fun _ e => cutsB fr tt en e) (fun s _ => s) L (fun _ => False) (fun _ F u => ∀ b, F b → b < u.heap.size) (CutsSt B ba be bb fr tt fv tv en F0) where
  more := fun _ _ h hx => h.ext hx
  keep := fun _ _ _ _ _ h hc _ b hb => Nat.lt_of_lt_of_le (h b hb) hc.size
  lt := fun _ _ _ h => h
  box := fun _ _ _ _ _ h => h.elim
  call := fun _ F u e g hu h hm _ => by
    obtain ⟨FA, fc, hfe⟩ := h.f.slice
    obtain ⟨TA, tc, hte⟩ := h.t.slice
    have hbf := h.f.bs
    have hbt := h.t.bs
    have ha := h.a
    have hb := h.b
    rw [hfe] at hbf ha
    rw [hte] at hbt hb
    refine (cuts1_any ha h.e hb hbf hbt bf bt (Nat.le_refl _) hm (Nat.le_refl _)).mono ?_
    rintro x u' ⟨rfl, hx⟩
    exact ⟨rfl, ⟨F, fun b hb => Nat.lt_of_lt_of_le (hu b hb) hx.size, fun b hb => .inl hb⟩, Chg.of_ext hx⟩
end Go.Proofs.Ytlnihaeeoolkhaa

/- The functions that make merge's closures. -/
namespace Go.Proofs.Ytlnihaeeoolkhaa
open Go.ChangeShapes Go.WideShapes Go.ChangeAt Go.RowKit

theorem boxed_alloc {w : World} {t : TypeId} {v : Value} : Boxed (w.alloc (.cells #[v] t)) w.heap.size t v := heap_at _ _ rfl

set_option maxRecDepth 100000 in
set_option maxHeartbeats 8000000 in
theorem only_any {w : World} {f h : Fn} {lb lb2 : Array Value} : Calls Try.prog 28 #[.func f #[] lb, .func h #[] lb2] w fun x w' => ∃ b1 b2, x = .returned (.func (.func 46) #[] #[.pointer (some ⟨b1, 0, none⟩), .pointer (some ⟨b2, 0, none⟩)]) ∧ b1 ≠ b2 ∧ w.heap.size ≤ b1 ∧ w.heap.size ≤ b2 ∧
    Boxed w' b1 27 (.func f #[] lb) ∧ Boxed w' b2 55 (.func h #[] lb2) ∧ Ext w w' := by
  go_enter Try.func28, Try.ntmps28
  go_wp2_with fail
  go_ret
  have e : (w.alloc (.cells #[.func f #[] lb] 27)).heap.size = w.heap.size + 1 := by simp
  refine ⟨w.heap.size, w.heap.size + 1, rfl, by omega, Nat.le_refl _, by omega, boxed_ext boxed_alloc (ext_alloc _ _), ?_, (ext_alloc _ _).trans (ext_alloc _ _)⟩
  rw [← e]
  exact boxed_alloc

set_option maxRecDepth 100000 in
set_option maxHeartbeats 8000000 in
theorem seenAt_any {w : World} {B : Nat} {s : Int} : Calls Try.prog 27 #[.int .i64 s] w fun x w' => ∃ bs bf bl, x = .returned (seenV bs bf bl) ∧ (bs ≠ bf ∧ bs ≠ bl ∧ bf ≠ bl) ∧ (w.heap.size ≤ bs ∧ w.heap.size ≤ bf ∧ w.heap.size ≤ bl) ∧ SeenSt w' B bs bf bl s none ∧ Ext w w' ∧ Boxed w' bl 34 (.slice none 0 0) := by
  go_enter Try.func27, Try.ntmps27
  go_wp2_with fail
  go_ret
  have e1 : (w.alloc (.cells #[.int .i64 s] 2)).heap.size = w.heap.size + 1 := by simp
  have e2 : ((w.alloc (.cells #[.int .i64 s] 2)).alloc (.cells #[.slice none 0 0] 34)).heap.size = w.heap.size + 1 + 1 := by simp
  have x3 := ext_alloc ((w.alloc (.cells #[.int .i64 s] 2)).alloc (.cells #[.slice none 0 0] 34)) (.cells #[.bool true] 4)
  have x2 := ext_alloc (w.alloc (.cells #[.int .i64 s] 2)) (.cells #[.slice none 0 0] 34)
  have bl : Boxed (((w.alloc (.cells #[.int .i64 s] 2)).alloc (.cells #[.slice none 0 0] 34)).alloc (.cells #[.bool true] 4)) (w.heap.size + 1) 34 (.slice none 0 0) := by
    rw [← e1]
    exact boxed_ext boxed_alloc x3
  have bf : Boxed (((w.alloc (.cells #[.int .i64 s] 2)).alloc (.cells #[.slice none 0 0] 34)).alloc (.cells #[.bool true] 4)) (w.heap.size + 1 + 1) 4 (.bool true) := by
    rw [← e2]
    exact boxed_alloc
  exact ⟨w.heap.size, w.heap.size + 1 + 1, w.heap.size + 1, rfl, by omega, by omega, ⟨boxed_ext (boxed_ext boxed_alloc x2) x3, bf, none, 0, 0, bl, fun k hk => by cases hk⟩, ((ext_alloc _ _).trans x2).trans x3, bl⟩

set_option maxRecDepth 100000 in
set_option maxHeartbeats 8000000 in
theorem mkeep_any {w : World} {f : Fn} {lb : Array Value} {s : Int} {bt : Bool} : Calls Try.prog 10 #[.func f #[] lb, .int .i64 s, .bool bt] w fun x w' => ∃ bp ba bb, x = .returned (.func (.func 26) #[] #[.pointer (some ⟨bp, 0, none⟩), .pointer (some ⟨ba, 0, none⟩), .pointer (some ⟨bb, 0, none⟩)]) ∧ (w.heap.size ≤ bp ∧ w.heap.size ≤ ba ∧ w.heap.size ≤ bb) ∧
    Boxed w' bp 2 (.int .i64 s) ∧ Boxed w' ba 27 (.func f #[] lb) ∧ Boxed w' bb 4 (.bool bt) ∧ Ext w w' := by
  go_enter Try.func10, Try.ntmps10
  go_wp2_with fail
  go_ret
  have e1 : (w.alloc (.cells #[.func f #[] lb] 27)).heap.size = w.heap.size + 1 := by simp
  have e2 : ((w.alloc (.cells #[.func f #[] lb] 27)).alloc (.cells #[.int .i64 s] 2)).heap.size = w.heap.size + 1 + 1 := by simp
  have x3 := ext_alloc ((w.alloc (.cells #[.func f #[] lb] 27)).alloc (.cells #[.int .i64 s] 2)) (.cells #[.bool bt] 4)
  have x2 := ext_alloc (w.alloc (.cells #[.func f #[] lb] 27)) (.cells #[.int .i64 s] 2)
  refine ⟨w.heap.size + 1, w.heap.size, w.heap.size + 1 + 1, rfl, by omega, ?_, boxed_ext (boxed_ext boxed_alloc x2) x3, ?_, ((ext_alloc _ _).trans x2).trans x3⟩
  · rw [← e1]
    exact boxed_ext boxed_alloc x3
  · rw [← e2]
    exact boxed_alloc

set_option maxRecDepth 100000 in
set_option maxHeartbeats 8000000 in
theorem mseen_any {w : World} {f : Fn} {lb : Array Value} {s : Int} : Calls Try.prog 19 #[.func f #[] lb, .int .i64 s] w fun x w' => ∃ bp ba, x = .returned (.func (.func 38) #[] #[.pointer (some ⟨bp, 0, none⟩), .pointer (some ⟨ba, 0, none⟩)]) ∧ (w.heap.size ≤ bp ∧ w.heap.size ≤ ba) ∧
    Boxed w' bp 2 (.int .i64 s) ∧ Boxed w' ba 27 (.func f #[] lb) ∧ Ext w w' := by
  go_enter Try.func19, Try.ntmps19
  go_wp2_with fail
  go_ret
  have e1 : (w.alloc (.cells #[.func f #[] lb] 27)).heap.size = w.heap.size + 1 := by simp
  have x2 := ext_alloc (w.alloc (.cells #[.func f #[] lb] 27)) (.cells #[.int .i64 s] 2)
  refine ⟨w.heap.size + 1, w.heap.size, rfl, by omega, ?_, boxed_ext boxed_alloc x2, (ext_alloc _ _).trans x2⟩
  rw [← e1]
  exact boxed_alloc

set_option maxRecDepth 100000 in
set_option maxHeartbeats 8000000 in
theorem mclip_any {w : World} {f : Fn} {lb : Array Value} {A A2 : Option Addr} {c c2 lo hi : Nat} {fr tt : List Nat} {en : Bool} (hf : Bs w lo hi (.slice A fr.length c) fr) (ht : Bs w lo hi (.slice A2 tt.length c2) tt) (hhi : hi ≤ w.heap.size) (lf_ : fr.length ≤ 140737488351232) (lt_ : tt.length ≤ 140737488351232) : Calls Try.prog 15 #[.func f #[] lb, .slice A fr.length c, .slice A2 tt.length c2, .bool en] w fun x w' => ∃ ba be bb fv tv N b1 b2, x = .returned (.func (.func 46) #[] #[.pointer (some ⟨b1, 0, none⟩), .pointer (some ⟨b2, 0, none⟩)]) ∧ b1 ≠ b2 ∧ w.heap.size ≤ N ∧ N ≤ b1 ∧ N ≤ b2 ∧
    Boxed w' b1 27 (.func f #[] lb) ∧ Boxed w' b2 55 (.func (.func 33) #[] #[.pointer (some ⟨ba, 0, none⟩), .pointer (some ⟨be, 0, none⟩), .pointer (some ⟨bb, 0, none⟩)]) ∧
    CutsSt w.heap.size ba be bb fr tt fv tv en (fun b => w.heap.size ≤ b ∧ b < N) w' ∧ Ext w w' := by
  go_enter Try.func15, Try.ntmps15
  go_wp2_with fail
  have x1 := ext_alloc w (.cells #[.bool en] 4)
  have HX1 := Lib.hid x1
  have HE : Hid (Boxed (w.alloc (.cells #[.bool en] 4)) w.heap.size 4 (.bool en)) := boxed_alloc
  refine (clone_wide _ lo hi fr _ (hf.below x1 hhi) (Nat.le_trans hhi x1.size) lf_).mono ?_
  rintro x w2 ⟨v1, rfl, ho1, hx1⟩
  have x2 : Ext w w2 := x1.trans hx1
  have HX2 := Lib.hid x2
  have HXE : Hid (Ext (w.alloc (.cells #[.bool en] 4)) w2) := hx1
  have HO1 := Lib.hid ho1
  go_wp2_with fail
  refine (clone_wide _ lo hi tt _ (ht.below x2 hhi) (Nat.le_trans hhi x2.size) lt_).mono ?_
  rintro x w3 ⟨v2, rfl, ho2, hx2⟩
  have HX3 : Hid (Ext w2 w3) := hx2
  have HO2 := Lib.hid ho2
  obtain ⟨A3, c3, rfl⟩ := Own.slice ho1
  obtain ⟨A4, c4, rfl⟩ := Own.slice ho2
  clear ho1 ho2 hx1 hx2 x1 x2 hf ht hhi lf_ lt_
  go_wp2_with fail
  have x4 := ext_alloc w3 (.cells #[.slice A3 fr.length c3] 34)
  have x5 := ext_alloc (w3.alloc (.cells #[.slice A3 fr.length c3] 34)) (.cells #[.slice A4 tt.length c4] 34)
  have x0 := HX2.out.trans HX3.out
  have s2 := (ext_alloc w (.cells #[.bool en] 4)).size
  have s3 := HX2.out.size
  have s4 := HX3.out.size
  have hN : ((w3.alloc (.cells #[.slice A3 fr.length c3] 34)).alloc (.cells #[.slice A4 tt.length c4] 34)).heap.size = w3.heap.size + 1 + 1 := by simp
  have e4 : (w3.alloc (.cells #[.slice A3 fr.length c3] 34)).heap.size = w3.heap.size + 1 := by simp
  have hst : CutsSt w.heap.size w3.heap.size w.heap.size (w3.heap.size + 1) fr tt (.slice A3 fr.length c3) (.slice A4 tt.length c4) en (fun b => w.heap.size ≤ b ∧ b < w3.heap.size + 1 + 1) ((w3.alloc (.cells #[.slice A3 fr.length c3] 34)).alloc (.cells #[.slice A4 tt.length c4] 34)) := by
    have o1 : Own w.heap.size fr (.slice A3 fr.length c3) w2 := Own.base HO1.out s2
    have o2 : Own w.heap.size tt (.slice A4 tt.length c4) w3 := Own.base HO2.out s3
    refine ⟨boxed_ext boxed_alloc x5, ?_, ?_, ((o1.below HX3.out).below x4).below x5, (o2.below x4).below x5, ⟨⟨by omega, by omega⟩, ⟨by omega, by omega⟩, ⟨by omega, by omega⟩⟩, fun g hg => ?_, fun g hg => ?_, fun b hb => by rw [hN]; exact hb.2⟩
    · exact boxed_ext (boxed_ext (boxed_ext (boxed_ext HE.out HXE.out) HX3.out) x4) x5
    · rw [← e4]
      exact boxed_alloc
    · have := row_lt o1 g hg
      omega
    · have := row_lt o2 g hg
      omega
  refine only_any.mono ?_
  rintro x w6 ⟨b1, b2, rfl, hne, h1, h2, hb1, hb2, hx6⟩
  rw [hN] at h1 h2
  have hfin : CutsSt w.heap.size w3.heap.size w.heap.size (w3.heap.size + 1) fr tt (.slice A3 fr.length c3) (.slice A4 tt.length c4) en (fun b => w.heap.size ≤ b ∧ b < w3.heap.size + 1 + 1) w6 := hst.chg (T := fun _ => False) (Chg.of_ext hx6) (fun _ _ h => h)
  have HFIN := Lib.hid hfin
  have HB1 := Lib.hid hb1
  have HB2 := Lib.hid hb2
  have HX6 : Hid (Ext w w6) := ((x0.trans x4).trans x5).trans hx6
  clear hfin hst hb1 hb2 hx6 x4 x5 x0 e4 hN
  go_wp2_with fail
  go_ret
  exact ⟨w3.heap.size, w.heap.size, w3.heap.size + 1, _, _, w3.heap.size + 1 + 1, b1, b2, rfl, hne, by omega, h1, h2, HB1.out, HB2.out, HFIN.out, HX6.out⟩

/-- The law's Of. -/
theorem of_any {w : World} {v : Value} (hv : ∀ cs, v ≠ .agg cs) : Calls Try.prog 11 #[v] w fun x w' => ∃ b, x = .returned (.func (.func 31) #[] #[.pointer (some ⟨b, 0, none⟩)]) ∧ w.heap.size ≤ b ∧ Boxed w' b 22 v ∧ Ext w w' := by
  go_enter Try.func11, Try.ntmps11
  go_wp2_with fail
  all_goals first
    | exact absurd rfl (hv _)
    | (go_ret; exact ⟨_, rfl, Nat.le_refl _, boxed_alloc, ext_alloc _ _⟩)
end Go.Proofs.Ytlnihaeeoolkhaa

/- The program's Keep goes over what is wanted (merge). -/
namespace Go.Proofs.Ytlnihaeeoolkhaa
open Go.ChangeShapes Go.WideShapes Go.ChangeAt Go.RowKit

set_option maxRecDepth 100000 in
set_option maxHeartbeats 8000000 in
theorem keepfn_iter {L : List Ent} {gf B0 bp ba bb : Nat} {lb : Array Value} {s : Int} {bottom : Bool} {C0 : World → Prop} {w : World}
    (hall : ∀ u, Ext w u → MIter gf lb B0 L C0 (fun _ => False) u) (eg : ∀ args w, (callFunc gf args).run Try.prog w = .ok (.enter gf args) w) (hB0 : B0 ≤ w.heap.size) (hkl : ∀ e ∈ L, e.key.length ≤ 140737488351232 ∧ e.val.length ≤ 140737488351232) :
    MIter 26 #[.pointer (some ⟨bp, 0, none⟩), .pointer (some ⟨ba, 0, none⟩), .pointer (some ⟨bb, 0, none⟩)] B0 (wantL (keepB s bottom) (seenN s) none L) (fun A => C0 A ∧ Boxed A bp 2 (.int .i64 s) ∧ Boxed A ba 27 (.func (.func gf) #[] lb) ∧ Boxed A bb 4 (.bool bottom)) (fun _ => False) w := by
  intro mm lab J Jx W hx hC hJ hJx h0 hY
  have HC := Lib.hid hC
  have HJ := Lib.hid hJ
  have HJX := Lib.hid hJx
  have HY := Lib.hid hY
  have HXw := Lib.hid hx
  have HALL := Lib.hid hall
  have HB0 := Lib.hid hB0
  have HKL := Lib.hid hkl
  have HEG := Lib.hid eg
  have HJ0 := Lib.hid h0
  obtain ⟨h00, hb1, hb2, hb3⟩ := hC _ _ _ _ (h0 W (fun _ => False) (fun _ => False) (Ext.refl _) (fun _ h => h.elim) (fun _ h => h.elim))
  have HPA := Lib.hid (And.intro hb1 (And.intro hb2 hb3))
  have c1 := Boxed.cell hb1
  clear hall eg hB0 hkl hC hJ hJx h0 hY hx h00 hb1 hb2 hb3
  simp only [List.append_toArray, List.cons_append, List.nil_append]
  go_enter Try.func26, Try.ntmps26
  go_wp2_with fail
  refine (seenAt_any (B := 0)).mono ?_
  rintro x W1 ⟨bs, bf, bl, rfl, hne, hlo, hst, hx1, hbl⟩
  have hx2 := ext_alloc W1 (.cells #[seenV bs bf bl] 55)
  have HQ : Hid (Boxed (W1.alloc (.cells #[seenV bs bf bl] 55)) W1.heap.size 55 (seenV bs bf bl)) := boxed_alloc
  have HZ2 : Hid ((W1.alloc (.cells #[seenV bs bf bl] 55)).heap.size = W1.heap.size + 1) := by simp [Hid]
  obtain ⟨W2, hW2⟩ : ∃ W2, W2 = W1.alloc (.cells #[seenV bs bf bl] 55) := ⟨_, rfl⟩
  rw [← hW2] at hx2 HQ HZ2
  have c2 := Boxed.cell (boxed_ext HPA.out.2.1 (hx1.trans hx2))
  have HNE := Lib.hid (And.intro hne hlo)
  have HST := Lib.hid hst
  have HX1 := Lib.hid hx1
  have HX2 := Lib.hid hx2
  have HBL := Lib.hid hbl
  have HW2 := Lib.hid hW2
  clear hne hlo hst hx1 hx2 hbl
  unfold seenV at hW2 ⊢
  rw [hW2] at c2
  go_wp2_with fail
  rw [← hW2]
  clear hW2 c2
  refine only_any.mono ?_
  rintro x W3 ⟨b1, b2, rfl, hn12, hl1, hl2, hB1, hB2, hx3⟩
  have HX3 := Lib.hid hx3
  have HBB := Lib.hid (And.intro hB1 hB2)
  have HLB := Lib.hid (And.intro hl1 hl2)
  clear hn12 hl1 hl2 hB1 hB2 hx3
  go_wp2_with fail
  have hw3 : Ext W W3 := (HX1.out.trans HX2.out).trans HX3.out
  have s0 := HXw.out.size
  have s1 := HX1.out.size
  have s2 := HZ2.out
  have s3 := HX3.out.size
  have p1 := HPA.out.2.2.lt
  have p2 := HB0.out
  obtain ⟨⟨n1, n2, n3⟩, q1, q2, q3⟩ := HNE.out
  have t1 := HST.out.sq.lt
  have t2 := HST.out.fl.lt
  have t3 := HBL.out.lt
  have t4 := HBB.out.1.lt
  have t5 := HBB.out.2.lt
  have l1 := HLB.out.1
  have l2 := HLB.out.2
  have hsees : SeesSt 0 bs bf bl W1.heap.size s none (fun i => i = bs ∨ i = bf ∨ i = bl ∨ i = W1.heap.size) W3 := by
    refine ⟨(HST.out.ext HX2.out).ext HX3.out, Nat.zero_le _, boxed_ext HQ.out HX3.out, ⟨.inl rfl, .inr (.inl rfl), .inr (.inr (.inl rfl)), .inr (.inr (.inr rfl))⟩, fun v hv g hg => ?_, fun b hb => by omega⟩
    rw [boxed_one hv (boxed_ext (boxed_ext HBL.out HX2.out) HX3.out)] at hg
    cases hg
  have hit := only_iter (b1 := b1) (b2 := b2) (C0 := C0) (w := W3) (fun u hu => HALL.out u (HXw.out.trans (hw3.trans hu))) HEG.out (enters_of Try.func29 (by kernel_rfl) rfl)
    (wants_keep (B0 := B0) (B := 0) (bp := bp) (br := bb) (s := s) (bottom := bottom) (L := L) n1 n2 n3 (by omega) (by omega) (by omega) (fun e he => (HKL.out e he).1)) hsees (fun _ h => h) (fun b hb => by omega) (by omega) HKL.out
  have hr := hit mm lab (fun D K k A => J D (fun i => K i ∨ i = b1 ∨ i = b2) k A ∧ Boxed A b1 27 (.func (.func gf) #[] lb) ∧ Boxed A b2 55 (.func (.func 29) #[] #[.pointer (some ⟨bp, 0, none⟩), .pointer (some ⟨W1.heap.size, 0, none⟩), .pointer (some ⟨bb, 0, none⟩)]) ∧ ¬ D b1 ∧ ¬ D b2) Jx W3 (Ext.refl _)
    (fun D K k A h => ⟨(HC.out _ _ _ _ h.1).1, h.2.1, h.2.2.1, (HC.out _ _ _ _ h.1).2.1, (HC.out _ _ _ _ h.1).2.2.2⟩)
    (fun D K k A D' K' A' h hc hD hK => ⟨HJ.out _ _ _ _ _ _ _ h.1 hc hD (fun i hi => by
        rcases hi with hi | hi
        · exact (hK i hi).imp .inl id
        · exact .inl (.inr hi)), boxed_chg h.2.1 hc h.2.2.2.1, boxed_chg h.2.2.1 hc h.2.2.2.2,
      fun hd => (hD _ hd).elim h.2.2.2.1 (fun h9 => by have := h.2.1.lt; omega), fun hd => (hD _ hd).elim h.2.2.2.2 (fun h9 => by have := h.2.2.1.lt; omega)⟩)
    HJX.out
    (fun A D K hA hD hK => ⟨HJ0.out A D _ (hw3.trans hA) (fun i hi => .inr (by have := hD i hi; omega)) (fun i hi => .inr (by
        rcases hi with hi | hi
        · have := hK i hi; omega
        · omega)), boxed_ext HBB.out.1 hA, boxed_ext HBB.out.2 hA, fun hd => by have := hD _ hd; omega, fun hd => by have := hD _ hd; omega⟩)
    (fun D K k x A hD hK hj hok => by
      have hsz := hj.2.1.lt
      have hsz2 := hj.2.2.1.lt
      refine (HY.out D (fun i => K i ∨ i = b1 ∨ i = b2) k x A (fun i hi => ⟨.inr (by have := (hD i hi).1; omega), (hD i hi).2⟩) (fun i hi => ?_) hj.1 hok).mono ?_
      · rcases hi with hi | hi
        · exact ⟨.inr (by have := (hK i hi).1; omega), (hK i hi).2⟩
        · exact ⟨.inr (by omega), by omega⟩
      · rintro e A' ⟨hs, h9⟩
        refine ⟨hs.mono fun i h => .inl h, h9.imp (fun h => ⟨h.1, h.2, ?_, ?_, hj.2.2.2⟩) id⟩
        · exact (hs.stay b1 (.inr (.inl rfl)) hsz).trans hj.2.1
        · exact (hs.stay b2 (.inr (.inr rfl)) hsz2).trans hj.2.2.1)
  simp only [List.append_toArray, List.cons_append, List.nil_append] at hr
  refine hr.mono ?_
  rintro x W4 ⟨⟨v, rfl⟩, hfin⟩
  have HFIN : Hid ((∃ D K k, J D K k W4 ∧ MEnd (wantL (keepB s bottom) (seenN s) none L) k) ∨ ∃ D, Jx D W4) := hfin.imp (fun ⟨D, K, k, h, hk⟩ => ⟨D, _, k, h.1, hk⟩) id
  clear hfin hr hit hsees hw3
  go_wp2_with fail
  refine bodyPost_end (results_none rfl _ _ _) rfl ?_
  exact ⟨⟨_, rfl⟩, HFIN.out⟩

theorem clipfn_iter {L : List Ent} {gf B0 B b1 b2 ba be bb : Nat} {lb : Array Value} {fr tt : List Nat} {fv tv : Value} {en : Bool} {F0 : Nat → Prop} {C0 : World → Prop} {w : World} (bf : ∀ x ∈ fr, x < 256) (bt : ∀ x ∈ tt, x < 256)
    (hall : ∀ u, Ext w u → MIter gf lb B0 L C0 (fun _ => False) u) (eg : ∀ args w, (callFunc gf args).run Try.prog w = .ok (.enter gf args) w) (hB0 : B0 ≤ w.heap.size) (hkl : ∀ e ∈ L, e.key.length ≤ 140737488351232 ∧ e.val.length ≤ 140737488351232) :
    MIter 46 #[.pointer (some ⟨b1, 0, none⟩), .pointer (some ⟨b2, 0, none⟩)] B0 (wantL (fun _ e => cutsB fr tt en e) (fun s _ => s) () L) (fun A => C0 A ∧ Boxed A b1 27 (.func (.func gf) #[] lb) ∧ Boxed A b2 55 (.func (.func 33) #[] #[.pointer (some ⟨ba, 0, none⟩), .pointer (some ⟨be, 0, none⟩), .pointer (some ⟨bb, 0, none⟩)]) ∧ CutsSt B ba be bb fr tt fv tv en F0 A) (fun _ => False) w :=
  only_iter (F0 := fun _ => False) hall eg (enters_of Try.func33 (by kernel_rfl) rfl) (wants_cuts bf bt) (fun _ h => h.elim) (fun _ h => h) (fun _ h => h.elim) hB0 hkl
/-- Of what only goes over where each is wanted. -/
theorem eachfn_iter {L : List Ent} {gf B0 b1 b2 : Nat} {lb : Array Value} {C0 : World → Prop} {w : World}
    (hall : ∀ u, Ext w u → MIter gf lb B0 L C0 (fun _ => False) u) (eg : ∀ args w, (callFunc gf args).run Try.prog w = .ok (.enter gf args) w) (hB0 : B0 ≤ w.heap.size) (hkl : ∀ e ∈ L, e.key.length ≤ 140737488351232 ∧ e.val.length ≤ 140737488351232) :
    MIter 46 #[.pointer (some ⟨b1, 0, none⟩), .pointer (some ⟨b2, 0, none⟩)] B0 (wantL (fun (_ : Unit) _ => true) (fun s _ => s) () L) (fun A => C0 A ∧ Boxed A b1 27 (.func (.func gf) #[] lb) ∧ Boxed A b2 55 (.func (.func 36) #[] #[]) ∧ True) (fun _ => False) w :=
  only_iter (F0 := fun _ => False) hall eg (enters_of Try.func36 (by kernel_rfl) rfl) wants_each (fun _ h => h.elim) (fun _ h => h) (fun _ h => h.elim) hB0 hkl
theorem eachfn_iterN {L : List Ent} {gf B0 b1 b2 : Nat} {lb : Array Value} {C0 : World → Prop} {w : World}
    (hall : ∀ u, Ext w u → MIter gf lb B0 L C0 (fun _ => False) u) (eg : ∀ args w, (callFunc gf args).run Try.prog w = .ok (.enter gf args) w) (hB0 : B0 ≤ w.heap.size) (hkl : ∀ e ∈ L, e.key.length ≤ 140737488351232 ∧ e.val.length ≤ 140737488351232) :
    NIter 46 #[.pointer (some ⟨b1, 0, none⟩), .pointer (some ⟨b2, 0, none⟩)] B0 w.heap.size (wantL (fun (_ : Unit) _ => true) (fun s _ => s) () L) (fun A => C0 A ∧ Boxed A b1 27 (.func (.func gf) #[] lb) ∧ Boxed A b2 55 (.func (.func 36) #[] #[]) ∧ True) (fun _ => False) w :=
  only_iterN (F0 := fun _ => False) hall eg (enters_of Try.func36 (by kernel_rfl) rfl) wants_each (fun _ h => h.elim) (fun _ h => h) (fun _ h => h.elim) hB0 hkl
theorem wantL_all {L : List Ent} : wantL (fun (_ : Unit) (_ : Ent) => true) (fun s _ => s) () L = L := by
  induction L with
  | nil => rfl
  | cons a L ih => simp [wantL, ih]
theorem wantL_cuts {L : List Ent} {f : Ent → Bool} : wantL (fun (_ : Unit) e => f e) (fun s _ => s) () L = L.filter f := by
  induction L with
  | nil => rfl
  | cons a L ih => cases h : f a <;> simp [wantL, ih, h]
end Go.Proofs.Ytlnihaeeoolkhaa

/- Functions that go over entries, as what one asks of them; the lists that Join gathers (merge). -/
namespace Go.Proofs.Ytlnihaeeoolkhaa
open Go.ChangeShapes Go.WideShapes Go.ChangeAt Go.RowKit Go.Shelf

theorem IterX.weaken {P : Program} {α : Type} {gf : Nat} {lb : Array Value} {encs : α → Array Value} {Ok : (Nat → Prop) → (Nat → Prop) → Nat → α → World → Prop} {Done : Nat → Prop} {C C' : World → Prop} {X : Nat → Prop} {w : World} (h : IterX P gf lb encs Ok Done C X w) (hC : ∀ A, C' A → C A) : IterX P gf lb encs Ok Done C' X w :=
  fun m l J Jx W h1 h2 h3 h4 h5 hY => h m l J Jx W h1 (fun D K k A hj => hC A (h2 D K k A hj)) h3 h4 h5 hY
/-- A func value that goes over these, as long as all that was there stays. -/
structure Goes (gf : Nat) (lb : Array Value) (B0 : Nat) (L : List Ent) (w : World) : Prop where
  it : ∀ u, Ext w u → MIter gf lb B0 L (fun A => Below w.heap.size w A) (fun _ => False) u
  en : ∀ args w, (callFunc gf args).run Try.prog w = .ok (.enter gf args) w
  b : B0 ≤ w.heap.size
  len : L.length ≤ 1000000
  kl : ∀ e ∈ L, e.key.length ≤ 140737488351232 ∧ e.val.length ≤ 140737488351232
theorem Goes.ext {gf B0 : Nat} {lb : Array Value} {L : List Ent} {w w' : World} (h : Goes gf lb B0 L w) (hx : Ext w w') : Goes gf lb B0 L w' :=
  ⟨fun u hu => IterX.weaken (h.it u (hx.trans hu)) (fun _ hA => Below.trans hx (hA.mono hx.size)), h.en, Nat.le_trans h.b hx.size, h.len, h.kl⟩
/-- A list of entries in memory: where it begins, its room, its entries. -/
structure Rw where
  A : Option Addr
  c : Nat
  R : List (Ent × Hd)
def Rw.v (r : Rw) : Value := .slice r.A r.R.length r.c
def Rw.l (r : Rw) : List Ent := r.R.map Prod.fst
structure RwOk (base hi : Nat) (r : Rw) (w : World) : Prop where
  row : r.R = [] ∨ ∃ b o cur, r.A = some ⟨b, o, none⟩ ∧ base ≤ b ∧ b < hi ∧ w.heap[b]? = some (.cells cur 46 (0, 0)) ∧ ∀ j v, (erow r.R)[j]? = some v → cur[o + j]? = some v
  cap : r.R.length ≤ r.c
  len : r.R.length ≤ 1000000
  mine : ∀ p ∈ r.R, Mine base p w ∧ (∀ g, (Value.slice p.2.kA p.1.key.length p.2.kc).ownBlock = some g → g < hi) ∧ (∀ g, (Value.slice p.2.vA p.1.val.length p.2.vc).ownBlock = some g → g < hi)
theorem RwOk.keep {base hi hi' : Nat} {r : Rw} {w w' : World} (h : RwOk base hi r w) (hh : hi ≤ hi') (hk : ∀ b cur t, base ≤ b → b < hi → w.heap[b]? = some (.cells cur t (0, 0)) → t = 46 ∨ t = 5 → w'.heap[b]? = w.heap[b]?) : RwOk base hi' r w' := by
  refine ⟨?_, h.cap, h.len, fun p hp => ?_⟩
  · rcases h.row with h1 | ⟨b, o, cur, h1, h2, h3, h4, h5⟩
    · exact .inl h1
    · exact .inr ⟨b, o, cur, h1, h2, by omega, (hk b cur _ h2 h3 h4 (.inl rfl)).trans h4, h5⟩
  · obtain ⟨h1, h2, h3⟩ := h.mine p hp
    have hkeep : ∀ {l : List Nat} {v : Value}, Own base l v w → (∀ g, v.ownBlock = some g → g < hi) → Own base l v w' := fun ho hv => row_kept ho fun g hg => by
      obtain ⟨hb, _, cur, hc⟩ := rowN_lt ho g hg
      exact hk g cur _ hb (hv g hg) hc (.inr rfl)
    exact ⟨⟨hkeep h1.k h2, hkeep h1.v h3, h1.good⟩, fun g hg => Nat.lt_of_lt_of_le (h2 g hg) hh, fun g hg => Nat.lt_of_lt_of_le (h3 g hg) hh⟩
theorem RwOk.ext {base hi hi' : Nat} {r : Rw} {w w' : World} (h : RwOk base hi r w) (hx : Ext w w') (hh : hi ≤ hi') : RwOk base hi' r w' :=
  h.keep hh fun b _ _ _ _ hc _ => hx.block b (Array.getElem?_eq_some_iff.1 hc).1
theorem RwOk.of_got {base hi : Nat} {X : Option Addr} {c : Nat} {R : List (Ent × Hd)} {w : World} (h : Got base (.slice X R.length c) R w) (hh : w.heap.size ≤ hi) (hl : R.length ≤ 1000000) : RwOk base hi ⟨X, c, R⟩ w := by
  refine ⟨?_, ?_, hl, fun p hp => ⟨h.each p hp, fun g hg => ?_, fun g hg => ?_⟩⟩
  · rcases h.row.2 with ⟨_, h1⟩ | ⟨g, cap, cur, h1, h2, h3, h4, h5, h6, h7⟩
    · exact .inl (List.eq_nil_of_length_eq_zero h1)
    · injection h1 with h1 _ _
      have hlt := (Array.getElem?_eq_some_iff.1 h3).1
      refine .inr ⟨g, 0, cur, h1, h2, by omega, h3, fun j v hj => ?_⟩
      have hi : j < R.length * 4 := by have := (List.getElem?_eq_some_iff.1 hj).1; rw [erow_length] at this; exact this
      have h8 := congrArg (fun l => l[j]?) h7
      simp only [List.getElem?_take, if_pos hi, Array.getElem?_toList] at h8
      rw [Nat.zero_add, h8]; exact hj
  · rcases h.row.2 with ⟨_, h1⟩ | ⟨g, cap, cur, h1, h2, h3, h4, _⟩
    · show R.length ≤ c; omega
    · injection h1 with _ _ h1
      show R.length ≤ c; omega
  · have := (row_lt (h.each p hp).k g hg).2; omega
  · have := (row_lt (h.each p hp).v g hg).2; omega
theorem Got.down {base base' : Nat} {v : Value} {R : List (Ent × Hd)} {w : World} (h : Got base v R w) (hb : base' ≤ base) : Got base' v R w := h.base hb
/-- The entry at a place: its cells, and that it is there. -/
theorem RwOk.get {base hi b o k : Nat} {c : Nat} {R : List (Ent × Hd)} {p : Ent × Hd} {w : World} (h : RwOk base hi ⟨some ⟨b, o, none⟩, c, R⟩ w) (hk : R[k]? = some p) :
    w.cell? ⟨b, o + k * 4, none⟩ = some (.slice p.2.kA p.1.key.length p.2.kc) ∧ w.cell? ⟨b, o + k * 4 + 1, none⟩ = some (.int .i64 p.1.seq) ∧ w.cell? ⟨b, o + k * 4 + 2, none⟩ = some (.int .i64 p.1.kind) ∧ w.cell? ⟨b, o + k * 4 + 3, none⟩ = some (.slice p.2.vA p.1.val.length p.2.vc) := by
  obtain ⟨hlt, rfl⟩ := List.getElem?_eq_some_iff.1 hk
  rcases h.row with h1 | ⟨b', o', cur, h1, _, _, h4, h5⟩
  · have h1 : R = [] := h1
    rw [h1] at hlt; simp at hlt
  · have h1 : some (⟨b, o, none⟩ : Addr) = some ⟨b', o', none⟩ := h1
    injection h1 with h1; injection h1 with e1 e2
    subst e1 e2
    have hj := fun (j : Nat) (hj : j < 4) (u : Value) (hu : (ecells R[k])[j]? = some u) => cell_of h4 (h5 (k * 4 + j) u ((erow_at R hlt hj).trans hu))
    refine ⟨hj 0 (by decide) _ rfl, ?_, ?_, ?_⟩
    · rw [Nat.add_assoc]; exact hj 1 (by decide) _ rfl
    · rw [Nat.add_assoc]; exact hj 2 (by decide) _ rfl
    · rw [Nat.add_assoc]; exact hj 3 (by decide) _ rfl
theorem RwOk.base {base hi : Nat} {r : Rw} {w : World} (h : RwOk base hi r w) (h0 : 0 < r.R.length) : ∃ b o, r.A = some ⟨b, o, none⟩ := by
  rcases h.row with h1 | ⟨b, o, _, h1, _⟩
  · rw [h1] at h0; simp at h0
  · exact ⟨b, o, h1⟩
/-- The rows, one behind the other, in a row. -/
structure Rows (base hi : Nat) (v : Value) (rs : List Rw) (w : World) : Prop where
  sl : ∃ (A : Option Addr) (cap : Nat), v = .slice A rs.length cap ∧ rs.length ≤ cap ∧ ((A = Option.none ∧ rs = []) ∨ ∃ (g : Nat) (cur : Array Value), A = some ⟨g, 0, none⟩ ∧ base ≤ g ∧ g < hi ∧ w.heap[g]? = some (.cells cur 22 (0, 0)) ∧ ∀ (i : Nat) (r : Rw), rs[i]? = some r → cur[i]? = some (Rw.v r))
  each : ∀ r ∈ rs, RwOk base hi r w

theorem linfo : (Try.prog.info? 22).map (fun i => (i.zero, i.size, i.bytes)) = some (some (.slice none 0 0), 1, 24) := by kernel_rfl
/-- 'out = append(out, u)' onto a row of the call's own: all else stays. -/
theorem wpList_pushone {P : Program} {ops : Array Oper} {rest : List Oper} {o : Oper} {a : Act} {Q : Exit → Act → World → Prop} {wr : World} (hgd : o.guard = none) (s x : Operand) (t : TypeId)
    (ho : o.op = .call { callee := .builtin .append, args := #[s, x], argTypes := #[t, t] })
    (B : Nat) (e : TypeId) (i : TypeInfo) (z : Value) (bytes : Nat) (ht : P.underlying t = some (.slice e)) (hi : P.info? e = some i) (hz : i.zero = some z)
    (hsize : i.size = 1) (hby : i.bytes = bytes) (hzs : z.cells.size = 1)
    (v : Value) (n : Nat) (xs : List Value) (hs : a.eval s = v) (hown : wr.ownsRow B e 1 v n xs) (u : Value) (hu : u.oneCell' = true) (g : Nat) (hg : g = wr.heap.size)
    (hx : a.eval x = .slice (some ⟨g, 0, none⟩) 1 1) (h63 : n + 1 ≤ maxLen) (hbytes : (n + 1) * bytes ≤ 140737488355328) (hB : B ≤ wr.heap.size)
    (h : ∀ A' c' w', w'.ownsRow B e 1 (.slice A' (n + 1) c') (n + 1) (xs ++ [u]) → (wr.alloc (.cells #[u] e)).grownBy w' v.ownBlock → wpList P ops Q rest (a.put o.dst (.slice A' (n + 1) c')) w') :
    wpList P ops Q (o :: rest) a (wr.alloc (.cells #[u] e)) := by
  subst hg
  refine wpList_append_own _ hgd s x t ho B e i z 1 bytes ht hi hz hsize hby hzs (by omega) v n xs hs (hown.alloc _) ⟨wr.heap.size, 0, none⟩ 1 1 [u] hx rfl (fun j q hj => ?_) (fun q hq => ?_) h63 hbytes
    (Nat.le_trans hB (by simp)) (fun v' w' h2 h3 _ => ?_)
  · rcases j with _ | j
    · simp at hj
      subst hj
      rw [addr_add, World.cell?_alloc_at _ _ _ _ rfl]
      rfl
    · simp at hj
  · rw [List.mem_singleton] at hq
    subst hq
    exact hu
  · have h2' := h2
    obtain ⟨A', c', rfl, _, _, _, _⟩ := Sl.of_own h2'
    exact h A' c' w' h2 h3
/-- The func values of a row. -/
def fv (f : Nat × Array Value) : Value := .func (.func f.1) #[] f.2
def GathAns (w : World) (Ls : List (List Ent)) (x : Ending) (w' : World) : Prop := ∃ v rs, x = .returned v ∧ Rows w.heap.size w'.heap.size v rs w' ∧ rs.map Rw.l = Ls ∧ Ext w w'

theorem made_room {w : World} {n : Nat} (hn : n ≤ 1000000) : (Instr.makeSlice 64 (.int .i64 0) (.int .i64 (n : Int))).run Try.prog w = .ok (.slice (some ⟨w.heap.size, 0, none⟩) 0 n) (w.alloc (.cells (madeCells #[.slice none 0 0] n) 22)) :=
  run_make_room (P := Try.prog) 64 22 (.slice none 0 0) 24 Try.underlying64 linfo rfl .i64 .i64 n (by omega) (by omega) w
theorem made_owns {w : World} {n : Nat} (hn : n ≤ 1000000) : (w.alloc (.cells (madeCells #[.slice none 0 0] n) 22)).ownsRow w.heap.size 22 1 (.slice (some ⟨w.heap.size, 0, none⟩) 0 n) 0 [] :=
  ⟨rfl, .inr ⟨w.heap.size, n, madeCells #[.slice none 0 0] n, rfl, Nat.le_refl _, heap_at _ _ rfl, Nat.zero_le _, by unfold maxLen; omega, by simp [madeCells], by simp⟩⟩
end Go.Proofs.Ytlnihaeeoolkhaa

/- gathered: the entries of each order (merge). -/
namespace Go.Proofs.Ytlnihaeeoolkhaa
open Go.ChangeShapes Go.WideShapes Go.ChangeAt Go.RowKit Go.Shelf

theorem map_take_next {α β : Type} {l : List α} {m : List β} {f : α → β} {k : Nat} {b : β} (h : l.map f = m.take k) (hb : m[k]? = some b) {a : α} (ha : f a = b) : (l ++ [a]).map f = m.take (k + 1) := by
  rw [List.map_append, h, List.take_add_one, hb]; simp [ha]
theorem sl_cell {w : World} {lo hi k : Nat} {A : Option Addr} {xs : List Value} {v : Value} (h : Sl w lo hi A xs) (hk : xs[k]? = some v) : ∃ b o, A = some ⟨b, o, none⟩ ∧ w.cell? ⟨b, o + k, none⟩ = some v := by
  rcases h with h1 | ⟨b, o, he, _, _, hc⟩
  · rw [h1] at hk; simp at hk
  · exact ⟨b, o, he, hc k v hk⟩
theorem Rows.of_own {base hi n : Nat} {v : Value} {rs : List Rw} {w : World} (h : w.ownsRow base 22 1 v n (rs.map Rw.v)) (hn : n = rs.length) (hh : w.heap.size ≤ hi) (he : ∀ r ∈ rs, RwOk base hi r w) : Rows base hi v rs w := by
  refine ⟨?_, he⟩
  subst hn
  rcases h.2 with ⟨h1, h2⟩ | ⟨g, cap, cur, h1, h2, h3, h4, h5, h6, h7⟩
  · exact ⟨Option.none, 0, by rw [h1, h2], by omega, .inl ⟨rfl, List.eq_nil_of_length_eq_zero h2⟩⟩
  · have hlt := (Array.getElem?_eq_some_iff.1 h3).1
    refine ⟨some ⟨g, 0, Option.none⟩, cap, h1, h4, .inr ⟨g, cur, rfl, h2, by omega, h3, fun i r hr => ?_⟩⟩
    have hi : i < rs.length * 1 := by have := (List.getElem?_eq_some_iff.1 hr).1; omega
    have h8 := congrArg (fun l => l[i]?) h7
    simp only [List.getElem?_take, if_pos hi, Array.getElem?_toList] at h8
    rw [h8, List.getElem?_map, hr]; rfl
set_option maxRecDepth 100000 in
set_option maxHeartbeats 8000000 in
theorem gathered_any {w : World} {lo hi c B0 : Nat} {A : Option Addr} {fs : List (Nat × Array Value)} {Ls : List (List Ent)} (h : Sl w lo hi A (fs.map fv)) (hhi : hi ≤ w.heap.size) (hn : fs.length = Ls.length) (hlen : Ls.length ≤ 1000)
    (hg : ∀ (i : Nat) (f : Nat × Array Value) (L : List Ent), fs[i]? = some f → Ls[i]? = some L → Goes f.1 f.2 B0 L w) :
    Calls Try.prog 42 #[.slice A fs.length c] w (GathAns w Ls) := by
  have HE := Lib.hid h
  have HHI := Lib.hid hhi
  have HN := Lib.hid hn
  have HL := Lib.hid hlen
  have HG := Lib.hid hg
  obtain ⟨n, hfn⟩ : ∃ n, n = fs.length := ⟨_, rfl⟩
  rw [← hfn]
  have HFN := Lib.hid hfn
  have hnI : (n : Int) ≤ 1000 := by omega
  have hn0 : (0 : Int) ≤ (n : Int) := by omega
  have hmk := made_room (w := w) (n := n) (by omega)
  obtain ⟨w1, hw1⟩ : ∃ w1, w1 = w.alloc (.cells (madeCells #[.slice none 0 0] n) 22) := ⟨_, rfl⟩
  have HX1 : Hid (Ext w w1) := by rw [hw1]; exact ext_alloc _ _
  have HO1 : Hid (w1.ownsRow w.heap.size 22 1 (.slice (some ⟨w.heap.size, 0, none⟩) 0 n) 0 []) := by rw [hw1]; exact made_owns (by omega)
  rw [← hw1] at hmk
  clear h hhi hn hlen hg hfn hw1
  go_enter Try.func42, Try.ntmps42
  go_wp2_with fail
  clear hmk
  go_loopw [3, 5, 11] (fun v _ a wr => ∃ (k : Nat) (rs : List Rw), a = .int .i64 (k : Int) ∧ k ≤ n ∧ Hid (wr.ownsRow w.heap.size 22 1 v k (rs.map Rw.v)) ∧ Hid (∀ r ∈ rs, RwOk w.heap.size wr.heap.size r wr) ∧ Hid (rs.map Rw.l = Ls.take k) ∧ Hid (Ext w wr)) (fun _ _ a _ => n - (intOf a).toNat)
  case atStart => exact ⟨0, [], rfl, Nat.zero_le _, HO1.out, fun r hr => (by cases hr), rfl, HX1.out⟩
  case round =>
    obtain ⟨k, rs, rfl, hk, HO, HR, HIS, HX⟩ := hrel
    by_cases hlt : k < n
    · have d : decide ((k : Int) < (n : Int)) = true := by simp; omega
      have dn : decide (k < n) = true := by simp; omega
      obtain ⟨f, hf⟩ : ∃ f, fs[k]? = some f := ⟨_, List.getElem?_eq_getElem (by have := HFN.out; omega)⟩
      obtain ⟨L, hLs⟩ : ∃ L, Ls[k]? = some L := ⟨_, List.getElem?_eq_getElem (by have := HFN.out; have := HN.out; omega)⟩
      have hgo := (HG.out k f L hf hLs).ext HX.out
      obtain ⟨b, o, rfl, q0⟩ := sl_cell (HE.out.below HX.out HHI.out) (show (fs.map fv)[k]? = some (fv f) by rw [List.getElem?_map, hf]; rfl)
      obtain ⟨gf, lb⟩ := f
      have HGO := Lib.hid hgo
      have HLS := Lib.hid hLs
      have HK := Lib.hid hlt
      have n1 : (0 : Int) ≤ (k : Int) := by omega
      have n2 : (k : Int) < (n : Int) := by omega
      obtain ⟨A9, c9, rfl⟩ := rowN_slice HO.out
      dsimp only [fv] at q0
      clear hgo hf hLs hlt hk
      go_wp2_with fail
      refine only_any.mono ?_
      rintro x u1 ⟨b1, b2, rfl, _, _, _, hb1, hb2, hx1⟩
      have HX2 : Hid (Ext wr u1) := hx1
      have HBB := Lib.hid (And.intro hb1 hb2)
      have HGO1 := Lib.hid (HGO.out.ext hx1)
      clear hb1 hb2 hx1
      have HCOL := Lib.hid (collect_any (w := u1) (B0 := B0) (L := L) (C := fun A => Below u1.heap.size u1 A ∧ Boxed A b1 27 (.func (.func gf) #[] lb) ∧ Boxed A b2 55 (.func (.func 36) #[] #[]) ∧ True)
        (fun v hv => by
          have h9 := eachfn_iterN (b1 := b1) (b2 := b2) (C0 := fun A => Below u1.heap.size u1 A) (w := v) (fun u hu => HGO1.out.it u (hv.trans hu)) HGO1.out.en (Nat.le_trans HGO1.out.b hv.size) HGO1.out.kl
          rw [wantL_all] at h9
          exact h9.base hv.size)
        enters_only1 (fun A hA => ⟨hA, (hA.block b1 HBB.out.1.lt).trans HBB.out.1, (hA.block b2 HBB.out.2.lt).trans HBB.out.2, trivial⟩) HGO1.out.b HGO1.out.len)
      go_wp2_with fail
      refine HCOL.out.mono ?_
      rintro x u2 ⟨X, cc, R, rfl, hgot, hRL, hbl⟩
      have HGOT := Lib.hid hgot
      have HRL := Lib.hid hRL
      have HX3 : Hid (Ext u1 u2) := hbl
      have HXX : Hid (Ext w u2) := (HX.out.trans HX2.out).trans HX3.out
      have HOW : Hid (u2.ownsRow w.heap.size 22 1 (.slice A9 k c9) k (rs.map Rw.v)) := rowN_kept HO.out fun g hg => (HX2.out.trans HX3.out).block g (rowN_lt HO.out g hg).2.1
      obtain ⟨i1, hi1, y1, y2, y3⟩ := info_parts linfo
      have HI1 := Lib.hid hi1
      have HKN : Hid (k < 1000) := by have := HK.out; unfold Hid; omega
      clear hgot hRL hbl hi1
      go_wp2_with (at_builtin; refine wpList_pushone rfl (.tmp 15) (.tmp 19) 64 rfl w.heap.size 22 i1 (.slice none 0 0) 24 Try.underlying64 HI1.out y1 y2 y3 rfl _ _ _ rfl HOW.out _ rfl _ rfl rfl ?k1 ?k2 HXX.out.size ?_)
      case k1 => unfold maxLen; have := HKN.out; omega
      case k2 => have := HKN.out; omega
      intro A5 c5 w5 ho5 hg5
      have HO5 := Lib.hid ho5
      have HG5 := Lib.hid hg5
      clear ho5 hg5
      go_wp2_with fail
      have hkeep : ∀ (r : Rw) (hi : Nat), hi ≤ u2.heap.size → RwOk w.heap.size hi r u2 → RwOk w.heap.size w5.heap.size r w5 := fun r hi hh hr => by
        have hsz := HG5.out.size
        refine hr.keep (by simp at hsz; omega) fun b cur t h1 h2 h3 h4 => ?_
        have hb : b < u2.heap.size := by omega
        refine (HG5.out.block b (by simp; omega) (fun e => ?_)).trans (Below.heap_alloc _ _ _ hb)
        obtain ⟨_, _, cc, hcc⟩ := rowN_lt HOW.out b e.symm
        rw [h3] at hcc
        injection hcc with hcc
        injection hcc with _ hcc
        rcases h4 with h4 | h4 <;> rw [h4] at hcc <;> exact absurd hcc (by decide)
      refine ⟨⟨k + 1, rs ++ [⟨X, cc, R⟩], rfl, HK.out, ?_, fun r hr => ?_, ?_, ?_⟩, ?_⟩
      · rw [List.map_append]; exact HO5.out
      · rcases List.mem_append.1 hr with hr | hr
        · exact hkeep r _ (Nat.le_refl _) ((HR.out r hr).ext (HX2.out.trans HX3.out) (HX2.out.trans HX3.out).size)
        · rw [List.mem_singleton] at hr; subst hr
          have hlR : R.length ≤ 1000000 := by
            have h1 := congrArg List.length HRL.out
            rw [List.length_map] at h1
            have := HGO.out.len
            omega
          exact hkeep _ _ (Nat.le_refl _) (RwOk.of_got (HGOT.out.base (HX.out.trans HX2.out).size) (Nat.le_refl _) hlR)
      · exact map_take_next HIS.out HLS.out HRL.out
      · have hb : Below w.heap.size u2 w5 := ⟨HG5.out.os, HG5.out.tape, HG5.out.output, by have := HG5.out.size; simp at this; omega, fun i hi => by
          refine (HG5.out.block i (by have := HXX.out.size; simp; omega) (fun e => ?_)).trans (Below.heap_alloc _ _ _ (by have := HXX.out.size; omega))
          have := (rowN_lt HOW.out i e.symm).1
          omega⟩
        exact Below.trans HXX.out hb
      · have := HK.out
        simp [intOf]; omega
    · have d : decide ((k : Int) < (n : Int)) = false := by simp; omega
      have dn : decide (k < n) = false := by simp; omega
      have hkn : k = n := by omega
      subst hkn
      obtain ⟨A9, c9, rfl⟩ := rowN_slice HO.out
      have hln : rs.length = k := by
        have h1 := HO.out.1
        rw [List.length_map] at h1; omega
      have HLN := Lib.hid hln
      clear hln hk hlt
      go_wp2_with fail
      go_ret
      refine ⟨_, rs, rfl, Rows.of_own HO.out HLN.out.symm (Nat.le_refl _) HR.out, ?_, HX.out⟩
      rw [HIS.out, List.take_of_length_le (by have := HFN.out; have := HN.out; omega)]
end Go.Proofs.Ytlnihaeeoolkhaa

/- The reference's Same (merge). -/
namespace Go.Proofs.Ytlnihaeeoolkhaa
open Go.ChangeShapes Go.WideShapes Go.ChangeAt Go.RowKit

set_option maxRecDepth 100000 in
theorem conv_gx {w : World} {lo hi c : Nat} {A : Option Addr} {l : List Nat} (h : Bs w lo hi (.slice A l.length c) l) : (convert 34 9 (.slice A l.length c)).run Try.prog w = .ok (.string (tx l)) w := by
  obtain ⟨A', c', e, _, _, _, hy⟩ := h
  injection e with e1 _ e2
  subst e1 e2
  exact run_text (P := Try.prog) w 34 5 Try.underlying34 Try.underlying5 hy l.length c rfl 9 Try.underlying9
theorem Ent.eq_iff {a b : Ent} : a = b ↔ a.key = b.key ∧ a.seq = b.seq ∧ a.kind = b.kind ∧ a.val = b.val := by
  obtain ⟨k, s, d, v⟩ := a
  obtain ⟨k2, s2, d2, v2⟩ := b
  simp
set_option maxRecDepth 100000 in
set_option maxHeartbeats 8000000 in
theorem same11_any {w : World} {lo hi lo2 hi2 : Nat} {A A2 : Option Addr} {c c2 : Nat} {L R : List (Ent × Hd)} (h : Es w lo hi A L) (h2 : Es w lo2 hi2 A2 R) (hhi : hi ≤ w.heap.size) (hhi2 : hi2 ≤ w.heap.size) (hlen : L.length ≤ 1000000000) :
    Calls Try.prog 13 #[.slice A L.length c, .slice A2 R.length c2] w fun e w' => ∃ z : Bool, (z = true ↔ L.map Prod.fst = R.map Prod.fst) ∧ e = .returned (.bool z) ∧ Ext w w' := by
  have HE := Lib.hid h
  have HE2 := Lib.hid h2
  have HHI := Lib.hid (And.intro hhi hhi2)
  have HL := Lib.hid hlen
  have hlI : (L.length : Int) ≤ 1000000000 := by omega
  clear h h2 hhi hhi2
  by_cases hne : L.length = R.length
  rotate_left
  · have d : ((L.length : Int) != (R.length : Int)) = true := by simp; omega
    have d2 : (L.length != R.length) = true := by simp; exact hne
    have HNE := Lib.hid hne
    clear hne hlen
    go_enter Try.func13, Try.ntmps13
    go_wp2_with fail
    go_ret
    exact ⟨false, ⟨fun h => (by cases h), fun h => by have := congrArg List.length h; rw [List.length_map, List.length_map] at this; exact absurd this HNE.out⟩, rfl, Ext.refl _⟩
  obtain ⟨n, hn⟩ : ∃ n, n = R.length := ⟨_, rfl⟩
  have hn2 : L.length = n := hne.trans hn.symm
  rw [← hn, hn2]
  rw [hn2] at hlI
  have HN := Lib.hid hn
  have HN2 := Lib.hid hn2
  have d : ((n : Int) != (n : Int)) = false := by simp
  clear hne hn hn2 hlen
  go_enter Try.func13, Try.ntmps13
  go_wp2_with fail
  go_loopw [5] (fun a wr => ∃ i : Nat, a = .int .i64 (i : Int) ∧ i ≤ n ∧ Hid (∀ j p q, j < i → L[j]? = some p → R[j]? = some q → p.1 = q.1) ∧ Hid (Ext w wr)) (fun a _ => n - (intOf a).toNat)
  case atStart => exact ⟨0, rfl, by omega, fun j p q hj => by omega, Ext.refl _⟩
  case round =>
    obtain ⟨i, rfl, hm, HR, HX⟩ := hrel
    by_cases hlt : i < n
    rotate_left
    · have e : decide ((i : Int) < (n : Int)) = false := by simp; omega
      have e2 : decide (i < n) = false := by simp; omega
      have hin : i = n := by omega
      have HALL : Hid (L.map Prod.fst = R.map Prod.fst) := by
        apply List.ext_getElem?
        intro j
        rw [List.getElem?_map, List.getElem?_map]
        by_cases hj : j < n
        · obtain ⟨p, hp⟩ : ∃ p, L[j]? = some p := ⟨_, List.getElem?_eq_getElem (by have := HN2.out; omega)⟩
          obtain ⟨q, hq⟩ : ∃ q, R[j]? = some q := ⟨_, List.getElem?_eq_getElem (by have := HN.out; omega)⟩
          rw [hp, hq]
          exact congrArg some (HR.out j p q (by omega) hp hq)
        · rw [List.getElem?_eq_none (by have := HN2.out; omega), List.getElem?_eq_none (by have := HN.out; omega)]
      clear hlt hm hin
      go_wp2_with fail
      go_ret
      exact ⟨true, ⟨fun _ => HALL.out, fun _ => rfl⟩, rfl, HX.out⟩
    have e : decide ((i : Int) < (n : Int)) = true := by simp; omega
    have e2 : decide (i < n) = true := by simp; omega
    have hl1 : i < L.length := by have := HN2.out; omega
    have hl2 : i < R.length := by have := HN.out; omega
    obtain ⟨p, hp⟩ : ∃ p, L[i]? = some p := ⟨_, List.getElem?_eq_getElem hl1⟩
    obtain ⟨q, hq⟩ : ∃ q, R[i]? = some q := ⟨_, List.getElem?_eq_getElem hl2⟩
    obtain ⟨b, o, rfl⟩ := HE.out.base (by omega)
    obtain ⟨b2, o2, rfl⟩ := HE2.out.base (by omega)
    obtain ⟨k0, k1, k2, k3⟩ := (HE.out.below HX.out HHI.out.1).get hp
    obtain ⟨m0, m1, m2, m3⟩ := (HE2.out.below HX.out HHI.out.2).get hq
    have t1 : ∀ j, (convert 34 9 (.slice p.2.kA p.1.key.length p.2.kc)).run Try.prog (wr.drewN j) = .ok (.string (tx p.1.key)) (wr.drewN j) := fun j => conv_gx ((HE.out.each p (List.mem_of_getElem? hp)).below (below_drewN HX.out j) HHI.out.1).k
    have t2 : ∀ j, (convert 34 9 (.slice q.2.kA q.1.key.length q.2.kc)).run Try.prog (wr.drewN j) = .ok (.string (tx q.1.key)) (wr.drewN j) := fun j => conv_gx ((HE2.out.each q (List.mem_of_getElem? hq)).below (below_drewN HX.out j) HHI.out.2).k
    have t3 : ∀ j, (convert 34 9 (.slice p.2.vA p.1.val.length p.2.vc)).run Try.prog (wr.drewN j) = .ok (.string (tx p.1.val)) (wr.drewN j) := fun j => conv_gx ((HE.out.each p (List.mem_of_getElem? hp)).below (below_drewN HX.out j) HHI.out.1).v
    have t4 : ∀ j, (convert 34 9 (.slice q.2.vA q.1.val.length q.2.vc)).run Try.prog (wr.drewN j) = .ok (.string (tx q.1.val)) (wr.drewN j) := fun j => conv_gx ((HE2.out.each q (List.mem_of_getElem? hq)).below (below_drewN HX.out j) HHI.out.2).v
    have HBK : Hid ((∀ x ∈ p.1.key, x < 256) ∧ ∀ x ∈ q.1.key, x < 256) := ⟨(HE.out.each p (List.mem_of_getElem? hp)).bk, (HE2.out.each q (List.mem_of_getElem? hq)).bk⟩
    have HBV : Hid ((∀ x ∈ p.1.val, x < 256) ∧ ∀ x ∈ q.1.val, x < 256) := ⟨(HE.out.each p (List.mem_of_getElem? hp)).bv, (HE2.out.each q (List.mem_of_getElem? hq)).bv⟩
    have HP1 := Lib.hid hp
    have HQ1 := Lib.hid hq
    have HNE : Hid (p.1 ≠ q.1 → (false = true ↔ L.map Prod.fst = R.map Prod.fst)) := fun hn => ⟨fun h => (by cases h), fun h => by
      have h1 := congrArg (fun l => l[i]?) h
      simp only [List.getElem?_map, HP1.out, HQ1.out, Option.map_some, Option.some.injEq] at h1
      exact absurd h1 hn⟩
    have HW := Lib.hid (show wrap64 ((i : Int) + 1) = ((i + 1 : Nat) : Int) by unfold wrap64; omega)
    have n3 : (0 : Int) ≤ (i : Int) := by omega
    have n4 : (i : Int) < (n : Int) := by omega
    have HLT := Lib.hid hlt
    clear hp hq hlt hm hl1 hl2
    by_cases h0 : p.1.key = q.1.key
    rotate_left
    · have d3 : ((tx p.1.key).toList == (tx q.1.key).toList) = false := by rw [tx_same HBK.out.1 HBK.out.2]; exact decide_eq_false h0
      have HE3 : Hid (p.1 ≠ q.1) := fun h => h0 (by rw [h])
      clear h0
      go_wp2_with fail
      go_quiet (fail)
      go_wp2_with fail
      go_ret
      exact ⟨false, HNE.out HE3.out, rfl, below_drewN HX.out _⟩
    have d3 : ((tx p.1.key).toList == (tx q.1.key).toList) = true := by rw [tx_same HBK.out.1 HBK.out.2]; exact decide_eq_true h0
    by_cases h1 : p.1.seq = q.1.seq
    rotate_left
    · have d4 : (p.1.seq != q.1.seq) = true := by simp [h1]
      have HE3 : Hid (p.1 ≠ q.1) := fun h => h1 (by rw [h])
      clear h1 h0
      go_wp2_with fail
      go_quiet (fail)
      go_wp2_with fail
      go_ret
      exact ⟨false, HNE.out HE3.out, rfl, below_drewN HX.out _⟩
    have d4 : (p.1.seq != q.1.seq) = false := by simp [h1]
    by_cases h2 : p.1.kind = q.1.kind
    rotate_left
    · have d5 : (p.1.kind != q.1.kind) = true := by simp [h2]
      have HE3 : Hid (p.1 ≠ q.1) := fun h => h2 (by rw [h])
      clear h2 h0 h1
      go_wp2_with fail
      go_quiet (fail)
      go_wp2_with fail
      go_ret
      exact ⟨false, HNE.out HE3.out, rfl, below_drewN HX.out _⟩
    have d5 : (p.1.kind != q.1.kind) = false := by simp [h2]
    by_cases h3 : p.1.val = q.1.val
    rotate_left
    · have d6 : ((tx p.1.val).toList == (tx q.1.val).toList) = false := by rw [tx_same HBV.out.1 HBV.out.2]; exact decide_eq_false h3
      have HE3 : Hid (p.1 ≠ q.1) := fun h => h3 (by rw [h])
      clear h3 h0 h1 h2
      go_wp2_with fail
      go_quiet (fail)
      go_wp2_with fail
      go_ret
      exact ⟨false, HNE.out HE3.out, rfl, below_drewN HX.out _⟩
    have d6 : ((tx p.1.val).toList == (tx q.1.val).toList) = true := by rw [tx_same HBV.out.1 HBV.out.2]; exact decide_eq_true h3
    have HE3 : Hid (p.1 = q.1) := Ent.eq_iff.2 ⟨h0, h1, h2, h3⟩
    clear h0 h1 h2 h3
    have hw := HW.out
    go_wp2_with fail
    go_quiet (fail)
    go_wp2_with fail
    refine ⟨⟨i + 1, by first | rfl | rw [hw], HLT.out, fun j p' q' hj hp' hq' => ?_, below_drewN HX.out _⟩, by clear hw; have := HLT.out; simp [intOf]; omega⟩
    by_cases hji : j = i
    · rw [hji, HP1.out] at hp'
      rw [hji, HQ1.out] at hq'
      injection hp' with hp'
      injection hq' with hq'
      subst hp' hq'
      exact HE3.out
    · exact HR.out j p' q' (by omega) hp' hq'
end Go.Proofs.Ytlnihaeeoolkhaa
