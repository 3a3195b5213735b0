/- EditDoes: from the walk to the statement. For every input the law answers true and leaves its arguments as they were. -/
import Derived.Test.YtjlppjffkebejaaMa12
import Derived.Test.YtjlppjffkebejaaMa9

/- The law EditDoes. -/
namespace Go.Proofs.Ytjlppjffkebejaa
open Go.ChangeShapes Go.WideShapes Go.ChangeAt Go.RowKit

theorem gone_all (l : List Int) (L : List (Tab × TabH)) : gone l L L.length = L.countP fun p => decide (p.1.num ∈ l) := by unfold gone; rw [List.take_of_length_le (Nat.le_refl _)]
def zeroV : Ver := ⟨0, 0, 0, 0⟩
/-- What Do answers, in one form. -/
def DoesRel (V W : Ver) (l : List Int) (L E : List (Tab × TabH)) (err : Int) (X : Ver) (R : List (Tab × TabH)) : Prop :=
  (¬ argD V l L ∧ err = 2 ∧ X = zeroV ∧ R = []) ∨ (argD V l L ∧ err = 9 ∧ X = zeroV ∧ R = [] ∧ (okD V W l L = false ∨ ∃ T : List Tab, T.Perm ((restT l L ++ E).map Prod.fst) ∧ T.Pairwise (fun a b => ¬ cmpT b a < 0) ∧ ¬ VMay W T)) ∨
    (argD V l L ∧ err = 0 ∧ X = W ∧ okD V W l L = true ∧ (R.map Prod.fst).Perm ((restT l L ++ E).map Prod.fst) ∧ (R.map Prod.fst).Pairwise (fun a b => ¬ cmpT b a < 0) ∧ VMay W (R.map Prod.fst))
theorem does_of {w w' : World} {V W : Ver} {l : List Int} {L E : List (Tab × TabH)} {e : Ending} (h : DoAns w V W l L E e w') :
    Ext w w' ∧ ∃ (X : Ver) (A : Option Addr) (c : Nat) (R : List (Tab × TabH)) (err : Int), e = .returned (.tuple #[.agg #[.int .i64 X.next, .int .i64 X.log, .int .i64 X.index, .int .i64 X.seq, .slice A R.length c], .int .i64 err]) ∧ tabs w' 0 w'.heap.size A R ∧ DoesRel V W l L E err X R := by
  obtain ⟨hx, h⟩ := h
  refine ⟨hx, ?_⟩
  rcases h with ⟨h, rfl⟩ | ⟨h, ⟨ho, rfl⟩ | ⟨ho, T, hp, hs, ⟨hm, rfl⟩ | ⟨hm, A, c, R, h0, rfl, h1, h2⟩⟩⟩
  · exact ⟨zeroV, none, 0, [], 2, rfl, tabs_none _, .inl ⟨h, rfl, rfl, rfl⟩⟩
  · exact ⟨zeroV, none, 0, [], 9, rfl, tabs_none _, .inr (.inl ⟨h, rfl, rfl, rfl, .inl ho⟩)⟩
  · exact ⟨zeroV, none, 0, [], 9, rfl, tabs_none _, .inr (.inl ⟨h, rfl, rfl, rfl, .inr ⟨T, hp, hs, hm⟩⟩)⟩
  · exact ⟨W, A, c, R, 0, rfl, own_tabs h1 h2, .inr (.inr ⟨h, rfl, rfl, ho, by rw [h0]; exact hp, by rw [h0]; exact hs, by rw [h0]; exact hm⟩)⟩
theorem okD_iff {V W : Ver} {l : List Int} {L : List (Tab × TabH)} : okD V W l L = true ↔ gone l L L.length = l.length ∧ V.next ≤ W.next ∧ V.log ≤ W.log ∧ V.index ≤ W.index ∧ V.seq ≤ W.seq := by
  unfold okD
  rw [gone_all, ← ok_found]
  simp only [Bool.and_eq_true, decide_eq_true_eq]
/-- The program's answer, beside the reference's. -/
theorem does_tie {V W : Ver} {l : List Int} {L E R R2 : List (Tab × TabH)} {err : Int} {X : Ver} {z : Bool} (h : DoesRel V W l L E err X R) (hp : R2.Perm (restT l L ++ E)) (hs : SdT R2) (hz : z = true ↔ okR V W l L (R2.map Prod.fst)) :
    (¬ argD V l L ∧ err = 2 ∧ X = zeroV ∧ R = []) ∨ (argD V l L ∧ z = false ∧ err = 9 ∧ X = zeroV ∧ R = []) ∨ (argD V l L ∧ z = true ∧ err = 0 ∧ X = W ∧ R.map Prod.fst = R2.map Prod.fst ∧ VMay W (R.map Prod.fst)) := by
  have s2 : (R2.map Prod.fst).Pairwise (fun a b => ¬ cmpT b a < 0) := by
    rw [List.pairwise_map]; exact hs
  have hokR : okR V W l L (R2.map Prod.fst) ↔ okD V W l L = true ∧ VMay W (R2.map Prod.fst) := by
    rw [okD_iff, may_same]
    unfold okR
    constructor
    · rintro ⟨a, b, c, d, e, f⟩; exact ⟨⟨a, b, c, d, e⟩, f⟩
    · rintro ⟨⟨a, b, c, d, e⟩, f⟩; exact ⟨a, b, c, d, e, f⟩
  rcases h with h | ⟨ha, he, hX, hR, hn⟩ | ⟨ha, he, hX, ho, hpp, hss, hm⟩
  · exact .inl h
  · refine .inr (.inl ⟨ha, ?_, he, hX, hR⟩)
    cases z with
    | false => rfl
    | true =>
      obtain ⟨h1, h2⟩ := hokR.1 (hz.1 rfl)
      rcases hn with hn | ⟨T, hT, hTs, hTm⟩
      · rw [hn] at h1; cases h1
      · exact absurd ((sorted_one (hT.trans (hp.map Prod.fst).symm) hTs s2).1.2 h2) hTm
  · have hso := sorted_one (W := W) (hpp.trans (hp.map Prod.fst).symm) hss s2
    exact .inr (.inr ⟨ha, hz.2 (hokR.2 ⟨ho, hso.1.1 hm⟩), he, hX, hso.2 hm, hm⟩)
theorem arg_iff {V : Ver} {l : List Int} {L : List (Tab × TabH)} : argD V l L ↔ RMay V (L.map Prod.fst) ∧ l.Nodup := by
  unfold argD
  rw [may_same, up_nodup]
theorem same_zero {u : World} {A : Option Addr} {c : Nat} (h : tabs u 0 u.heap.size A []) : Calls Try.prog 26 #[.agg #[.int .i64 0, .int .i64 0, .int .i64 0, .int .i64 0, .slice A 0 c], .agg #[.int .i64 0, .int .i64 0, .int .i64 0, .int .i64 0, .slice none 0 0]] u fun e w' => e = .returned (.bool true) ∧ Ext u w' := by
  have h1 := rsame_any (c := c) (c2 := 0) (A2 := none) (R := []) ⟨0, 0, 0, 0⟩ ⟨0, 0, 0, 0⟩ h (tabs_none u) (by show 0 ≤ 1000000000; omega) (by show 0 ≤ 1000000000; omega)
  dsimp only [List.length_nil] at h1
  refine h1.mono ?_
  rintro e w' ⟨y, hy, rfl, hx⟩
  obtain rfl : y = true := hy.2 ⟨rfl, rfl⟩
  exact ⟨rfl, hx⟩
theorem bool_of (p : Prop) : ∃ z : Bool, z = true ↔ p := by
  by_cases h : p
  · exact ⟨true, fun _ => h, fun _ => rfl⟩
  · exact ⟨false, fun h => (by cases h), fun h' => absurd h' h⟩

set_option maxRecDepth 100000 in
set_option maxHeartbeats 4000000 in
theorem sized_any {w : World} {A A2 D : Option Addr} {c c2 d0 n m k : Nat} (V W : Ver) {z : Bool} (hz : z = (decide (n ≤ 100) && (decide (k ≤ 100) && decide (m ≤ 100)))) :
    Calls Try.prog 22 #[.agg #[.int .i64 V.next, .int .i64 V.log, .int .i64 V.index, .int .i64 V.seq, .slice A n c], .agg #[.slice D k d0, .slice A2 m c2, .int .i64 W.next, .int .i64 W.log, .int .i64 W.index, .int .i64 W.seq]] w fun e w' => e = .returned (.bool z) ∧ Ext w w' := by
  obtain ⟨w1, hw1⟩ : ∃ w1, w1 = (w.alloc (.cells #[.int .i64 V.next, .int .i64 V.log, .int .i64 V.index, .int .i64 V.seq, .slice A n c] 36)).alloc (.cells #[.slice D k d0, .slice A2 m c2, .int .i64 W.next, .int .i64 W.log, .int .i64 W.index, .int .i64 W.seq] 40) := ⟨_, rfl⟩
  have HX : Hid (Ext w w1) := by rw [hw1]; exact Ext.trans (ext_alloc _ _) (ext_alloc _ _)
  have c4 : w1.cell? ⟨w.heap.size, 4, none⟩ = some (.slice A n c) := by rw [hw1]; exact ext_cell (ext_alloc _ _) (cell_of (heap_at _ _ rfl) rfl)
  have d1 : w1.cell? ⟨w.heap.size + 1, 1, none⟩ = some (.slice A2 m c2) := by rw [hw1]; exact cell_of (heap_at _ _ (by simp)) rfl
  have d2 : w1.cell? ⟨w.heap.size + 1, 0, none⟩ = some (.slice D k d0) := by rw [hw1]; exact cell_of (heap_at _ _ (by simp)) rfl
  have HZ := Lib.hid hz
  clear hz
  go_enter Try.func22, Try.ntmps22
  go_upto_region 1 with (fail)
  rw [← hw1]
  clear hw1
  by_cases h1 : n ≤ 100
  rotate_left
  · have t1 : decide ((n : Int) ≤ 100) = false := by simp; omega
    have t2 : decide (n ≤ 100) = false := by simp; omega
    obtain rfl : z = false := by rw [HZ.out, t2]; rfl
    clear h1
    go_wp2_with fail
    go_ret
    exact ⟨rfl, HX.out⟩
  have t1 : decide ((n : Int) ≤ 100) = true := by simp; omega
  have t2 : decide (n ≤ 100) = true := by simp; omega
  by_cases h2 : k ≤ 100
  rotate_left
  · have t3 : decide ((k : Int) ≤ 100) = false := by simp; omega
    have t4 : decide (k ≤ 100) = false := by simp; omega
    obtain rfl : z = false := by rw [HZ.out, t2, t4]; rfl
    clear h1 h2
    go_wp2_with fail
    go_ret
    exact ⟨rfl, HX.out⟩
  have t3 : decide ((k : Int) ≤ 100) = true := by simp; omega
  have t4 : decide (k ≤ 100) = true := by simp; omega
  by_cases h3 : m ≤ 100
  · have t5 : decide ((m : Int) ≤ 100) = true := by simp; omega
    have t6 : decide (m ≤ 100) = true := by simp; omega
    obtain rfl : z = true := by rw [HZ.out, t2, t4, t6]; rfl
    clear h1 h2 h3
    go_wp2_with fail
    go_ret
    exact ⟨rfl, HX.out⟩
  · have t5 : decide ((m : Int) ≤ 100) = false := by simp; omega
    have t6 : decide (m ≤ 100) = false := by simp; omega
    obtain rfl : z = false := by rw [HZ.out, t2, t4, t6]; rfl
    clear h1 h2 h3
    go_wp2_with fail
    go_ret
    exact ⟨rfl, HX.out⟩

set_option maxRecDepth 100000 in
set_option maxHeartbeats 16000000 in
theorem ledoes_any {w : World} {A A2 D : Option Addr} {c c2 d0 : Nat} {L E : List (Tab × TabH)} {l : List Int} (V W : Ver) (h : tabs w 0 w.heap.size A L) (hE : tabs w 0 w.heap.size A2 E) (hD : Sl w 0 w.heap.size D (ints l)) (hn2 : A2 = none → c2 = 0)
    (hln : ∀ p ∈ L, p.1.fst.length ≤ 140737488351232 ∧ p.1.lst.length ≤ 140737488351232) (hln2 : ∀ p ∈ E, p.1.fst.length ≤ 140737488351232 ∧ p.1.lst.length ≤ 140737488351232) :
    Calls Try.prog 5 #[.agg #[.int .i64 V.next, .int .i64 V.log, .int .i64 V.index, .int .i64 V.seq, .slice A L.length c], .agg #[.slice D l.length d0, .slice A2 E.length c2, .int .i64 W.next, .int .i64 W.log, .int .i64 W.index, .int .i64 W.seq]] w fun e w' => e = .returned (.bool true) ∧ Ext w w' := by
  obtain ⟨w1, hw1⟩ : ∃ w1, w1 = (w.alloc (.cells #[.int .i64 V.next, .int .i64 V.log, .int .i64 V.index, .int .i64 V.seq, .slice A L.length c] 36)).alloc (.cells #[.slice D l.length d0, .slice A2 E.length c2, .int .i64 W.next, .int .i64 W.log, .int .i64 W.index, .int .i64 W.seq] 40) := ⟨_, rfl⟩
  have HX : Hid (Ext w w1) := by rw [hw1]; exact Ext.trans (ext_alloc _ _) (ext_alloc _ _)
  have HV : Hid (w1.heap[w.heap.size]? = some (.cells #[.int .i64 V.next, .int .i64 V.log, .int .i64 V.index, .int .i64 V.seq, .slice A L.length c] 36 (0, 0))) := by rw [hw1]; exact ext_heap (ext_alloc _ _) (heap_at _ _ rfl)
  have HEB : Hid (w1.heap[w.heap.size + 1]? = some (.cells #[.slice D l.length d0, .slice A2 E.length c2, .int .i64 W.next, .int .i64 W.log, .int .i64 W.index, .int .i64 W.seq] 40 (0, 0))) := by rw [hw1]; exact heap_at _ _ (by simp)
  obtain ⟨z, hz⟩ : ∃ z, z = (decide (L.length ≤ 100) && (decide (l.length ≤ 100) && decide (E.length ≤ 100))) := ⟨_, rfl⟩
  have HS := Lib.hid (sized_any (w := w1) (A := A) (A2 := A2) (D := D) (c := c) (c2 := c2) (d0 := d0) V W hz)
  have HZ := Lib.hid hz
  have HT := Lib.hid h
  have HTE := Lib.hid hE
  have HD := Lib.hid hD
  have HN2 := Lib.hid hn2
  have HLN := Lib.hid hln
  have HLN2 := Lib.hid hln2
  have c0 := ext_cell (Ext.refl w1) (cell_of HV.out (k := 0) rfl)
  have c1 := ext_cell (Ext.refl w1) (cell_of HV.out (k := 1) rfl)
  have c2_ := ext_cell (Ext.refl w1) (cell_of HV.out (k := 2) rfl)
  have c3 := ext_cell (Ext.refl w1) (cell_of HV.out (k := 3) rfl)
  have c4 := ext_cell (Ext.refl w1) (cell_of HV.out (k := 4) rfl)
  have d0_ := ext_cell (Ext.refl w1) (cell_of HEB.out (k := 0) rfl)
  have d1 := ext_cell (Ext.refl w1) (cell_of HEB.out (k := 1) rfl)
  have d2 := ext_cell (Ext.refl w1) (cell_of HEB.out (k := 2) rfl)
  have d3 := ext_cell (Ext.refl w1) (cell_of HEB.out (k := 3) rfl)
  have d4 := ext_cell (Ext.refl w1) (cell_of HEB.out (k := 4) rfl)
  have d5 := ext_cell (Ext.refl w1) (cell_of HEB.out (k := 5) rfl)
  clear h hE hD hn2 hln hln2 hz
  go_enter Try.func5, Try.ntmps5
  go_upto_region 1 with (fail)
  rw [← hw1]
  clear hw1
  go_wp2_with fail
  refine HS.out.mono ?_
  rintro e w2 ⟨rfl, hx2⟩
  have HX2 := Lib.hid hx2
  clear hx2
  cases z with
  | false =>
    go_wp2_with fail
    refine (known10_any w2).mono ?_
    rintro e w3 ⟨rfl, hx3⟩
    have HX3 : Hid (Ext w w3) := Ext.trans HX.out (Ext.trans HX2.out hx3)
    clear hx3
    go_wp2_with fail
    go_ret
    exact ⟨rfl, HX3.out⟩
  | true =>
    have HL : Hid (L.length ≤ 100 ∧ l.length ≤ 100 ∧ E.length ≤ 100) := by have h1 := HZ.out.symm; simp only [Bool.and_eq_true, decide_eq_true_eq] at h1; exact h1
    replace c0 := ext_cell HX2.out c0
    replace c1 := ext_cell HX2.out c1
    replace c2_ := ext_cell HX2.out c2_
    replace c3 := ext_cell HX2.out c3
    replace c4 := ext_cell HX2.out c4
    replace d0_ := ext_cell HX2.out d0_
    replace d1 := ext_cell HX2.out d1
    replace d2 := ext_cell HX2.out d2
    replace d3 := ext_cell HX2.out d3
    replace d4 := ext_cell HX2.out d4
    replace d5 := ext_cell HX2.out d5
    have HXW : Hid (Ext w w2) := Ext.trans HX.out HX2.out
    have HDO := Lib.hid (do_any (w := w2) (c := c) (d0 := d0) V W (HT.out.up HXW.out) (HTE.out.up HXW.out) ((HD.out.below HXW.out (Nat.le_refl _)).wide (Nat.le_refl _) HXW.out.size) HN2.out (Nat.le_trans HL.out.1 (by decide)) (Nat.le_trans HL.out.2.2 (by decide)) (Nat.le_trans HL.out.2.1 (by decide)))
    go_wp2_with fail
    refine HDO.out.mono ?_
    rintro e w3 hdo
    obtain ⟨hx3, X, A5, c5, R5, err, rfl, ht5, hrel⟩ := does_of hdo
    have HX3 := Lib.hid hx3
    have HT5 := Lib.hid ht5
    have HREL := Lib.hid hrel
    obtain ⟨w4, hw4⟩ : ∃ x, x = w3.alloc (.cells #[.int .i64 X.next, .int .i64 X.log, .int .i64 X.index, .int .i64 X.seq, .slice A5 R5.length c5] 36) := ⟨_, rfl⟩
    have HX4 : Hid (Ext w3 w4) := by rw [hw4]; exact ext_alloc _ _
    have HB5 : Hid (w4.heap[w3.heap.size]? = some (.cells #[.int .i64 X.next, .int .i64 X.log, .int .i64 X.index, .int .i64 X.seq, .slice A5 R5.length c5] 36 (0, 0))) := by rw [hw4]; exact heap_at _ _ rfl
    clear hdo hx3 ht5 hrel
    replace c0 := ext_cell (Ext.trans HX3.out HX4.out) c0
    replace c1 := ext_cell (Ext.trans HX3.out HX4.out) c1
    replace c2_ := ext_cell (Ext.trans HX3.out HX4.out) c2_
    replace c3 := ext_cell (Ext.trans HX3.out HX4.out) c3
    replace c4 := ext_cell (Ext.trans HX3.out HX4.out) c4
    replace d0_ := ext_cell (Ext.trans HX3.out HX4.out) d0_
    replace d1 := ext_cell (Ext.trans HX3.out HX4.out) d1
    replace d2 := ext_cell (Ext.trans HX3.out HX4.out) d2
    replace d3 := ext_cell (Ext.trans HX3.out HX4.out) d3
    replace d4 := ext_cell (Ext.trans HX3.out HX4.out) d4
    replace d5 := ext_cell (Ext.trans HX3.out HX4.out) d5
    go_upto_region 4 with (fail)
    rw [← hw4]
    clear hw4
    have HXW4 : Hid (Ext w w4) := Ext.trans HXW.out (Ext.trans HX3.out HX4.out)
    have HRD := Lib.hid (rdo_any (w := w4) (c := c) (d0 := d0) V W (HT.out.up HXW4.out) (HTE.out.up HXW4.out) ((HD.out.below HXW4.out (Nat.le_refl _)).wide (Nat.le_refl _) HXW4.out.size) HN2.out (Nat.le_trans HL.out.1 (by decide)) (Nat.le_trans HL.out.2.2 (by decide)) (Nat.le_trans HL.out.2.1 (by decide)) HLN.out HLN2.out)
    go_wp2_with fail
    refine HRD.out.mono ?_
    rintro e w5 ⟨hx5, A6, c6, R6, z, hp6, hs6, hz6, rfl, ho6⟩
    have HX5 := Lib.hid hx5
    have HTIE := Lib.hid (does_tie HREL.out hp6 hs6 hz6)
    have HT6 : Hid (tabs w5 0 w5.heap.size A6 R6 ∧ R6.length ≤ 1000 ∧ ∀ p ∈ R6, p.1.fst.length ≤ 140737488351232 ∧ p.1.lst.length ≤ 140737488351232) := by
      obtain ⟨O6, k6, e, hs, _⟩ := ho6.sl
      injection e with e1 _ _
      subst e1
      have hmem : ∀ p ∈ R6, p ∈ L ∨ p ∈ E := fun p hp => by
        rcases List.mem_append.1 (hp6.mem_iff.1 hp) with h | h
        · exact .inl (List.mem_of_mem_take (List.mem_filter.1 h).1)
        · exact .inr h
      have hx : Ext w w5 := Ext.trans HXW4.out hx5
      refine ⟨⟨hs.wide (Nat.zero_le _) (Nat.le_refl _), fun p hp => ?_⟩, ?_, fun p hp => ?_⟩
      · rcases hmem p hp with h | h
        · exact ((HT.out.each p h).below hx (Nat.le_refl _)).wide (Nat.le_refl _) hx.size
        · exact ((HTE.out.each p h).below hx (Nat.le_refl _)).wide (Nat.le_refl _) hx.size
      · have h1 := hp6.length_eq
        rw [List.length_append] at h1
        have h2 := keptT_le (fun t => decide (t.num ∈ l)) L L.length
        have h3 : (restT l L).length = (keptT (fun t => decide (t.num ∈ l)) L L.length).length := rfl
        have := HL.out
        omega
      · rcases hmem p hp with h | h
        · exact HLN.out p h
        · exact HLN2.out p h
    obtain ⟨w6, hw6⟩ : ∃ x, x = w5.alloc (.cells #[.int .i64 W.next, .int .i64 W.log, .int .i64 W.index, .int .i64 W.seq, .slice A6 R6.length c6] 36) := ⟨_, rfl⟩
    have HX6 : Hid (Ext w5 w6) := by rw [hw6]; exact ext_alloc _ _
    have HB6 : Hid (w6.heap[w5.heap.size]? = some (.cells #[.int .i64 W.next, .int .i64 W.log, .int .i64 W.index, .int .i64 W.seq, .slice A6 R6.length c6] 36 (0, 0))) := by rw [hw6]; exact heap_at _ _ rfl
    have HY6 : Hid (Ext w4 w6) := Ext.trans HX5.out HX6.out
    clear hx5 hp6 hs6 hz6 ho6
    replace c0 := ext_cell HY6.out c0
    replace c1 := ext_cell HY6.out c1
    replace c2_ := ext_cell HY6.out c2_
    replace c3 := ext_cell HY6.out c3
    replace c4 := ext_cell HY6.out c4
    replace d0_ := ext_cell HY6.out d0_
    replace d1 := ext_cell HY6.out d1
    replace d2 := ext_cell HY6.out d2
    replace d3 := ext_cell HY6.out d3
    replace d4 := ext_cell HY6.out d4
    replace d5 := ext_cell HY6.out d5
    have HG5 := Lib.hid (ext_heap HY6.out HB5.out)
    have x0 := cell_of HG5.out (k := 0) rfl
    have x1 := cell_of HG5.out (k := 1) rfl
    have x2 := cell_of HG5.out (k := 2) rfl
    have x3 := cell_of HG5.out (k := 3) rfl
    have x4 := cell_of HG5.out (k := 4) rfl
    have y0 := cell_of HB6.out (k := 0) rfl
    have y1 := cell_of HB6.out (k := 1) rfl
    have y2 := cell_of HB6.out (k := 2) rfl
    have y3 := cell_of HB6.out (k := 3) rfl
    have y4 := cell_of HB6.out (k := 4) rfl
    go_upto_region 5 with (fail)
    rw [← hw6]
    clear hw6
    have HXW6 : Hid (Ext w w6) := Ext.trans HXW4.out HY6.out
    obtain ⟨zv, hzv⟩ := bool_of (RMay V (L.map Prod.fst))
    obtain ⟨zt, hzt⟩ := bool_of (¬ l.Nodup)
    have HMV : Hid (∀ u, Ext w6 u → Calls Try.prog 21 #[.agg #[.int .i64 V.next, .int .i64 V.log, .int .i64 V.index, .int .i64 V.seq, .slice A L.length c]] u fun e w' => e = .returned (.bool zv) ∧ Ext u w') := fun u hu =>
      (rmay10_any (c := c) V (HT.out.up (Ext.trans HXW6.out hu)) (by have := HL.out; omega) HLN.out).mono fun e w' ⟨y, hy, he, hx⟩ => ⟨by rw [he, show y = zv by rw [Bool.eq_iff_iff, hy, hzv]], hx⟩
    have HTW : Hid (∀ u, Ext w6 u → Calls Try.prog 25 #[.slice D l.length d0] u fun e w' => e = .returned (.bool zt) ∧ Ext u w') := fun u hu =>
      (twice_any (c := d0) ((HD.out.below (Ext.trans HXW6.out hu) (Nat.le_refl _)).wide (Nat.le_refl _) (Ext.trans HXW6.out hu).size) (by have := HL.out; omega)).mono fun e w' ⟨y, hy, he, hx⟩ => ⟨by rw [he, show y = zt by rw [Bool.eq_iff_iff, hy, hzt]], hx⟩
    have HT5U : Hid (∀ u, Ext w6 u → tabs u 0 u.heap.size A5 R5) := fun u hu => HT5.out.up (Ext.trans HX4.out (Ext.trans HY6.out hu))
    have HT6U : Hid (∀ u, Ext w6 u → tabs u 0 u.heap.size A6 R6) := fun u hu => HT6.out.1.up (Ext.trans HX6.out hu)
    have HARG : Hid (argD V l L ↔ zv = true ∧ zt = false) := by rw [Hid, arg_iff, hzv]; exact ⟨fun h => ⟨h.1, by cases zt; rfl; exact absurd h.2 (hzt.1 rfl)⟩, fun h => ⟨h.1, Classical.byContradiction fun hn => by have := hzt.2 hn; rw [h.2] at this; cases this⟩⟩
    clear hzv hzt
    rcases HTIE.out with ⟨hna, rfl, rfl, rfl⟩ | ⟨ha, rfl, rfl, rfl, rfl⟩ | ⟨ha, rfl, rfl, rfl, hRR, hVM⟩
    · have z0 : zeroV.next = 0 := rfl
      have z1 : zeroV.log = 0 := rfl
      have z2 : zeroV.index = 0 := rfl
      have z3 : zeroV.seq = 0 := rfl
      rw [z0] at x0
      rw [z1] at x1
      rw [z2] at x2
      rw [z3] at x3
      clear z0 z1 z2 z3
      cases zv with
      | false =>
        go_wp2_with fail
        refine (HMV.out w6 (Ext.refl _)).mono ?_
        rintro e v1 ⟨rfl, hx1⟩
        have HXV := Lib.hid hx1
        replace c0 := ext_cell hx1 c0
        replace c1 := ext_cell hx1 c1
        replace c2_ := ext_cell hx1 c2_
        replace c3 := ext_cell hx1 c3
        replace c4 := ext_cell hx1 c4
        replace d0_ := ext_cell hx1 d0_
        replace x0 := ext_cell hx1 x0
        replace x1 := ext_cell hx1 x1
        replace x2 := ext_cell hx1 x2
        replace x3 := ext_cell hx1 x3
        replace x4 := ext_cell hx1 x4
        replace y0 := ext_cell hx1 y0
        replace y1 := ext_cell hx1 y1
        replace y2 := ext_cell hx1 y2
        replace y3 := ext_cell hx1 y3
        replace y4 := ext_cell hx1 y4
        clear hx1
        go_wp2_with fail
        refine (same_zero (HT5U.out v1 HXV.out)).mono ?_
        rintro e v3 ⟨rfl, hxs⟩
        have HXS : Hid (Ext w6 v3) := Ext.trans HXV.out hxs
        clear hxs
        go_wp2_with fail
        refine (known10_any v3).mono ?_
        rintro e v4 ⟨rfl, hxk⟩
        have HXK : Hid (Ext w v4) := Ext.trans HXW6.out (Ext.trans HXS.out hxk)
        clear hxk
        go_wp2_with fail
        go_ret
        exact ⟨rfl, HXK.out⟩
      | true =>
        obtain rfl : zt = true := by
          cases zt with
          | true => rfl
          | false => exact absurd (HARG.out.2 ⟨rfl, rfl⟩) hna
        go_wp2_with fail
        refine (HMV.out w6 (Ext.refl _)).mono ?_
        rintro e v1 ⟨rfl, hx1⟩
        have HX1 := Lib.hid hx1
        replace c0 := ext_cell hx1 c0
        replace c1 := ext_cell hx1 c1
        replace c2_ := ext_cell hx1 c2_
        replace c3 := ext_cell hx1 c3
        replace c4 := ext_cell hx1 c4
        replace d0_ := ext_cell hx1 d0_
        replace x0 := ext_cell hx1 x0
        replace x1 := ext_cell hx1 x1
        replace x2 := ext_cell hx1 x2
        replace x3 := ext_cell hx1 x3
        replace x4 := ext_cell hx1 x4
        replace y0 := ext_cell hx1 y0
        replace y1 := ext_cell hx1 y1
        replace y2 := ext_cell hx1 y2
        replace y3 := ext_cell hx1 y3
        replace y4 := ext_cell hx1 y4
        clear hx1
        go_wp2_with fail
        refine (HTW.out v1 HX1.out).mono ?_
        rintro e v2 ⟨rfl, hx2⟩
        have HXV : Hid (Ext w6 v2) := Ext.trans HX1.out hx2
        replace c0 := ext_cell hx2 c0
        replace c1 := ext_cell hx2 c1
        replace c2_ := ext_cell hx2 c2_
        replace c3 := ext_cell hx2 c3
        replace c4 := ext_cell hx2 c4
        replace d0_ := ext_cell hx2 d0_
        replace x0 := ext_cell hx2 x0
        replace x1 := ext_cell hx2 x1
        replace x2 := ext_cell hx2 x2
        replace x3 := ext_cell hx2 x3
        replace x4 := ext_cell hx2 x4
        replace y0 := ext_cell hx2 y0
        replace y1 := ext_cell hx2 y1
        replace y2 := ext_cell hx2 y2
        replace y3 := ext_cell hx2 y3
        replace y4 := ext_cell hx2 y4
        clear hx2
        go_wp2_with fail
        refine (same_zero (HT5U.out v2 HXV.out)).mono ?_
        rintro e v3 ⟨rfl, hxs⟩
        have HXS : Hid (Ext w6 v3) := Ext.trans HXV.out hxs
        clear hxs
        go_wp2_with fail
        refine (known10_any v3).mono ?_
        rintro e v4 ⟨rfl, hxk⟩
        have HXK : Hid (Ext w v4) := Ext.trans HXW6.out (Ext.trans HXS.out hxk)
        clear hxk
        go_wp2_with fail
        go_ret
        exact ⟨rfl, HXK.out⟩
    · have z0 : zeroV.next = 0 := rfl
      have z1 : zeroV.log = 0 := rfl
      have z2 : zeroV.index = 0 := rfl
      have z3 : zeroV.seq = 0 := rfl
      rw [z0] at x0
      rw [z1] at x1
      rw [z2] at x2
      rw [z3] at x3
      clear z0 z1 z2 z3
      obtain ⟨rfl, rfl⟩ := HARG.out.1 ha
      clear ha
      go_wp2_with fail
      refine (HMV.out w6 (Ext.refl _)).mono ?_
      rintro e v1 ⟨rfl, hx1⟩
      have HX1 := Lib.hid hx1
      replace c0 := ext_cell hx1 c0
      replace c1 := ext_cell hx1 c1
      replace c2_ := ext_cell hx1 c2_
      replace c3 := ext_cell hx1 c3
      replace c4 := ext_cell hx1 c4
      replace d0_ := ext_cell hx1 d0_
      replace x0 := ext_cell hx1 x0
      replace x1 := ext_cell hx1 x1
      replace x2 := ext_cell hx1 x2
      replace x3 := ext_cell hx1 x3
      replace x4 := ext_cell hx1 x4
      replace y0 := ext_cell hx1 y0
      replace y1 := ext_cell hx1 y1
      replace y2 := ext_cell hx1 y2
      replace y3 := ext_cell hx1 y3
      replace y4 := ext_cell hx1 y4
      clear hx1
      go_wp2_with fail
      refine (HTW.out v1 HX1.out).mono ?_
      rintro e v2 ⟨rfl, hx2⟩
      have HXV : Hid (Ext w6 v2) := Ext.trans HX1.out hx2
      replace c0 := ext_cell hx2 c0
      replace c1 := ext_cell hx2 c1
      replace c2_ := ext_cell hx2 c2_
      replace c3 := ext_cell hx2 c3
      replace c4 := ext_cell hx2 c4
      replace d0_ := ext_cell hx2 d0_
      replace x0 := ext_cell hx2 x0
      replace x1 := ext_cell hx2 x1
      replace x2 := ext_cell hx2 x2
      replace x3 := ext_cell hx2 x3
      replace x4 := ext_cell hx2 x4
      replace y0 := ext_cell hx2 y0
      replace y1 := ext_cell hx2 y1
      replace y2 := ext_cell hx2 y2
      replace y3 := ext_cell hx2 y3
      replace y4 := ext_cell hx2 y4
      clear hx2
      go_wp2_with fail
      refine (same_zero (HT5U.out v2 HXV.out)).mono ?_
      rintro e v3 ⟨rfl, hxs⟩
      have HXS : Hid (Ext w6 v3) := Ext.trans HXV.out hxs
      clear hxs
      go_wp2_with fail
      refine (known10_any v3).mono ?_
      rintro e v4 ⟨rfl, hxk⟩
      have HXK : Hid (Ext w v4) := Ext.trans HXW6.out (Ext.trans HXS.out hxk)
      clear hxk
      go_wp2_with fail
      go_ret
      exact ⟨rfl, HXK.out⟩
    · have HVM := Lib.hid hVM
      have HRR := Lib.hid hRR
      clear hVM hRR
      obtain ⟨rfl, rfl⟩ := HARG.out.1 ha
      clear ha
      go_wp2_with fail
      refine (HMV.out w6 (Ext.refl _)).mono ?_
      rintro e v1 ⟨rfl, hx1⟩
      have HX1 := Lib.hid hx1
      replace c0 := ext_cell hx1 c0
      replace c1 := ext_cell hx1 c1
      replace c2_ := ext_cell hx1 c2_
      replace c3 := ext_cell hx1 c3
      replace c4 := ext_cell hx1 c4
      replace d0_ := ext_cell hx1 d0_
      replace x0 := ext_cell hx1 x0
      replace x1 := ext_cell hx1 x1
      replace x2 := ext_cell hx1 x2
      replace x3 := ext_cell hx1 x3
      replace x4 := ext_cell hx1 x4
      replace y0 := ext_cell hx1 y0
      replace y1 := ext_cell hx1 y1
      replace y2 := ext_cell hx1 y2
      replace y3 := ext_cell hx1 y3
      replace y4 := ext_cell hx1 y4
      clear hx1
      go_wp2_with fail
      refine (HTW.out v1 HX1.out).mono ?_
      rintro e v2 ⟨rfl, hx2⟩
      have HXV : Hid (Ext w6 v2) := Ext.trans HX1.out hx2
      replace c0 := ext_cell hx2 c0
      replace c1 := ext_cell hx2 c1
      replace c2_ := ext_cell hx2 c2_
      replace c3 := ext_cell hx2 c3
      replace c4 := ext_cell hx2 c4
      replace d0_ := ext_cell hx2 d0_
      replace x0 := ext_cell hx2 x0
      replace x1 := ext_cell hx2 x1
      replace x2 := ext_cell hx2 x2
      replace x3 := ext_cell hx2 x3
      replace x4 := ext_cell hx2 x4
      replace y0 := ext_cell hx2 y0
      replace y1 := ext_cell hx2 y1
      replace y2 := ext_cell hx2 y2
      replace y3 := ext_cell hx2 y3
      replace y4 := ext_cell hx2 y4
      clear hx2
      go_wp2_with fail
      refine Calls.mono (rsame_any (c := c5) (c2 := c6) X X (HT5U.out v2 HXV.out) (HT6U.out v2 HXV.out) (by have := congrArg List.length HRR.out; simp only [List.length_map] at this; have := HT6.out.2.1; omega) (by have := HT6.out.2.1; omega)) ?_
      rintro e v3 ⟨ys, hys, rfl, hxs⟩
      obtain rfl : ys = true := hys.2 ⟨rfl, HRR.out⟩
      have HXS : Hid (Ext w6 v3) := Ext.trans HXV.out hxs
      replace c0 := ext_cell hxs c0
      replace c1 := ext_cell hxs c1
      replace c2_ := ext_cell hxs c2_
      replace c3 := ext_cell hxs c3
      replace c4 := ext_cell hxs c4
      replace d0_ := ext_cell hxs d0_
      replace x0 := ext_cell hxs x0
      replace x1 := ext_cell hxs x1
      replace x2 := ext_cell hxs x2
      replace x3 := ext_cell hxs x3
      replace x4 := ext_cell hxs x4
      replace y0 := ext_cell hxs y0
      replace y1 := ext_cell hxs y1
      replace y2 := ext_cell hxs y2
      replace y3 := ext_cell hxs y3
      replace y4 := ext_cell hxs y4
      clear hxs hys
      go_wp2_with fail
      refine Calls.mono (vmay_any (c := c5) X (HT5U.out v3 HXS.out) (Nat.le_refl _) (by have := congrArg List.length HRR.out; simp only [List.length_map] at this; have := HT6.out.2.1; omega)) ?_
      rintro e v5 ⟨ym, hym, rfl, hxm⟩
      obtain rfl : ym = true := hym.2 HVM.out
      have HXM : Hid (Ext w6 v5) := Ext.trans HXS.out hxm
      clear hxm hym
      go_wp2_with fail
      refine (known10_any v5).mono ?_
      rintro e v4 ⟨rfl, hxk⟩
      have HXK : Hid (Ext w v4) := Ext.trans HXW6.out (Ext.trans HXM.out hxk)
      clear hxk
      go_wp2_with fail
      go_ret
      exact ⟨rfl, HXK.out⟩

theorem editDoes.walk (w : World) (V : Ver) (A : Option Addr) (c : Nat) (L : List (Tab × TabH)) (_hb : I64 V.next ∧ I64 V.log ∧ I64 V.index ∧ I64 V.seq) (h : tabs w 0 w.heap.size A L) (hln : ∀ p ∈ L, p.1.fst.length ≤ 140737488351232 ∧ p.1.lst.length ≤ 140737488351232) (_hn : A = none → c = 0)
    (D : Option Addr) (d0 : Nat) (l : List Int) (A2 : Option Addr) (c2 : Nat) (E : List (Tab × TabH)) (W : Ver) (hD : Sl w 0 w.heap.size D (ints l)) (hE : tabs w 0 w.heap.size A2 E) (hln2 : ∀ p ∈ E, p.1.fst.length ≤ 140737488351232 ∧ p.1.lst.length ≤ 140737488351232) (hn2 : A2 = none → c2 = 0) (_hb2 : I64 W.next ∧ I64 W.log ∧ I64 W.index ∧ I64 W.seq) :
    Calls Try.prog 5 #[.agg #[.int .i64 V.next, .int .i64 V.log, .int .i64 V.index, .int .i64 V.seq, .slice A L.length c], .agg #[.slice D l.length d0, .slice A2 E.length c2, .int .i64 W.next, .int .i64 W.log, .int .i64 W.index, .int .i64 W.seq]] w fun e w' => e = .returned (.bool true) ∧ Ext w w' :=
  ledoes_any V W h hE hD hn2 hln hln2
end Go.Proofs.Ytjlppjffkebejaa

/- EditDoes: from the walk to the statement. For every input the law answers true and leaves its arguments as they were. -/
namespace Go.Proofs.Ytjlppjffkebejaa.editDoes
open Go.ChangeShapes Go.WideShapes Go.ChangeAt Go.RowKit
set_option linter.unusedVariables false

set_option maxRecDepth 100000 in
theorem lifted (os : Os) (started : os.Started) (H : Type) (enc : TypeId × Value → H) :
    ReturnsInHanded {} Try.checked os 5 .any (Rows.editDoesSpec.pre6 enc Try.prog Try.f5 Rows.editDoesRow.domain false) (Rows.editDoesSpec.post enc Try.prog Try.f5 false true false false) := by
  refine returnsInHanded_of_change_sized (C := Try.checked) own started (by kernel_rfl) Try.func5
    (ChangeSpec.witness6 (enc := enc) (C := Try.checked) false ⟨#[], #[.agg #[.int .i64 0, .int .i64 0, .int .i64 0, .int .i64 0, .slice none 0 0], .agg #[.slice none 0 0, .slice none 0 0, .int .i64 0, .int .i64 0, .int .i64 0, .int .i64 0]], []⟩ 8 (by kernel_rfl) (by kernel_rfl) (by kernel_rfl) (by kernel_rfl)) ?_
  intro W base args ds gs before hval0 hW hcnd hsz0 _
  have hsz : (DataW.weightsEach Try.prog (Try.f5.params.toList ++ Rows.editDoesSpec.plain.varTypes Try.prog) (ds ++ gs)).all (· ≤ reachBytes) = true := hsz0
  have hval : ∀ (j : Nat) t v, Try.f5.params[j]? = some t → args[j]? = some v → Value.okWide Try.prog W .any base t v := hval0
  have hW' := hW
  obtain ⟨p, q, hA0, hV, rfl, hfz, hnd⟩ := hW
  have hA : DataW.TrodAll enc Try.prog W 0 (fun _ => true) true Try.f5.params.toList args.toList ds p := hA0
  rw [Try.params5] at hA hval hsz
  obtain ⟨v0, vs0, d0, ds0, p0, q0, hargs, rfl, rfl, h0, r0⟩ := trodAll_cons hA
  obtain ⟨v1, vs1, d1, ds1, p1, q1, rfl, rfl, rfl, h1, r1⟩ := trodAll_cons r0
  obtain ⟨rfl, rfl, rfl⟩ := trodAll_nil r1
  obtain rfl : args = #[v0, v1] := by cases args; simp_all
  obtain ⟨rfl, rfl⟩ := trodVars_none hV
  have k0 := h0
  have lt0 : ∀ x ∈ p0, x.block < W.heap.size := by obtain ⟨m, hm⟩ := k0; exact DataW.trod_lt m _ _ _ hm
  obtain ⟨V0, A0, c0, L0, rfl, b0, m0, z0, n0⟩ := open_ver (hval 0 36 v0 rfl rfl) h0 hsz (jj := 0) rfl rfl
  have k1 := h1
  have lt1 : ∀ x ∈ p1, x.block < W.heap.size := by obtain ⟨m, hm⟩ := k1; exact DataW.trod_lt m _ _ _ hm
  obtain ⟨D1, k1_, l1, A1, c1, E1, V1, rfl, s1, m1, z1, n1, b1⟩ := open_edit (hval 1 40 v1 rfl rfl) h1 hsz (jj := 1) rfl rfl
  clear hA0 hval0 hsz0
  refine (walk W V0 A0 c0 L0 b0 m0 z0 n0 D1 k1_ l1 A1 c1 E1 V1 s1 m1 z1 n1 b1).mono fun e W' ⟨he, bel⟩ => ?_
  subst he
  exact ⟨_, rfl, _, _, _, [], _, [], hW', trodAll_mk1 (shut_bool Try.underlying4 _), (trodAll_cons_mk (Below.trod laidOut (by kernel_rfl) (of_decide_eq_true (by kernel_rfl)) k0 bel lt0) (trodAll_cons_mk (Below.trod laidOut (by kernel_rfl) (of_decide_eq_true (by kernel_rfl)) k1 bel lt1) trodAll_mk0)), rfl, bel.frame _, fun h => by cases h⟩

theorem over : Rows.editDoesRow.holds Try.pinned (OpenSpec.ofChange Rows.editDoesSpec) :=
  OpenClaim.holds_of_wide 5 Try.f5 rfl rfl rfl rfl rfl rfl rfl ⟨rfl, rfl, rfl, rfl, rfl⟩ rfl rfl rfl rfl rfl (by kernel_rfl) Try.func5 (by kernel_rfl)
    (of_decide_eq_true (by kernel_rfl)) (by unfold Func.isWrapper; first | (rw [if_pos (by decide +kernel)]; kernel_rfl) | (rw [if_neg (by decide +kernel)]; exact ⟨rfl, rfl⟩))
    (fun os started H enc _ => lifted os started H enc)

theorem proved : Rows.EditDoesSaid := over
end Go.Proofs.Ytjlppjffkebejaa.editDoes
