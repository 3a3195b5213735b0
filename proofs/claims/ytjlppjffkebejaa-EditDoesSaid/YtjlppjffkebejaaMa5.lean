/- Efun Eorder Shelf Esort Efiles Enums Emay Erow, joined. -/
import Derived.Test.YtjlppjffkebejaaMa4
import Derived.Test.YtjlppjffkebejaaMa3
import Derived.Shelf.SortM.Plain
import Derived.Shelf.SortM.SortNone
import Derived.Shelf.SlSortCmp.NoneTotal
import Derived.Shelf.SlicesG.SearchI
import Derived.Ground.SlgmProg
import Derived.Ground.SlsfProg
import Derived.Ground.SlgnProg
import Derived.Test.YtjlppjffkebejaaProg
import Derived.Test.YtjlppjffkebejaaMa1

/- What edit's small functions answer of tables in memory. -/
namespace Go.Proofs.Ytjlppjffkebejaa
open Go.ChangeShapes Go.WideShapes Go.ChangeAt Go.RowKit

def tabV (p : Tab × TabH) : Value := .agg (tabcells p).toArray

theorem keymay_any (A : Option Addr) (n c : Nat) (w : World) : Calls Try.prog 150 #[.slice A n c] w fun e w' => e = .returned (.bool (mayN n 1 2 0)) ∧ Ext w w' := by
  have HM := Lib.hid (may_any A none n c 0 0 1 2 w)
  go_enter Try.func150, Try.ntmps150
  go_wp2_with fail
  refine Calls.mono HM.out ?_
  rintro e w' ⟨rfl, hx⟩
  go_wp2
  go_ret
  exact ⟨rfl, hx⟩

theorem nani_any (s : Int) (w : World) : Calls Try.prog 187 #[.int .i64 s] w fun e w' => e = .returned (.bool false) ∧ w' = w := by
  have d : (s != s) = false := by simp
  go_enter Try.func187, Try.ntmps187
  go_wp2
  go_ret
  exact ⟨rfl, rfl⟩
theorem cmpi_any (s t : Int) (w : World) : Calls Try.prog 158 #[.int .i64 s, .int .i64 t] w fun e w' => e = .returned (.int .i64 (cmpI s t)) ∧ w' = w := by
  obtain ⟨c, hc⟩ : ∃ c, c = cmpI s t := ⟨_, rfl⟩
  rw [← hc]
  rcases Int.lt_trichotomy s t with h | h | h
  · obtain rfl : c = -1 := by rw [hc]; unfold cmpI; rw [if_pos h]
    have d : decide (s < t) = true := by simp [h]
    clear hc h
    go_enter Try.func158, Try.ntmps158
    go_wp2_with (go_at_call 187; refine (nani_any _ _).mono ?_; rintro e w' ⟨rfl, rfl⟩)
    go_ret
    exact ⟨rfl, rfl⟩
  · subst h
    obtain rfl : c = 0 := by rw [hc]; unfold cmpI; rw [if_neg (by omega), if_neg (by omega)]
    have d : decide (s < s) = false := by simp
    clear hc
    go_enter Try.func158, Try.ntmps158
    go_wp2_with (go_at_call 187; refine (nani_any _ _).mono ?_; rintro e w' ⟨rfl, rfl⟩)
    go_ret
    exact ⟨rfl, rfl⟩
  · obtain rfl : c = 1 := by rw [hc]; unfold cmpI; rw [if_neg (by omega), if_pos h]
    have d : decide (s < t) = false := by simp; omega
    have d2 : decide (t < s) = true := by simp [h]
    clear hc h
    go_enter Try.func158, Try.ntmps158
    go_wp2_with (go_at_call 187; refine (nani_any _ _).mono ?_; rintro e w' ⟨rfl, rfl⟩)
    go_ret
    exact ⟨rfl, rfl⟩
theorem cmpS_I (s t : Int) : cmpS t s = cmpI s t := rfl

set_option maxHeartbeats 2000000 in
theorem placemay_any {w : World} {lo hi : Nat} {p : Tab × TabH} (m : tabAt w lo hi p) (h1 : hi ≤ w.heap.size) : Calls Try.prog 116 #[tabV p] w
    fun e w' => e = .returned (.bool (placeM p.1)) ∧ Ext w w' := by
  obtain ⟨⟨num, lev, fst, lst, siz⟩, fA, fc, lA, lc⟩ := p
  change Calls Try.prog _ #[.agg #[.int .i64 num, .int .i64 lev, .slice fA fst.length fc, .slice lA lst.length lc, .int .i64 siz]] w _
  have mf : Bs w lo hi (.slice fA fst.length fc) fst := m.fst
  have ml : Bs w lo hi (.slice lA lst.length lc) lst := m.lst
  have bf : ∀ x ∈ fst, x < 256 := m.fstb
  have bl : ∀ x ∈ lst, x < 256 := m.lstb
  clear m
  change Calls Try.prog _ _ w fun e w' => e = .returned (.bool (placeM ⟨num, lev, fst, lst, siz⟩)) ∧ Ext w w'
  obtain ⟨z, hz⟩ : ∃ z, z = placeM ⟨num, lev, fst, lst, siz⟩ := ⟨_, rfl⟩
  rw [← hz]
  obtain ⟨w1, hw1⟩ : ∃ w1, w1 = w.alloc (.cells #[.int .i64 num, .int .i64 lev, .slice fA fst.length fc, .slice lA lst.length lc, .int .i64 siz] 85) := ⟨_, rfl⟩
  have HX : Hid (Ext w w1) := by rw [hw1]; exact ext_alloc _ _
  have c2 : w1.cell? ⟨w.heap.size, 2, none⟩ = some (.slice fA fst.length fc) := by rw [hw1]; exact cell_of (heap_at _ _ rfl) rfl
  have c3 : w1.cell? ⟨w.heap.size, 3, none⟩ = some (.slice lA lst.length lc) := by rw [hw1]; exact cell_of (heap_at _ _ rfl) rfl
  have HK := Lib.hid (keymay_any fA fst.length fc w1)
  have HL := Lib.hid (fun w2 => keymay_any lA lst.length lc w2)
  have HC := Lib.hid (fun (w2 : World) (hx : Ext w1 w2) => keys_any ((mf.below HX.out h1).below hx (Nat.le_trans h1 HX.out.size)) ((ml.below HX.out h1).below hx (Nat.le_trans h1 HX.out.size)) bf bl)
  clear mf ml bf bl h1
  by_cases n1 : num < 1
  · obtain rfl : z = false := by rw [hz, Bool.eq_false_iff]; intro hp; obtain ⟨q1, q2, q3, q4, q5, q6, _⟩ : 1 ≤ num ∧ num ≤ 2147483647 ∧ 0 ≤ lev ∧ lev < 4 ∧ 1 ≤ siz ∧ siz ≤ 2147483647 ∧ _ := placeM_iff.1 hp; omega
    have d_n1 : decide (num < 1) = true := decide_eq_true n1
    subst hw1
    clear hz HK HL HC c2 c3
    go_enter Try.func116, Try.ntmps116
    go_wp2_with fail
    go_ret
    exact ⟨rfl, HX.out⟩
  have d_n1 : decide (num < 1) = false := decide_eq_false n1
  by_cases n2 : 2147483647 < num
  · obtain rfl : z = false := by rw [hz, Bool.eq_false_iff]; intro hp; obtain ⟨q1, q2, q3, q4, q5, q6, _⟩ : 1 ≤ num ∧ num ≤ 2147483647 ∧ 0 ≤ lev ∧ lev < 4 ∧ 1 ≤ siz ∧ siz ≤ 2147483647 ∧ _ := placeM_iff.1 hp; omega
    have d_n2 : decide (2147483647 < num) = true := decide_eq_true n2
    subst hw1
    clear hz HK HL HC c2 c3
    go_enter Try.func116, Try.ntmps116
    go_wp2_with fail
    go_ret
    exact ⟨rfl, HX.out⟩
  have d_n2 : decide (2147483647 < num) = false := decide_eq_false n2
  by_cases l1 : lev < 0
  · obtain rfl : z = false := by rw [hz, Bool.eq_false_iff]; intro hp; obtain ⟨q1, q2, q3, q4, q5, q6, _⟩ : 1 ≤ num ∧ num ≤ 2147483647 ∧ 0 ≤ lev ∧ lev < 4 ∧ 1 ≤ siz ∧ siz ≤ 2147483647 ∧ _ := placeM_iff.1 hp; omega
    have d_l1 : decide (lev < 0) = true := decide_eq_true l1
    subst hw1
    clear hz HK HL HC c2 c3
    go_enter Try.func116, Try.ntmps116
    go_wp2_with fail
    go_ret
    exact ⟨rfl, HX.out⟩
  have d_l1 : decide (lev < 0) = false := decide_eq_false l1
  by_cases l2 : 4 ≤ lev
  · obtain rfl : z = false := by rw [hz, Bool.eq_false_iff]; intro hp; obtain ⟨q1, q2, q3, q4, q5, q6, _⟩ : 1 ≤ num ∧ num ≤ 2147483647 ∧ 0 ≤ lev ∧ lev < 4 ∧ 1 ≤ siz ∧ siz ≤ 2147483647 ∧ _ := placeM_iff.1 hp; omega
    have d_l2 : decide (4 ≤ lev) = true := decide_eq_true l2
    subst hw1
    clear hz HK HL HC c2 c3
    go_enter Try.func116, Try.ntmps116
    go_wp2_with fail
    go_ret
    exact ⟨rfl, HX.out⟩
  have d_l2 : decide (4 ≤ lev) = false := decide_eq_false l2
  by_cases s1 : siz < 1
  · obtain rfl : z = false := by rw [hz, Bool.eq_false_iff]; intro hp; obtain ⟨q1, q2, q3, q4, q5, q6, _⟩ : 1 ≤ num ∧ num ≤ 2147483647 ∧ 0 ≤ lev ∧ lev < 4 ∧ 1 ≤ siz ∧ siz ≤ 2147483647 ∧ _ := placeM_iff.1 hp; omega
    have d_s1 : decide (siz < 1) = true := decide_eq_true s1
    subst hw1
    clear hz HK HL HC c2 c3
    go_enter Try.func116, Try.ntmps116
    go_wp2_with fail
    go_ret
    exact ⟨rfl, HX.out⟩
  have d_s1 : decide (siz < 1) = false := decide_eq_false s1
  by_cases s2 : 2147483647 < siz
  · obtain rfl : z = false := by rw [hz, Bool.eq_false_iff]; intro hp; obtain ⟨q1, q2, q3, q4, q5, q6, _⟩ : 1 ≤ num ∧ num ≤ 2147483647 ∧ 0 ≤ lev ∧ lev < 4 ∧ 1 ≤ siz ∧ siz ≤ 2147483647 ∧ _ := placeM_iff.1 hp; omega
    have d_s2 : decide (2147483647 < siz) = true := decide_eq_true s2
    subst hw1
    clear hz HK HL HC c2 c3
    go_enter Try.func116, Try.ntmps116
    go_wp2_with fail
    go_ret
    exact ⟨rfl, HX.out⟩
  have d_s2 : decide (2147483647 < siz) = false := decide_eq_false s2
  have hz2 : z = (mayN fst.length 1 2 0 && mayN lst.length 1 2 0 && decide (cmpK fst lst ≤ 0)) := by
    rw [hz]
    unfold placeM
    rw [decide_eq_true (show 1 ≤ num by omega), decide_eq_true (show num ≤ 2147483647 by omega), decide_eq_true (show 0 ≤ lev by omega), decide_eq_true (show lev < 4 by omega), decide_eq_true (show 1 ≤ siz by omega), decide_eq_true (show siz ≤ 2147483647 by omega)]
    rfl
  clear hz
  obtain ⟨a, ha⟩ : ∃ a, a = mayN fst.length 1 2 0 := ⟨_, rfl⟩
  obtain ⟨b, hb⟩ : ∃ b, b = mayN lst.length 1 2 0 := ⟨_, rfl⟩
  obtain ⟨k, hk⟩ : ∃ k, k = cmpK fst lst := ⟨_, rfl⟩
  obtain ⟨t, ht⟩ : ∃ t, t = decide (k ≤ 0) := ⟨_, rfl⟩
  rw [← ha] at HK hz2
  rw [← hb] at HL hz2
  rw [← hk] at HC hz2
  rw [← ht] at hz2
  clear ha hb hk n1 n2 l1 l2 s1 s2
  have d_t := ht.symm
  clear ht
  have fin : ∀ {u1 u2 : World}, Hid (Ext w w1) → Ext w1 u1 → Ext u1 u2 → Ext w u2 := fun h h1 h2 => (h.out.trans h1).trans h2
  subst hw1
  cases a
  · obtain rfl : z = false := by rw [hz2]; rfl
    clear hz2
    go_enter Try.func116, Try.ntmps116
    go_wp2_with fail
    refine Calls.mono HK.out ?_
    rintro e w2 ⟨rfl, hx⟩
    have f1 := Lib.hid (Ext.trans HX.out hx)
    go_wp2_with fail
    go_ret
    exact ⟨rfl, f1.out⟩
  cases b
  · obtain rfl : z = false := by rw [hz2]; rfl
    clear hz2
    go_enter Try.func116, Try.ntmps116
    go_wp2_with fail
    refine Calls.mono HK.out ?_
    rintro e w2 ⟨rfl, hx⟩
    have q2 := ext_cell hx c2
    have q3 := ext_cell hx c3
    clear c2 c3
    go_wp2_with fail
    refine (HL.out _).mono ?_
    rintro e w3 ⟨rfl, hx3⟩
    have r2 := ext_cell hx3 q2
    have r3 := ext_cell hx3 q3
    clear q2 q3
    have f1 := Lib.hid (fin HX hx hx3)
    go_wp2_with fail
    go_ret
    exact ⟨rfl, f1.out⟩
  · obtain rfl : z = t := by rw [hz2]; rfl
    clear hz2
    go_enter Try.func116, Try.ntmps116
    go_wp2_with fail
    refine Calls.mono HK.out ?_
    rintro e w2 ⟨rfl, hx⟩
    have q2 := ext_cell hx c2
    have q3 := ext_cell hx c3
    clear c2 c3
    go_wp2_with fail
    refine (HL.out _).mono ?_
    rintro e w3 ⟨rfl, hx3⟩
    have r2 := ext_cell hx3 q2
    have r3 := ext_cell hx3 q3
    clear q2 q3
    have f1 := Lib.hid (fin HX hx hx3)
    go_wp2_with fail
    refine (HC.out w3 (hx.trans hx3)).mono ?_
    rintro e w4 ⟨rfl, rfl⟩
    go_wp2_with fail
    go_ret
    exact ⟨rfl, f1.out⟩
/-- Two boxes that a comparison makes. -/
def box2 (w : World) (p q : Tab × TabH) : World := (w.alloc (.cells (tabcells p).toArray 85)).alloc (.cells (tabcells q).toArray 85)
theorem box2_ext (w : World) (p q : Tab × TabH) : Ext w (box2 w p q) := Ext.trans (ext_alloc _ _) (ext_alloc _ _)
set_option maxHeartbeats 2000000 in
theorem cmpt_any {w : World} {lo hi lo2 hi2 : Nat} {p q : Tab × TabH} (m : tabAt w lo hi p) (m2 : tabAt w lo2 hi2 q) (h1 : hi ≤ w.heap.size) (h2 : hi2 ≤ w.heap.size) : Calls Try.prog 123 #[tabV p, tabV q] w
    fun e w' => e = .returned (.int .i64 (cmpT p.1 q.1)) ∧ w' = box2 w p q := by
  have hx := box2_ext w p q
  have HK := Lib.hid (keys_any (m.fst.below hx h1) (m2.fst.below hx h2) m.fstb m2.fstb)
  clear m m2 h1 h2 hx
  obtain ⟨⟨num, lev, fst, lst, siz⟩, fA, fc, lA, lc⟩ := p
  obtain ⟨⟨num2, lev2, fst2, lst2, siz2⟩, fA2, fc2, lA2, lc2⟩ := q
  change Calls Try.prog _ #[.agg #[.int .i64 num, .int .i64 lev, .slice fA fst.length fc, .slice lA lst.length lc, .int .i64 siz], .agg #[.int .i64 num2, .int .i64 lev2, .slice fA2 fst2.length fc2, .slice lA2 lst2.length lc2, .int .i64 siz2]] w fun e w' => e = .returned (.int .i64 (cmpT ⟨num, lev, fst, lst, siz⟩ ⟨num2, lev2, fst2, lst2, siz2⟩)) ∧ w' = box2 w _ _
  change Hid (Calls Try.prog _ #[.slice fA fst.length fc, .slice fA2 fst2.length fc2] (box2 w _ _) fun e w' => e = .returned (.int .i64 (cmpK fst fst2)) ∧ w' = _) at HK
  obtain ⟨z, hz⟩ : ∃ z, z = cmpT ⟨num, lev, fst, lst, siz⟩ ⟨num2, lev2, fst2, lst2, siz2⟩ := ⟨_, rfl⟩
  rw [← hz]
  have hz2 : z = if lev = lev2 then (if lev = 0 then cmpI num2 num else cmpK fst fst2) else cmpI lev lev2 := hz
  clear hz
  obtain ⟨k, hk⟩ : ∃ k, k = cmpK fst fst2 := ⟨_, rfl⟩
  rw [← hk] at HK hz2
  clear hk
  have HL := Lib.hid (cmpi_any lev lev2)
  have HN := Lib.hid (icmp_any num2 num)
  rw [cmpS_I] at HN
  obtain ⟨kn, hkn⟩ : ∃ k, k = cmpI num2 num := ⟨_, rfl⟩
  rw [← hkn] at HN hz2
  obtain ⟨kl, hkl⟩ : ∃ k, k = cmpI lev lev2 := ⟨_, rfl⟩
  rw [← hkl] at HL hz2
  clear hkn hkl
  by_cases h0 : lev = lev2
  · rw [if_pos h0] at hz2
    have d1 : (lev != lev2) = false := by simp [h0]
    by_cases h3 : lev = 0
    · rw [if_pos h3] at hz2
      have d2 : (lev == 0) = true := by simp [h3]
      have HZ := Lib.hid hz2
      clear h0 h3 hz2 HL HK
      go_enter Try.func123, Try.ntmps123
      go_wp2_with fail
      refine (HN.out _).mono ?_
      rintro e w' ⟨rfl, rfl⟩
      go_wp2_with fail
      go_ret
      exact ⟨by rw [HZ.out]; rfl, rfl⟩
    · rw [if_neg h3] at hz2
      have d2 : (lev == 0) = false := by simp [h3]
      have HZ := Lib.hid hz2
      clear h0 h3 hz2 HL HN
      go_enter Try.func123, Try.ntmps123
      go_wp2_with fail
      refine Calls.mono HK.out ?_
      rintro e w' ⟨rfl, rfl⟩
      go_wp2_with fail
      go_ret
      exact ⟨by rw [HZ.out]; rfl, rfl⟩
  · rw [if_neg h0] at hz2
    have d1 : (lev != lev2) = true := by simp [h0]
    have HZ := Lib.hid hz2
    clear h0 hz2 HK HN
    go_enter Try.func123, Try.ntmps123
    go_wp2_with fail
    refine (HL.out _).mono ?_
    rintro e w' ⟨rfl, rfl⟩
    go_wp2_with fail
    go_ret
    exact ⟨by rw [HZ.out]; rfl, rfl⟩

set_option maxHeartbeats 2000000 in
theorem ahead_any {w : World} {lo hi lo2 hi2 : Nat} {p q : Tab × TabH} (m : tabAt w lo hi p) (m2 : tabAt w lo2 hi2 q) (h1 : hi ≤ w.heap.size) (h2 : hi2 ≤ w.heap.size) : Calls Try.prog 117 #[tabV p, tabV q] w
    fun e w' => e = .returned (.bool (aheadT p.1 q.1)) ∧ Ext w w' := by
  have hx := Lib.hid (box2_ext w p q)
  have HK := Lib.hid (keys_any (m.lst.below hx.out h1) (m2.fst.below hx.out h2) m.lstb m2.fstb)
  have HC := Lib.hid (cmpt_any (m.below hx.out h1) (m2.below hx.out h2) (Nat.le_trans h1 hx.out.size) (Nat.le_trans h2 hx.out.size))
  have HX : Hid (Ext w (box2 (box2 w p q) p q)) := Ext.trans hx.out (box2_ext _ _ _)
  clear m m2 h1 h2
  obtain ⟨⟨num, lev, fst, lst, siz⟩, fA, fc, lA, lc⟩ := p
  obtain ⟨⟨num2, lev2, fst2, lst2, siz2⟩, fA2, fc2, lA2, lc2⟩ := q
  obtain ⟨z, hz⟩ : ∃ z, z = aheadT ⟨num, lev, fst, lst, siz⟩ ⟨num2, lev2, fst2, lst2, siz2⟩ := ⟨_, rfl⟩
  change Calls Try.prog _ #[.agg #[.int .i64 num, .int .i64 lev, .slice fA fst.length fc, .slice lA lst.length lc, .int .i64 siz], .agg #[.int .i64 num2, .int .i64 lev2, .slice fA2 fst2.length fc2, .slice lA2 lst2.length lc2, .int .i64 siz2]] w fun e w' => e = .returned (.bool (aheadT ⟨num, lev, fst, lst, siz⟩ ⟨num2, lev2, fst2, lst2, siz2⟩)) ∧ Ext w w'
  change Hid (Calls Try.prog _ #[.slice lA lst.length lc, .slice fA2 fst2.length fc2] (box2 w _ _) fun e w' => e = .returned (.int .i64 (cmpK lst fst2)) ∧ w' = _) at HK
  change Hid (Calls Try.prog _ #[.agg #[.int .i64 num, .int .i64 lev, .slice fA fst.length fc, .slice lA lst.length lc, .int .i64 siz], .agg #[.int .i64 num2, .int .i64 lev2, .slice fA2 fst2.length fc2, .slice lA2 lst2.length lc2, .int .i64 siz2]] (box2 w _ _) fun e w' => e = .returned (.int .i64 (cmpT ⟨num, lev, fst, lst, siz⟩ ⟨num2, lev2, fst2, lst2, siz2⟩)) ∧ w' = _) at HC
  rw [← hz]
  have hz2 : z = if lev = lev2 ∧ 0 < lev then decide (cmpK lst fst2 < 0) else decide (cmpT ⟨num, lev, fst, lst, siz⟩ ⟨num2, lev2, fst2, lst2, siz2⟩ < 0) := hz
  clear hz
  obtain ⟨k, hk⟩ : ∃ k, k = cmpK lst fst2 := ⟨_, rfl⟩
  rw [← hk] at HK hz2
  obtain ⟨c, hc⟩ : ∃ k, k = cmpT ⟨num, lev, fst, lst, siz⟩ ⟨num2, lev2, fst2, lst2, siz2⟩ := ⟨_, rfl⟩
  rw [← hc] at HC hz2
  clear hk hc
  by_cases h0 : lev = lev2
  · have d1 : (lev == lev2) = true := by simp [h0]
    by_cases h3 : 0 < lev
    · rw [if_pos ⟨h0, h3⟩] at hz2
      have d2 : decide (0 < lev) = true := decide_eq_true h3
      have d3 := hz2.symm
      clear h0 h3 hz2 HC
      go_enter Try.func117, Try.ntmps117
      go_wp2_with fail
      refine Calls.mono HK.out ?_
      rintro e w' ⟨rfl, rfl⟩
      go_wp2_with fail
      go_ret
      exact ⟨rfl, hx.out⟩
    · rw [if_neg (fun h => h3 h.2)] at hz2
      have d2 : decide (0 < lev) = false := decide_eq_false h3
      have d3 := hz2.symm
      clear h0 h3 hz2 HK
      go_enter Try.func117, Try.ntmps117
      go_wp2_with fail
      refine Calls.mono HC.out ?_
      rintro e w' ⟨rfl, rfl⟩
      go_wp2_with fail
      go_ret
      exact ⟨rfl, HX.out⟩
  · rw [if_neg (fun h => h0 h.1)] at hz2
    have d1 : (lev == lev2) = false := by simp [h0]
    have d3 := hz2.symm
    clear h0 hz2 HK
    go_enter Try.func117, Try.ntmps117
    go_wp2_with fail
    refine Calls.mono HC.out ?_
    rintro e w' ⟨rfl, rfl⟩
    go_wp2_with fail
    go_ret
    exact ⟨rfl, HX.out⟩
end Go.Proofs.Ytjlppjffkebejaa

/- Edit's loops over rows: do numbers rise, may all places be, do they stand in order? -/
namespace Go.Proofs.Ytjlppjffkebejaa
open Go.ChangeShapes Go.WideShapes Go.ChangeAt Go.RowKit

def ints (L : List Int) : List Value := L.map (Value.int .i64)
theorem ints_length (L : List Int) : (ints L).length = L.length := by simp [ints]
theorem slcell {w : World} {lo hi b o : Nat} {L : List Value} (h : Sl w lo hi (some ⟨b, o, none⟩) L) {j : Nat} {u : Value} (hj : L[j]? = some u) : w.cell? ⟨b, o + j, none⟩ = some u := by
  rcases h with h | ⟨b', o', he, _, _, hc⟩
  · rw [h] at hj; simp at hj
  · injection he with he
    injection he with e1 e2
    subst e1 e2
    exact hc j u hj
/-- Each is above the one ahead of it. -/
def Up (L : List Int) : Prop := ∀ j a b, L[j]? = some a → L[j + 1]? = some b → a < b
/-- Each one may stand ahead of the next one. -/
def InO (L : List Tab) : Prop := ∀ j a b, L[j]? = some a → L[j + 1]? = some b → aheadT a b = true

set_option maxRecDepth 100000 in
set_option maxHeartbeats 4000000 in
theorem risingn_any {w : World} {lo hi : Nat} {A : Option Addr} {c : Nat} {L : List Int} (h : Sl w lo hi A (ints L)) (hhi : hi ≤ w.heap.size) (hlen : L.length ≤ 1000000000000) :
    Calls Try.prog 67 #[.slice A L.length c] w fun x w' => ∃ z : Bool, (z = true ↔ Up L) ∧ x = .returned (.bool z) ∧ Ext w w' := by
  by_cases h0 : L.length = 0
  · obtain rfl : L = [] := List.eq_nil_of_length_eq_zero h0
    clear h hhi hlen h0
    go_enter Try.func67, Try.ntmps67
    go_wp2_with fail
    go_loopw [3] (fun a wr => a = .int .i64 1 ∧ Ext w wr) (fun _ _ => 0)
    case atStart => exact ⟨rfl, Ext.refl _⟩
    case round =>
      obtain ⟨rfl, hx⟩ := hrel
      go_wp2_with fail
      go_ret
      exact ⟨true, ⟨fun _ j a b ha => by simp at ha, fun _ => rfl⟩, rfl, hx⟩
  · obtain ⟨b, o, rfl⟩ : ∃ b o, A = some ⟨b, o, none⟩ := by
      rcases h with h1 | ⟨b, o, h1, _⟩
      · have := congrArg List.length h1
        rw [ints_length, List.length_nil] at this; omega
      · exact ⟨b, o, h1⟩
    have HE := Lib.hid h
    have HHI := Lib.hid hhi
    have HL := Lib.hid hlen
    have hlI : (L.length : Int) ≤ 1000000000000 := by omega
    clear h hhi
    go_enter Try.func67, Try.ntmps67
    go_wp2_with fail
    go_loopw [3] (fun a wr => ∃ i : Nat, a = .int .i64 (i : Int) ∧ 1 ≤ i ∧ i ≤ L.length ∧ Hid (∀ j a b, j + 1 < i → L[j]? = some a → L[j + 1]? = some b → a < b) ∧ Hid (Ext w wr)) (fun a _ => L.length - (intOf a).toNat)
    case atStart => exact ⟨1, rfl, by omega, by omega, fun j a b hj => by omega, Ext.refl _⟩
    case round =>
      obtain ⟨i, rfl, hi1, hm, HR, HX⟩ := hrel
      obtain ⟨m, him⟩ : ∃ m, m + 1 = i := ⟨i - 1, by omega⟩
      have HIM := Lib.hid him
      by_cases hlt : i < L.length
      · have d : decide ((i : Int) < (L.length : Int)) = true := by simp; omega
        obtain ⟨p, hp⟩ : ∃ p, L[m]? = some p := ⟨_, List.getElem?_eq_getElem (by omega)⟩
        obtain ⟨q, hq⟩ : ∃ q, L[i]? = some q := ⟨_, List.getElem?_eq_getElem hlt⟩
        have c0 : wr.cell? ⟨b, o + m, none⟩ = some (.int .i64 p) := slcell (HE.out.below HX.out HHI.out) (by unfold ints; rw [List.getElem?_map, hp]; rfl)
        have d0 : wr.cell? ⟨b, o + i, none⟩ = some (.int .i64 q) := slcell (HE.out.below HX.out HHI.out) (by unfold ints; rw [List.getElem?_map, hq]; rfl)
        have HP1 := Lib.hid hp
        have HQ1 := Lib.hid hq
        have hw : wrap64 ((i : Int) - 1) = (m : Int) := by have := HL.out; unfold wrap64; omega
        have hw2 : wrap64 ((i : Int) + 1) = ((i + 1 : Nat) : Int) := by have := HL.out; unfold wrap64; omega
        have hw3 : IntKind.i64.wrap ((i : Int) - 1) = (m : Int) := by have := HL.out; rw [IntKind.wrap_i64]; omega
        have n1 : (0 : Int) ≤ (m : Int) := by omega
        have n2 : (m : Int) < (L.length : Int) := by omega
        have n3 : (0 : Int) ≤ (i : Int) := by omega
        have n4 : (i : Int) < (L.length : Int) := by omega
        have HLT := Lib.hid hlt
        have HI1 := Lib.hid hi1
        clear hp hq hlt hm h0 him hi1
        go_upto_region 4 with (fail)
        refine flow (by kernel_rfl) [Is (.slice (some ⟨b, o, none⟩) L.length c), Is (.int .i64 (i : Int)), Is (.int .i64 (m : Int)), Is (.pointer (some ⟨b, o + m, none⟩)), Is (.int .i64 p), Is (.slice (some ⟨b, o, none⟩) L.length c), Is (.int .i64 (i : Int)), Is (.pointer (some ⟨b, o + i, none⟩)), Is (.int .i64 q), Is (.bool (decide (q ≤ p)))] (by kernel_rfl) (by kernel_rfl) ?mono (fun f1 => ?obl) ?fin
        case mono =>
          simp only [List.forall_mem_cons, List.not_mem_nil, false_imp_iff, implies_true, and_true]
          exact ⟨.is _, .is _, .is _, .is _, .is _, .is _, .is _, .is _, .is _, .is _⟩
        case fin =>
          intro g1 u hu hg
          simp only [puts, Act.put, List.setIfInBounds_toArray, List.set_cons_zero, List.set_cons_succ]
          have hl : g1 9 = .bool (decide (q ≤ p)) := hg 9 (by decide)
          rw [hl]
          have HXU : Hid (Ext w u) := Ext.trans HX.out (Ext.trans (Ext.drew wr) hu)
          clear hl hg hu HX c0 d0
          obtain ⟨z, hz⟩ : ∃ z, z = decide (q ≤ p) := ⟨_, rfl⟩
          rw [← hz]
          have HZ := Lib.hid hz
          clear hz
          rcases z with _ | _
          rotate_left
          · go_wp2_with fail
            go_ret
            exact ⟨false, ⟨fun h => (by cases h), fun hu => absurd hu (by have := of_decide_eq_true HZ.out.symm; intro hu; have := hu m p q HP1.out (by rw [HIM.out]; exact HQ1.out); omega)⟩, rfl, HXU.out⟩
          · go_wp2_with fail
            refine ⟨⟨i + 1, rfl, by omega, HLT.out, fun j a b hj ha hb => ?_, HXU.out⟩, ?_⟩
            · by_cases hji : j + 1 = i
              · have hjm : j = m := by have := HIM.out; omega
                rw [hjm, HP1.out] at ha
                rw [hji, HQ1.out] at hb
                simp at ha hb
                subst ha hb
                have := of_decide_eq_false HZ.out.symm; omega
              · exact HR.out j a b (by omega) ha hb
            · have := HLT.out; simp [intOf]; omega
        case obl =>
          refine ⟨fun u hu hd => ?_, ?_⟩
          · go_simp
            exact ⟨Ext.refl _, rfl⟩
          refine ⟨fun u hu hd => ?_, ?_⟩
          · simp only [Act.put, List.setIfInBounds_toArray, List.set_cons_zero, List.set_cons_succ]
            go_simp
            exact ⟨Ext.refl _, rfl⟩
          refine ⟨fun u hu hd => ?_, ?_⟩
          · simp only [Act.put, List.setIfInBounds_toArray, List.set_cons_zero, List.set_cons_succ]
            have e1 : f1 1 = .int .i64 (i : Int) := hd 1 (by kernel_rfl)
            go_simp
            exact ⟨Ext.refl _, rfl⟩
          refine ⟨fun u hu hd => ?_, ?_⟩
          · simp only [Act.put, List.setIfInBounds_toArray, List.set_cons_zero, List.set_cons_succ]
            have e0 : f1 0 = .slice (some ⟨b, o, none⟩) L.length c := hd 0 (by kernel_rfl)
            have e2 : f1 2 = .int .i64 (m : Int) := hd 2 (by kernel_rfl)
            go_simp
            exact ⟨Ext.refl _, rfl⟩
          refine ⟨fun u hu hd => ?_, ?_⟩
          · simp only [Act.put, List.setIfInBounds_toArray, List.set_cons_zero, List.set_cons_succ]
            have e3 : f1 3 = .pointer (some ⟨b, o + m, none⟩) := hd 3 (by kernel_rfl)
            have hu2 := Ext.trans (Ext.drew wr) hu
            have q0 := ext_cell hu2 c0
            go_simp
            exact ⟨Ext.refl _, rfl⟩
          refine ⟨fun u hu hd => ?_, ?_⟩
          · simp only [Act.put, List.setIfInBounds_toArray, List.set_cons_zero, List.set_cons_succ]
            go_simp
            exact ⟨Ext.refl _, rfl⟩
          refine ⟨fun u hu hd => ?_, ?_⟩
          · simp only [Act.put, List.setIfInBounds_toArray, List.set_cons_zero, List.set_cons_succ]
            go_simp
            exact ⟨Ext.refl _, rfl⟩
          refine ⟨fun u hu hd => ?_, ?_⟩
          · simp only [Act.put, List.setIfInBounds_toArray, List.set_cons_zero, List.set_cons_succ]
            have e5 : f1 5 = .slice (some ⟨b, o, none⟩) L.length c := hd 5 (by kernel_rfl)
            have e6 : f1 6 = .int .i64 (i : Int) := hd 6 (by kernel_rfl)
            go_simp
            exact ⟨Ext.refl _, rfl⟩
          refine ⟨fun u hu hd => ?_, ?_⟩
          · simp only [Act.put, List.setIfInBounds_toArray, List.set_cons_zero, List.set_cons_succ]
            have e7 : f1 7 = .pointer (some ⟨b, o + i, none⟩) := hd 7 (by kernel_rfl)
            have hu2 := Ext.trans (Ext.drew wr) hu
            have q0 := ext_cell hu2 d0
            go_simp
            exact ⟨Ext.refl _, rfl⟩
          refine ⟨fun u hu hd => ?_, ?_⟩
          · simp only [Act.put, List.setIfInBounds_toArray, List.set_cons_zero, List.set_cons_succ]
            have e4 : f1 4 = .int .i64 p := hd 4 (by kernel_rfl)
            have e8 : f1 8 = .int .i64 q := hd 8 (by kernel_rfl)
            go_simp
            exact ⟨Ext.refl _, rfl⟩
          trivial
      · have d : decide ((i : Int) < (L.length : Int)) = false := by simp; omega
        have HLT := Lib.hid hlt
        have HM := Lib.hid hm
        clear hlt hm him h0 hi1
        go_wp2_with fail
        go_ret
        exact ⟨true, ⟨fun _ j a b ha hb => HR.out j a b (by have := HLT.out; have := HM.out; have := (List.getElem?_eq_some_iff.1 hb).1; omega) ha hb, fun _ => rfl⟩, rfl, HX.out⟩

set_option maxRecDepth 100000 in
set_option maxHeartbeats 4000000 in
theorem inorder_any {w : World} {lo hi : Nat} {A : Option Addr} {c : Nat} {L : List (Tab × TabH)} (h : tabs w lo hi A L) (hhi : hi ≤ w.heap.size) (hlen : L.length ≤ 1000000000000) :
    Calls Try.prog 63 #[.slice A L.length c] w fun x w' => ∃ z : Bool, (z = true ↔ InO (L.map Prod.fst)) ∧ x = .returned (.bool z) ∧ Ext w w' := by
  by_cases h0 : L.length = 0
  · obtain rfl : L = [] := List.eq_nil_of_length_eq_zero h0
    clear h hhi hlen h0
    go_enter Try.func63, Try.ntmps63
    go_wp2_with fail
    go_loopw [3] (fun a wr => a = .int .i64 1 ∧ Ext w wr) (fun _ _ => 0)
    case atStart => exact ⟨rfl, Ext.refl _⟩
    case round =>
      obtain ⟨rfl, hx⟩ := hrel
      go_wp2_with fail
      go_ret
      exact ⟨true, ⟨fun _ j a b ha => by simp at ha, fun _ => rfl⟩, rfl, hx⟩
  · obtain ⟨b, o, rfl, _, _⟩ := h.base (by omega)
    have HE := Lib.hid h
    have HHI := Lib.hid hhi
    have HL := Lib.hid hlen
    have hlI : (L.length : Int) ≤ 1000000000000 := by omega
    clear h hhi
    go_enter Try.func63, Try.ntmps63
    go_wp2_with fail
    go_loopw [3] (fun a wr => ∃ i : Nat, a = .int .i64 (i : Int) ∧ 1 ≤ i ∧ i ≤ L.length ∧ Hid (∀ j a b, j + 1 < i → (L.map Prod.fst)[j]? = some a → (L.map Prod.fst)[j + 1]? = some b → aheadT a b = true) ∧ Hid (Ext w wr)) (fun a _ => L.length - (intOf a).toNat)
    case atStart => exact ⟨1, rfl, by omega, by omega, fun j a b hj => by omega, Ext.refl _⟩
    case round =>
      obtain ⟨i, rfl, hi1, hm, HR, HX⟩ := hrel
      obtain ⟨m, him⟩ : ∃ m, m + 1 = i := ⟨i - 1, by omega⟩
      have HIM := Lib.hid him
      by_cases hlt : i < L.length
      · have d : decide ((i : Int) < (L.length : Int)) = true := by simp; omega
        obtain ⟨p, hp⟩ : ∃ p, L[m]? = some p := ⟨_, List.getElem?_eq_getElem (by omega)⟩
        obtain ⟨q, hq⟩ : ∃ q, L[i]? = some q := ⟨_, List.getElem?_eq_getElem hlt⟩
        obtain ⟨c0, c1, c2, c3, c4⟩ := (HE.out.below HX.out HHI.out).get hp
        obtain ⟨d0, d1, d2, d3, d4⟩ := (HE.out.below HX.out HHI.out).get hq
        have HC : Hid (∀ u, Ext wr u → Calls Try.prog 117 #[.agg #[.int .i64 p.1.num, .int .i64 p.1.lev, .slice p.2.fstA p.1.fst.length p.2.fstc, .slice p.2.lstA p.1.lst.length p.2.lstc, .int .i64 p.1.siz], .agg #[.int .i64 q.1.num, .int .i64 q.1.lev, .slice q.2.fstA q.1.fst.length q.2.fstc, .slice q.2.lstA q.1.lst.length q.2.lstc, .int .i64 q.1.siz]] u fun x w' => x = .returned (.bool (aheadT p.1 q.1)) ∧ Ext u w') := fun u hu => by
          have hE := HE.out.below (Ext.trans HX.out hu) HHI.out
          have hle := Nat.le_trans HHI.out (Ext.trans HX.out hu).size
          exact ahead_any (hE.each p (List.mem_of_getElem? hp)) (hE.each q (List.mem_of_getElem? hq)) hle hle
        have HP1 := Lib.hid hp
        have HQ1 := Lib.hid hq
        have hw : wrap64 ((i : Int) - 1) = (m : Int) := by have := HL.out; unfold wrap64; omega
        have hw2 : wrap64 ((i : Int) + 1) = ((i + 1 : Nat) : Int) := by have := HL.out; unfold wrap64; omega
        have hw3 : IntKind.i64.wrap ((i : Int) - 1) = (m : Int) := by have := HL.out; rw [IntKind.wrap_i64]; omega
        have n1 : (0 : Int) ≤ (m : Int) := by omega
        have n2 : (m : Int) < (L.length : Int) := by omega
        have n3 : (0 : Int) ≤ (i : Int) := by omega
        have n4 : (i : Int) < (L.length : Int) := by omega
        have HLT := Lib.hid hlt
        have HI1 := Lib.hid hi1
        clear hp hq hlt hm h0 him hi1
        go_upto_region 4 with (fail)
        refine flow (by kernel_rfl) [Is (.slice (some ⟨b, o, none⟩) L.length c), Is (.int .i64 (i : Int)), Is (.int .i64 (m : Int)), Is (.pointer (some ⟨b, o + m * 5, none⟩)), Is (.agg #[.int .i64 p.1.num, .int .i64 p.1.lev, .slice p.2.fstA p.1.fst.length p.2.fstc, .slice p.2.lstA p.1.lst.length p.2.lstc, .int .i64 p.1.siz]), Is (.slice (some ⟨b, o, none⟩) L.length c), Is (.int .i64 (i : Int)), Is (.pointer (some ⟨b, o + i * 5, none⟩)), Is (.agg #[.int .i64 q.1.num, .int .i64 q.1.lev, .slice q.2.fstA q.1.fst.length q.2.fstc, .slice q.2.lstA q.1.lst.length q.2.lstc, .int .i64 q.1.siz]), Is (.bool (aheadT p.1 q.1)), Is (.bool (!aheadT p.1 q.1))] (by kernel_rfl) (by kernel_rfl) ?mono (fun f1 => ?obl) ?fin
        case mono =>
          simp only [List.forall_mem_cons, List.not_mem_nil, false_imp_iff, implies_true, and_true]
          exact ⟨.is _, .is _, .is _, .is _, .is _, .is _, .is _, .is _, .is _, .is _, .is _⟩
        case fin =>
          intro g1 u hu hg
          simp only [puts, Act.put, List.setIfInBounds_toArray, List.set_cons_zero, List.set_cons_succ]
          have hl : g1 10 = .bool ((!aheadT p.1 q.1)) := hg 10 (by decide)
          rw [hl]
          have HXU : Hid (Ext w u) := Ext.trans HX.out (Ext.trans (Ext.drew wr) hu)
          clear hl hg hu HX c0 d0 c1 d1 c2 d2 c3 d3 c4 d4
          obtain ⟨z, hz⟩ : ∃ z, z = (!aheadT p.1 q.1) := ⟨_, rfl⟩
          rw [← hz]
          have HZ := Lib.hid hz
          clear hz
          rcases z with _ | _
          rotate_left
          · go_wp2_with fail
            go_ret
            exact ⟨false, ⟨fun h => (by cases h), fun hu => absurd hu (by intro hu; have h1 := hu m p.1 q.1 (by rw [List.getElem?_map, HP1.out]; rfl) (by rw [HIM.out, List.getElem?_map, HQ1.out]; rfl); have h2 := HZ.out; rw [h1] at h2; cases h2)⟩, rfl, HXU.out⟩
          · go_wp2_with fail
            refine ⟨⟨i + 1, rfl, by omega, HLT.out, fun j a b hj ha hb => ?_, HXU.out⟩, ?_⟩
            · by_cases hji : j + 1 = i
              · have hjm : j = m := by have := HIM.out; omega
                rw [hjm, List.getElem?_map, HP1.out] at ha
                rw [hji, List.getElem?_map, HQ1.out] at hb
                simp at ha hb
                subst ha hb
                have h2 := HZ.out
                cases h3 : aheadT p.1 q.1
                · rw [h3] at h2; cases h2
                · rfl
              · exact HR.out j a b (by omega) ha hb
            · have := HLT.out; simp [intOf]; omega
        case obl =>
          refine ⟨fun u hu hd => ?_, ?_⟩
          · go_simp
            exact ⟨Ext.refl _, rfl⟩
          refine ⟨fun u hu hd => ?_, ?_⟩
          · simp only [Act.put, List.setIfInBounds_toArray, List.set_cons_zero, List.set_cons_succ]
            go_simp
            exact ⟨Ext.refl _, rfl⟩
          refine ⟨fun u hu hd => ?_, ?_⟩
          · simp only [Act.put, List.setIfInBounds_toArray, List.set_cons_zero, List.set_cons_succ]
            have e1 : f1 1 = .int .i64 (i : Int) := hd 1 (by kernel_rfl)
            go_simp
            exact ⟨Ext.refl _, rfl⟩
          refine ⟨fun u hu hd => ?_, ?_⟩
          · simp only [Act.put, List.setIfInBounds_toArray, List.set_cons_zero, List.set_cons_succ]
            have e0 : f1 0 = .slice (some ⟨b, o, none⟩) L.length c := hd 0 (by kernel_rfl)
            have e2 : f1 2 = .int .i64 (m : Int) := hd 2 (by kernel_rfl)
            go_simp
            exact ⟨Ext.refl _, rfl⟩
          refine ⟨fun u hu hd => ?_, ?_⟩
          · simp only [Act.put, List.setIfInBounds_toArray, List.set_cons_zero, List.set_cons_succ]
            have e3 : f1 3 = .pointer (some ⟨b, o + m * 5, none⟩) := hd 3 (by kernel_rfl)
            have hu2 := Ext.trans (Ext.drew wr) hu
            have q0 := ext_cell hu2 c0
            have q1 := ext_cell hu2 c1
            have q2 := ext_cell hu2 c2
            have q3 := ext_cell hu2 c3
            have q4 := ext_cell hu2 c4
            go_simp
            exact ⟨Ext.refl _, rfl⟩
          refine ⟨fun u hu hd => ?_, ?_⟩
          · simp only [Act.put, List.setIfInBounds_toArray, List.set_cons_zero, List.set_cons_succ]
            go_simp
            exact ⟨Ext.refl _, rfl⟩
          refine ⟨fun u hu hd => ?_, ?_⟩
          · simp only [Act.put, List.setIfInBounds_toArray, List.set_cons_zero, List.set_cons_succ]
            go_simp
            exact ⟨Ext.refl _, rfl⟩
          refine ⟨fun u hu hd => ?_, ?_⟩
          · simp only [Act.put, List.setIfInBounds_toArray, List.set_cons_zero, List.set_cons_succ]
            have e5 : f1 5 = .slice (some ⟨b, o, none⟩) L.length c := hd 5 (by kernel_rfl)
            have e6 : f1 6 = .int .i64 (i : Int) := hd 6 (by kernel_rfl)
            go_simp
            exact ⟨Ext.refl _, rfl⟩
          refine ⟨fun u hu hd => ?_, ?_⟩
          · simp only [Act.put, List.setIfInBounds_toArray, List.set_cons_zero, List.set_cons_succ]
            have e7 : f1 7 = .pointer (some ⟨b, o + i * 5, none⟩) := hd 7 (by kernel_rfl)
            have hu2 := Ext.trans (Ext.drew wr) hu
            have q0 := ext_cell hu2 d0
            have q1 := ext_cell hu2 d1
            have q2 := ext_cell hu2 d2
            have q3 := ext_cell hu2 d3
            have q4 := ext_cell hu2 d4
            go_simp
            exact ⟨Ext.refl _, rfl⟩
          refine ⟨fun u hu hd => ?_, ?_⟩
          · simp only [Act.put, List.setIfInBounds_toArray, List.set_cons_zero, List.set_cons_succ]
            have e4 : f1 4 = .agg #[.int .i64 p.1.num, .int .i64 p.1.lev, .slice p.2.fstA p.1.fst.length p.2.fstc, .slice p.2.lstA p.1.lst.length p.2.lstc, .int .i64 p.1.siz] := hd 4 (by kernel_rfl)
            have e8 : f1 8 = .agg #[.int .i64 q.1.num, .int .i64 q.1.lev, .slice q.2.fstA q.1.fst.length q.2.fstc, .slice q.2.lstA q.1.lst.length q.2.lstc, .int .i64 q.1.siz] := hd 8 (by kernel_rfl)
            go_simp
            refine (HC.out u (Ext.trans (Ext.drew wr) hu)).mono ?_
            rintro x w9 ⟨rfl, hb9⟩
            exact ⟨_, rfl, hb9, rfl⟩
          refine ⟨fun u hu hd => ?_, ?_⟩
          · simp only [Act.put, List.setIfInBounds_toArray, List.set_cons_zero, List.set_cons_succ]
            have e9 : f1 9 = .bool (aheadT p.1 q.1) := hd 9 (by kernel_rfl)
            go_simp
            exact ⟨Ext.refl _, rfl⟩
          trivial
      · have d : decide ((i : Int) < (L.length : Int)) = false := by simp; omega
        have HLT := Lib.hid hlt
        have HM := Lib.hid hm
        clear hlt hm him h0 hi1
        go_wp2_with fail
        go_ret
        exact ⟨true, ⟨fun _ j a b ha hb => HR.out j a b (by have := HLT.out; have := HM.out; have := (List.getElem?_eq_some_iff.1 hb).1; rw [List.length_map] at this; omega) ha hb, fun _ => rfl⟩, rfl, HX.out⟩

set_option maxRecDepth 100000 in
set_option maxHeartbeats 4000000 in
theorem placesmay_any {w : World} {lo hi : Nat} {A : Option Addr} {c : Nat} {L : List (Tab × TabH)} (h : tabs w lo hi A L) (hhi : hi ≤ w.heap.size) (hlen : L.length ≤ 1000000000000) :
    Calls Try.prog 62 #[.slice A L.length c] w fun x w' => ∃ z : Bool, (z = true ↔ ∀ p ∈ L, placeM p.1 = true) ∧ x = .returned (.bool z) ∧ Ext w w' := by
  by_cases h0 : L.length = 0
  · obtain rfl : L = [] := List.eq_nil_of_length_eq_zero h0
    clear h hhi hlen h0
    go_enter Try.func62, Try.ntmps62
    go_wp2_with fail
    go_loopw [7] (fun a wr => a = .int .i64 0 ∧ Ext w wr) (fun _ _ => 0)
    case atStart => exact ⟨rfl, Ext.refl _⟩
    case round =>
      obtain ⟨rfl, hx⟩ := hrel
      go_wp2_with fail
      go_ret
      exact ⟨true, ⟨fun _ p hp => by simp at hp, fun _ => rfl⟩, rfl, hx⟩
  · obtain ⟨b, o, rfl, _, _⟩ := h.base (by omega)
    have HE := Lib.hid h
    have HHI := Lib.hid hhi
    have HL := Lib.hid hlen
    have hlI : (L.length : Int) ≤ 1000000000000 := by omega
    clear h hhi
    go_enter Try.func62, Try.ntmps62
    go_wp2_with fail
    go_loopw [7] (fun a wr => ∃ i : Nat, a = .int .i64 (i : Int) ∧ i ≤ L.length ∧ Hid (∀ j p, j < i → L[j]? = some p → placeM p.1 = true) ∧ Hid (Ext w wr)) (fun a _ => L.length - (intOf a).toNat)
    case atStart => exact ⟨0, rfl, by omega, fun j p hj => by omega, Ext.refl _⟩
    case round =>
      obtain ⟨i, rfl, hm, HR, HX⟩ := hrel
      by_cases hlt : i < L.length
      · have d : decide ((i : Int) < (L.length : Int)) = true := by simp; omega
        obtain ⟨p, hp⟩ : ∃ p, L[i]? = some p := ⟨_, List.getElem?_eq_getElem hlt⟩
        obtain ⟨c0, c1, c2, c3, c4⟩ := (HE.out.below HX.out HHI.out).get hp
        obtain ⟨z, hz⟩ : ∃ z, z = placeM p.1 := ⟨_, rfl⟩
        have HC : Hid (∀ u, Ext wr u → Calls Try.prog 116 #[.agg #[.int .i64 p.1.num, .int .i64 p.1.lev, .slice p.2.fstA p.1.fst.length p.2.fstc, .slice p.2.lstA p.1.lst.length p.2.lstc, .int .i64 p.1.siz]] u fun x w' => x = .returned (.bool z) ∧ Ext u w') := fun u hu => by
          have hE := HE.out.below (Ext.trans HX.out hu) HHI.out
          have hle := Nat.le_trans HHI.out (Ext.trans HX.out hu).size
          rw [hz]
          exact placemay_any (hE.each p (List.mem_of_getElem? hp)) hle
        have HP1 := Lib.hid hp
        have HZ := Lib.hid hz
        have hw2 : wrap64 ((i : Int) + 1) = ((i + 1 : Nat) : Int) := by have := HL.out; unfold wrap64; omega
        have n3 : (0 : Int) ≤ (i : Int) := by omega
        have n4 : (i : Int) < (L.length : Int) := by omega
        have HLT := Lib.hid hlt
        have HA : Hid (∀ cs, Ext wr (wr.alloc cs)) := fun cs => ext_alloc _ _
        clear hp hlt hm h0 hz
        go_wp2_with fail
        refine (HC.out _ (by first | exact HA.out _ | exact Ext.trans (HA.out _) (ext_alloc _ _))).mono ?_
        rintro x w9 ⟨rfl, hb9⟩
        have HX9 : Hid (Ext w w9) := Ext.trans HX.out (Ext.trans (HA.out _) hb9)
        clear hb9 HX HA HC c0 c1 c2 c3 c4
        rcases z with _ | _
        · go_wp2_with fail
          go_ret
          exact ⟨false, ⟨fun h => (by cases h), fun h => by have h2 := HZ.out; rw [h p (List.mem_of_getElem? HP1.out)] at h2; cases h2⟩, rfl, HX9.out⟩
        · go_wp2_with fail
          refine ⟨⟨i + 1, rfl, HLT.out, fun j q hj hq => ?_, HX9.out⟩, ?_⟩
          · by_cases hji : j = i
            · rw [hji, HP1.out] at hq
              injection hq with hq
              subst hq
              exact HZ.out.symm
            · exact HR.out j q (by omega) hq
          · have := HLT.out; simp [intOf]; omega
      · have d : decide ((i : Int) < (L.length : Int)) = false := by simp; omega
        have HLT := Lib.hid hlt
        have HM := Lib.hid hm
        clear hlt hm h0
        go_wp2_with fail
        go_ret
        exact ⟨true, ⟨fun _ p hp => by
          obtain ⟨j, hj⟩ := List.getElem?_of_mem hp
          exact HR.out j p (by have := HLT.out; have := (List.getElem?_eq_some_iff.1 hj).1; omega) hj, fun _ => rfl⟩, rfl, HX.out⟩
end Go.Proofs.Ytjlppjffkebejaa

/-
  DERIVED: THE SHELF's CONTRACTS AT THIS DUMP, IN PLAIN WORDS (tools/lay-plain.mjs out of 'YtjlppjffkebejaaShelf.lean', which tools/lay-shelf.mjs wrote): THE SAME DECLARATIONS UNDER THE SAME NAMES: 'import', 'namespace', 'open', 'def', 'theorem' AND NOTHING ELSE: no command of the shelf's: FOR A HAND-IN. Each laying: the table of numbers ('.._ren') and one theorem, a field a fact of the dump's own or the kernel's comparison; each contract: ONE APPLICATION.
-/
namespace Go.Proofs
open Go.Shelf
def Try.lsort_ren : Go.Shelf.Ren := ⟨fun | 5 => 120 | 8 => 152 | 7 => 151 | 19 => 175 | 20 => 176 | 10 => 166 | 11 => 167 | 12 => 168 | 13 => 169 | 14 => 170 | 15 => 171 | 16 => 172 | 17 => 173 | 18 => 174 | 30 => 189 | 31 => 190 | 32 => 191 | 33 => 192 | 34 => 193 | 35 => 134 | 40 => 197 | n => n, fun | 23 => 38 | 25 => 2 | 3 => 3 | 32 => 142 | 22 => 38 | 0 => 0 | 44 => 179 | 46 => 113 | 4 => 4 | 36 => 172 | 35 => 171 | 41 => 163 | 5 => 5 | 9 => 9 | 53 => 188 | 57 => 192 | 63 => 196 | 64 => 197 | n => n, fun | n => n⟩
theorem Try.lsort : Go.Proofs.SlLaysM.n5 Try.prog Try.lsort_ren := {
  mixed := by kernel_rfl
  f5 := ⟨Try.f120.name, by decide, Try.func120.trans (congrArg some (by kernel_rfl))⟩
  f7 := ⟨Try.f151.name, by decide, Try.func151.trans (congrArg some (by kernel_rfl))⟩
  f8 := Try.func152.trans (congrArg some (by kernel_rfl))
  f10 := ⟨Try.f166.name, by decide, Try.func166.trans (congrArg some (by kernel_rfl))⟩
  f11 := ⟨Try.f167.name, by decide, Try.func167.trans (congrArg some (by kernel_rfl))⟩
  f12 := ⟨Try.f168.name, by decide, Try.func168.trans (congrArg some (by kernel_rfl))⟩
  f13 := ⟨Try.f169.name, by decide, Try.func169.trans (congrArg some (by kernel_rfl))⟩
  f14 := ⟨Try.f170.name, by decide, Try.func170.trans (congrArg some (by kernel_rfl))⟩
  f15 := ⟨Try.f171.name, by decide, Try.func171.trans (congrArg some (by kernel_rfl))⟩
  f16 := ⟨Try.f172.name, by decide, Try.func172.trans (congrArg some (by kernel_rfl))⟩
  f17 := ⟨Try.f173.name, by decide, Try.func173.trans (congrArg some (by kernel_rfl))⟩
  f18 := ⟨Try.f174.name, by decide, Try.func174.trans (congrArg some (by kernel_rfl))⟩
  f19 := Try.func175.trans (congrArg some (by kernel_rfl))
  f20 := Try.func176.trans (congrArg some (by kernel_rfl))
  f30 := ⟨Try.f189.name, by decide, Try.func189.trans (congrArg some (by kernel_rfl))⟩
  f31 := Try.func190.trans (congrArg some (by kernel_rfl))
  f32 := Try.func191.trans (congrArg some (by kernel_rfl))
  f33 := ⟨Try.f192.name, by decide, Try.func192.trans (congrArg some (by kernel_rfl))⟩
  f34 := ⟨Try.f193.name, by decide, Try.func193.trans (congrArg some (by kernel_rfl))⟩
  f35 := ⟨Try.f134.name, by decide, Try.func134.trans (congrArg some (by kernel_rfl))⟩
  f40 := ⟨Try.f197.name, by decide, Try.func197.trans (congrArg some (by kernel_rfl))⟩
  t0 := Try.underlying0
  a0 := Try.isAgg0
  z0 := Try.sizeOf0
  v0 := Try.zeroValue0
  t3 := Try.underlying3
  a3 := Try.isAgg3
  z3 := Try.sizeOf3
  v3 := Try.zeroValue3
  t4 := Try.underlying4
  a4 := Try.isAgg4
  z4 := Try.sizeOf4
  v4 := Try.zeroValue4
  t5 := Try.underlying5
  a5 := Try.isAgg5
  z5 := Try.sizeOf5
  v5 := Try.zeroValue5
  t9 := Try.underlying9
  a9 := Try.isAgg9
  z9 := Try.sizeOf9
  v9 := Try.zeroValue9
  t22 := Try.underlying38
  a22 := Try.isAgg38
  z22 := Try.sizeOf38
  v22 := Try.zeroValue38
  t23 := Try.underlying38
  a23 := Try.isAgg38
  z23 := Try.sizeOf38
  v23 := Try.zeroValue38
  t25 := Try.underlying2
  a25 := Try.isAgg2
  z25 := Try.sizeOf2
  v25 := Try.zeroValue2
  t32 := Try.underlying142
  a32 := Try.isAgg142
  z32 := Try.sizeOf142
  v32 := Try.zeroValue142
  t35 := Try.underlying171
  a35 := Try.isAgg171
  z35 := Try.sizeOf171
  v35 := Try.zeroValue171
  t36 := Try.underlying172
  a36 := Try.isAgg172
  z36 := Try.sizeOf172
  v36 := Try.zeroValue172
  t41 := Try.underlying163
  a41 := Try.isAgg163
  z41 := Try.sizeOf163
  v41 := Try.zeroValue163
  t44 := Try.underlying179
  a44 := Try.isAgg179
  z44 := Try.sizeOf179
  v44 := Try.zeroValue179
  t46 := Try.underlying113
  a46 := Try.isAgg113
  z46 := Try.sizeOf113
  v46 := Try.zeroValue113
  t53 := Try.underlying188
  a53 := Try.isAgg188
  z53 := Try.sizeOf188
  v53 := Try.zeroValue188
  t57 := Try.underlying192
  a57 := Try.isAgg192
  z57 := Try.sizeOf192
  v57 := Try.zeroValue192
  t63 := Try.underlying196
  a63 := Try.isAgg196
  z63 := Try.sizeOf196
  v63 := Try.zeroValue196
  t64 := Try.underlying197
  a64 := Try.isAgg197
  z64 := Try.sizeOf197
  v64 := Try.zeroValue197 }
def Try.lsortf_ren : Go.Shelf.Ren := ⟨fun | 6 => 122 | 15 => 152 | 14 => 157 | 28 => 175 | 29 => 176 | 20 => 179 | 21 => 180 | 22 => 181 | 23 => 182 | 24 => 183 | 25 => 184 | 26 => 185 | 27 => 186 | 46 => 194 | 47 => 190 | 48 => 191 | 49 => 195 | 50 => 196 | 57 => 198 | n => n, fun | 22 => 34 | 24 => 85 | 25 => 139 | 3 => 3 | 39 => 142 | 0 => 0 | 53 => 179 | 55 => 113 | 4 => 4 | 46 => 172 | 45 => 171 | 50 => 163 | 5 => 5 | 9 => 9 | 66 => 188 | 70 => 192 | 76 => 196 | 77 => 197 | n => n, fun | n => n⟩
theorem Try.lsortf : Go.Proofs.SlLaysF0.n6 Try.prog Try.lsortf_ren := {
  mixed := by kernel_rfl
  f6 := ⟨Try.f122.name, by decide, Try.func122.trans (congrArg some (by kernel_rfl))⟩
  f14 := ⟨Try.f157.name, by decide, Try.func157.trans (congrArg some (by kernel_rfl))⟩
  f15 := Try.func152.trans (congrArg some (by kernel_rfl))
  f20 := ⟨Try.f179.name, by decide, Try.func179.trans (congrArg some (by kernel_rfl))⟩
  f21 := ⟨Try.f180.name, by decide, Try.func180.trans (congrArg some (by kernel_rfl))⟩
  f22 := ⟨Try.f181.name, by decide, Try.func181.trans (congrArg some (by kernel_rfl))⟩
  f23 := ⟨Try.f182.name, by decide, Try.func182.trans (congrArg some (by kernel_rfl))⟩
  f24 := ⟨Try.f183.name, by decide, Try.func183.trans (congrArg some (by kernel_rfl))⟩
  f25 := ⟨Try.f184.name, by decide, Try.func184.trans (congrArg some (by kernel_rfl))⟩
  f26 := ⟨Try.f185.name, by decide, Try.func185.trans (congrArg some (by kernel_rfl))⟩
  f27 := ⟨Try.f186.name, by decide, Try.func186.trans (congrArg some (by kernel_rfl))⟩
  f28 := Try.func175.trans (congrArg some (by kernel_rfl))
  f29 := Try.func176.trans (congrArg some (by kernel_rfl))
  f46 := ⟨Try.f194.name, by decide, Try.func194.trans (congrArg some (by kernel_rfl))⟩
  f47 := Try.func190.trans (congrArg some (by kernel_rfl))
  f48 := Try.func191.trans (congrArg some (by kernel_rfl))
  f49 := ⟨Try.f195.name, by decide, Try.func195.trans (congrArg some (by kernel_rfl))⟩
  f50 := ⟨Try.f196.name, by decide, Try.func196.trans (congrArg some (by kernel_rfl))⟩
  f57 := ⟨Try.f198.name, by decide, Try.func198.trans (congrArg some (by kernel_rfl))⟩
  t0 := Try.underlying0
  a0 := Try.isAgg0
  z0 := Try.sizeOf0
  v0 := Try.zeroValue0
  t3 := Try.underlying3
  a3 := Try.isAgg3
  z3 := Try.sizeOf3
  v3 := Try.zeroValue3
  t4 := Try.underlying4
  a4 := Try.isAgg4
  z4 := Try.sizeOf4
  v4 := Try.zeroValue4
  t5 := Try.underlying5
  a5 := Try.isAgg5
  z5 := Try.sizeOf5
  v5 := Try.zeroValue5
  t9 := Try.underlying9
  a9 := Try.isAgg9
  z9 := Try.sizeOf9
  v9 := Try.zeroValue9
  t22 := Try.underlying34
  a22 := Try.isAgg34
  z22 := Try.sizeOf34
  v22 := Try.zeroValue34
  t25 := Try.underlying139
  a25 := Try.isAgg139
  z25 := Try.sizeOf139
  v25 := Try.zeroValue139
  t39 := Try.underlying142
  a39 := Try.isAgg142
  z39 := Try.sizeOf142
  v39 := Try.zeroValue142
  t45 := Try.underlying171
  a45 := Try.isAgg171
  z45 := Try.sizeOf171
  v45 := Try.zeroValue171
  t46 := Try.underlying172
  a46 := Try.isAgg172
  z46 := Try.sizeOf172
  v46 := Try.zeroValue172
  t50 := Try.underlying163
  a50 := Try.isAgg163
  z50 := Try.sizeOf163
  v50 := Try.zeroValue163
  t53 := Try.underlying179
  a53 := Try.isAgg179
  z53 := Try.sizeOf179
  v53 := Try.zeroValue179
  t55 := Try.underlying113
  a55 := Try.isAgg113
  z55 := Try.sizeOf113
  v55 := Try.zeroValue113
  t66 := Try.underlying188
  a66 := Try.isAgg188
  z66 := Try.sizeOf188
  v66 := Try.zeroValue188
  t70 := Try.underlying192
  a70 := Try.isAgg192
  z70 := Try.sizeOf192
  v70 := Try.zeroValue192
  t76 := Try.underlying196
  a76 := Try.isAgg196
  z76 := Try.sizeOf196
  v76 := Try.zeroValue196
  t77 := Try.underlying197
  a77 := Try.isAgg197
  z77 := Try.sizeOf197
  v77 := Try.zeroValue197 }
def Try.lsearch_ren : Go.Shelf.Ren := ⟨fun | 49 => 156 | 59 => 172 | 60 => 178 | 68 => 134 | n => n, fun | 22 => 38 | 23 => 2 | 3 => 3 | 4 => 4 | 51 => 142 | 0 => 0 | n => n, fun | n => n⟩
theorem Try.lsearch : Go.Proofs.SlLaysN.n49 Try.prog Try.lsearch_ren := {
  mixed := by kernel_rfl
  f49 := ⟨Try.f156.name, by decide, Try.func156.trans (congrArg some (by kernel_rfl))⟩
  f59 := ⟨Try.f172.name, by decide, Try.func172.trans (congrArg some (by kernel_rfl))⟩
  f60 := ⟨Try.f178.name, by decide, Try.func178.trans (congrArg some (by kernel_rfl))⟩
  f68 := ⟨Try.f134.name, by decide, Try.func134.trans (congrArg some (by kernel_rfl))⟩
  t0 := Try.underlying0
  a0 := Try.isAgg0
  z0 := Try.sizeOf0
  v0 := Try.zeroValue0
  t3 := Try.underlying3
  a3 := Try.isAgg3
  z3 := Try.sizeOf3
  v3 := Try.zeroValue3
  t4 := Try.underlying4
  a4 := Try.isAgg4
  z4 := Try.sizeOf4
  v4 := Try.zeroValue4
  t22 := Try.underlying38
  a22 := Try.isAgg38
  z22 := Try.sizeOf38
  v22 := Try.zeroValue38
  t23 := Try.underlying2
  a23 := Try.isAgg2
  z23 := Try.sizeOf2
  v23 := Try.zeroValue2
  t51 := Try.underlying142
  a51 := Try.isAgg142
  z51 := Try.sizeOf142
  v51 := Try.zeroValue142 }
end Go.Proofs

/- Rows of the call's own, sorted in place: slices.Sort of numbers; slices.Clone of numbers; edit's sorted. -/
namespace Go.Proofs.Ytjlppjffkebejaa
open Go.ChangeShapes Go.WideShapes Go.ChangeAt Go.RowKit Go.Sort

theorem putCells_map {α : Type} [Inhabited α] (enc : α → Value) (off : Nat) (d : Array α) (c : Array Value) : putCells enc off d c = putCells id off (d.map enc) c := by
  unfold putCells
  apply Array.ext
  · simp
  · intro k h1 h2
    simp only [Array.getElem_mapIdx, Array.size_map]
    by_cases h : off ≤ k ∧ k < off + d.size
    · rw [if_pos h, if_pos h, getElem!_pos d (k - off) (by omega), getElem!_pos (d.map enc) (k - off) (by rw [Array.size_map]; omega), Array.getElem_map]
      rfl
    · rw [if_neg h, if_neg h]
theorem putRow_map {α : Type} [Inhabited α] (enc : α → Value) (w : World) (b off : Nat) (d : Array α) : putRow enc w b off d = putRow id w b off (d.map enc) := by
  unfold putRow
  exact mapBlock_congr _ _ _ _ fun c _ _ _ => putCells_map enc off d c
/-- A row of the call's own whose cells are written over, whatever is made behind it. -/
theorem own_put {w : World} {B : Nat} {e : TypeId} {size : Nat} {n g cap : Nat} {xs : List Value} (h : w.ownsRow B e size (.slice (some ⟨g, 0, none⟩) n cap) n xs) {ys : List Value} (hy : ys.length = xs.length) (m : Nat) (os : Array Obj) :
    (grow (putRow id (Sort.ahead w m) g 0 ys.toArray) os).ownsRow B e size (.slice (some ⟨g, 0, none⟩) n cap) n ys ∧ ∀ w0, Go.RowKit.Below B w0 w → Go.RowKit.Below B w0 (grow (putRow id (Sort.ahead w m) g 0 ys.toArray) os) := by
  obtain ⟨h1, h2⟩ := h
  rcases h2 with ⟨h2, _⟩ | ⟨g', cap', cur, h2, h3, h4, h5, h6, h7, h8⟩
  · cases h2
  injection h2 with h2 _ h9
  injection h2 with h2
  injection h2 with h2
  subst h2 h9
  have hlt : g < w.heap.size := (Array.getElem?_eq_some_iff.1 h4).1
  have hcur : n * size ≤ cur.size := by rw [h7]; exact Nat.mul_le_mul_right _ h5
  refine ⟨⟨hy.trans h1, .inr ⟨g, cap, putCells id 0 ys.toArray cur, rfl, h3, ?_, h5, h6, ?_, ?_⟩⟩, fun w0 hb => ?_⟩
  · rw [heap_grow_old _ _ (by simpa [putRow, mapBlock, Sort.ahead] using hlt)]
    simp only [putRow, mapBlock, Sort.ahead, Array.getElem?_modify, if_true, h4, Option.map_some, onCells]
  · simp [putCells, h7]
  · apply List.ext_getElem?
    intro k
    by_cases hk : k < n * size
    · rw [List.getElem?_take, if_pos hk, Array.getElem?_toList]
      have hk2 : k < cur.size := by omega
      have hk3 : k < ys.length := by omega
      simp only [putCells, Array.getElem?_mapIdx, Array.getElem?_eq_getElem hk2, Option.map_some, Nat.zero_le, Nat.zero_add, true_and, List.size_toArray, if_pos hk3, Nat.sub_zero, id]
      rw [getElem!_pos ys.toArray k (by simpa using hk3), List.getElem?_eq_getElem hk3]
      simp
    · rw [List.getElem?_eq_none (by rw [List.length_take]; omega), List.getElem?_eq_none (by omega)]
  · refine ⟨hb.os, hb.tape, hb.output, ?_, fun k hk => ?_⟩
    · have := hb.size
      simp [grow, putRow, mapBlock, Sort.ahead]; omega
    · have hkg : k ≠ g := by omega
      rw [heap_grow_old _ _ (by simp [putRow, mapBlock, Sort.ahead]; omega)]
      simp only [putRow, mapBlock, Sort.ahead, Array.getElem?_modify, if_neg (Ne.symm hkg)]
      exact hb.block k hk

theorem ints_one (L : List Int) : ∀ u ∈ ints L, u.oneCell' = true := by
  intro u hu
  obtain ⟨x, _, rfl⟩ := List.mem_map.1 hu
  rfl
def up (L : List Int) : List Int := L.mergeSort fun x y => decide (x ≤ y)
theorem up_length (L : List Int) : (up L).length = L.length := List.length_mergeSort _

theorem sort64_any {w : World} {B : Nat} {v : Value} {L : List Int} (h : w.ownsRow B 2 1 v L.length (ints L)) (hl : L.length < 4611686018427387904) :
    Calls Try.prog 120 #[v] w fun e w' => e = .returned (.tuple #[]) ∧ w'.ownsRow B 2 1 v L.length (ints (up L)) ∧ ∀ w0, Go.RowKit.Below B w0 w → Go.RowKit.Below B w0 w' := by
  have h0 := h
  obtain ⟨h1, h2⟩ := h
  rcases h2 with ⟨rfl, h2⟩ | ⟨g, cap, cur, rfl, h3, h4, h5, h6, h7, h8⟩
  · have hL : L = [] := List.eq_nil_of_length_eq_zero h2
    subst hL
    have hcon := AnyM.slices_Sort_int_none Try.lsort none 0 w
    change Calls Try.prog 120 _ _ _ at hcon
    exact hcon.mono fun e w' ⟨he, hw⟩ => ⟨he, by rw [hw]; simpa [up] using h0, fun w0 hb => by rw [hw]; exact hb⟩
  · have hlt : g < w.heap.size := (Array.getElem?_eq_some_iff.1 h4).1
    have hcon := AnyM.slices_Sort_int Try.lsort g 0 cap L w (fun j hj => by
      have hj2 : j < L.length := by simpa using hj
      have hcl : j < cur.size := by rw [h7]; omega
      constructor
      · rw [Nat.zero_add, cell_of h4 (v := cur[j]) (by rw [Array.getElem?_eq_getElem hcl])]
        have h9 := congrArg (fun l => l[j]?) h8
        simp only [List.getElem?_take, ints, List.getElem?_map] at h9
        rw [if_pos (by omega), Array.getElem?_toList, Array.getElem?_eq_getElem hcl, List.getElem?_eq_getElem hj2] at h9
        rw [getElem!_pos L.toArray j hj]
        simpa using h9
      · unfold World.frozen?
        rw [h4]
        simp) hlt hl
    change Calls Try.prog 120 _ _ _ at hcon
    refine hcon.mono fun e w' ⟨he, m, os, hw⟩ => ⟨he, ?_⟩
    subst hw
    rw [putRow_map]
    have hm : ((up L).toArray.map (Value.int .i64)) = (ints (up L)).toArray := by simp [ints]
    rw [show (L.mergeSort fun x y => decide (x ≤ y)) = up L from rfl, hm]
    exact own_put h0 (by rw [ints_length, ints_length, up_length]) m os

theorem i64info : (Try.prog.info? 2).map (fun i => (i.zero, i.size, i.bytes)) = some (some (.int .i64 0), 1, 8) := by kernel_rfl
theorem nilq64 (A : Option Addr) (n c : Nat) (w : World) : (binOp .eql 38 (.slice A n c) (.slice none 0 0)).run Try.prog w = .ok (.bool A.isNone) w := Lib.run_eql_slice_nil w _ _ A n c 0 0 Try.underlying38
/-- The call's own new numbers. -/
def New64 (w : World) (l : List Int) (e : Ending) (w' : World) : Prop := ∃ v, e = .returned v ∧ w'.ownsRow w.heap.size 2 1 v l.length (ints l) ∧ Ext w w'

set_option maxHeartbeats 1000000 in
theorem clone64_any {A : Option Addr} {c lo hi : Nat} {l : List Int} {w : World} (h : Sl w lo hi A (ints l)) (hhi : hi ≤ w.heap.size) (hl : l.length ≤ 1099511627776) :
    Calls Try.prog 119 #[.slice A l.length c] w (New64 w l) := by
  obtain ⟨i0, hi0, hz0, hz1, hz2⟩ := info_parts i64info
  have HI := Lib.hid hi0
  clear hi0
  rcases A with _ | a
  · have hl0 : l = [] := by
      rcases h with h | ⟨b, o, he, _⟩
      · simpa [ints] using h
      · cases he
    subst hl0
    have hq := nilq64 none 0 c
    clear h hl
    go_enter Try.func119, Try.ntmps119
    go_wp2_with fail
    go_ret
    exact ⟨_, rfl, World.ownsRow_nil _ _ _ _, Ext.refl _⟩
  · have hq := fun n => nilq64 (some a) n c
    have HL := Lib.hid hl
    have HH := Lib.hid h
    clear h hl
    go_enter Try.func119, Try.ntmps119
    go_wp2_with (at_builtin; refine wpList_addall rfl (.tmp 5) (.tmp 6) 38 rfl w.heap.size 2 i0 (.int .i64 0) 8 Try.underlying38 HI.out hz0 hz1 hz2 rfl _ _ _ rfl (own_empty w _) lo hi (some a) l.length c (ints l) rfl ?c1 ?c2 ?c3 (ints_one l) ?c4 ?c5 ?c6 ?_)
    case c1 => intro h; cases h
    case c2 => exact ints_length l
    case c3 => exact Sl.alloc HH.out hhi _
    case c4 => have := HL.out; unfold maxLen; omega
    case c5 => have := HL.out; omega
    case c6 => simp
    intro v1 w1 hown1 hb1
    go_wp2
    go_ret
    exact ⟨v1, rfl, by simpa using hown1, hb1 _ ((Below.refl _ _).alloc (Nat.le_refl _) _)⟩

theorem sorted_any {A : Option Addr} {c lo hi : Nat} {l : List Int} {w : World} (h : Sl w lo hi A (ints l)) (hhi : hi ≤ w.heap.size) (hl : l.length ≤ 1099511627776) :
    Calls Try.prog 68 #[.slice A l.length c] w (New64 w (up l)) := by
  have HC := Lib.hid (clone64_any (c := c) h hhi hl)
  have HL := Lib.hid hl
  clear h hhi hl
  go_enter Try.func68, Try.ntmps68
  go_wp2_with fail
  refine Calls.mono HC.out ?_
  rintro e w1 ⟨v1, rfl, hown, hx⟩
  have HS := Lib.hid (sort64_any hown (by have := HL.out; omega))
  have HX := Lib.hid hx
  clear hown hx
  go_wp2_with fail
  refine Calls.mono HS.out ?_
  rintro e w2 ⟨rfl, hown2, hb2⟩
  have HO := Lib.hid hown2
  have HB := Lib.hid (hb2 _ HX.out)
  clear hown2 hb2
  go_wp2_with fail
  go_ret
  exact ⟨v1, rfl, by rw [up_length]; exact HO.out, HB.out⟩
end Go.Proofs.Ytjlppjffkebejaa

/- edit.Files: the numbers of a version's tables, rising. -/
namespace Go.Proofs.Ytjlppjffkebejaa
open Go.ChangeShapes Go.WideShapes Go.ChangeAt Go.RowKit

/-- A version's four numbers. -/
structure Ver where
  next : Int
  log : Int
  index : Int
  seq : Int
/-- Numbers in a row of the call's own, from block B on. -/
def Own64 (B : Nat) (l : List Int) (v : Value) (u : World) : Prop := u.ownsRow B 2 1 v l.length (ints l)
theorem Mono.own64 (B : Nat) (l : List Int) : Mono (Own64 B l) := fun _ _ _ h hu => own_below h hu (Nat.le_refl _)
theorem Own64.below {B : Nat} {l : List Int} {v : Value} {u u' : World} (h : Own64 B l v u) (hu : Ext u u') : Own64 B l v u' := own_below h hu (Nat.le_refl _)
theorem Own64.base {B B' : Nat} {l : List Int} {v : Value} {u : World} (h : Own64 B l v u) (hB : B' ≤ B) : Own64 B' l v u := ownsRow_base h hB
theorem Own64.sl {B : Nat} {l : List Int} {v : Value} {u : World} (h : Own64 B l v u) : ∃ A c, v = .slice A l.length c ∧ Sl u 0 u.heap.size A (ints l) ∧ (A = none → c = 0) := by
  have h0 := h
  obtain ⟨A, c, rfl, h1, h2, h3, h4⟩ := Sl.of_own h
  refine ⟨A, c, rfl, h4.wide (Nat.zero_le _) (Nat.le_refl _), ?_⟩
  rintro rfl
  rcases h0.2 with ⟨he, _⟩ | ⟨g, cap, cur, he, _⟩
  · injection he
  · cases he
def nums (L : List (Tab × TabH)) : List Int := L.map fun p => p.1.num
theorem nums_length (L : List (Tab × TabH)) : (nums L).length = L.length := by simp [nums]

set_option maxRecDepth 100000 in
set_option maxHeartbeats 4000000 in
theorem files_any {w : World} {lo hi : Nat} {A : Option Addr} {c : Nat} {L : List (Tab × TabH)} (V : Ver) (h : tabs w lo hi A L) (hhi : hi ≤ w.heap.size) (hlen : L.length ≤ 1000000000000) :
    Calls Try.prog 115 #[.agg #[.int .i64 V.next, .int .i64 V.log, .int .i64 V.index, .int .i64 V.seq, .slice A L.length c]] w (New64 w (up (nums L))) := by
  obtain ⟨i0, hi0, hz0, hz1, hz2⟩ := info_parts i64info
  have HI := Lib.hid hi0
  clear hi0
  obtain ⟨w1, hw1⟩ : ∃ w1, w1 = w.alloc (.cells #[.int .i64 V.next, .int .i64 V.log, .int .i64 V.index, .int .i64 V.seq, .slice A L.length c] 36) := ⟨_, rfl⟩
  have HX0 : Hid (Ext w w1) := by rw [hw1]; exact ext_alloc _ _
  have HS1 : Hid (w1.heap.size = w.heap.size + 1) := by rw [hw1]; exact Array.size_push _
  have HB4 : Hid (w1.cell? ⟨w.heap.size, 4, none⟩ = some (.slice A L.length c)) := by rw [hw1]; exact cell_of (heap_at _ _ rfl) rfl
  have HE := Lib.hid h
  have HHI := Lib.hid hhi
  have HL := Lib.hid hlen
  have hlI : (L.length : Int) ≤ 1000000000000 := by omega
  have c4 := HB4.out
  clear h hhi hlen
  go_enter Try.func115, Try.ntmps115
  rw [hw1] at c4
  go_wp2_with fail
  rw [← hw1]
  clear c4
  go_loopw [3, 8] (fun v a wr => ∃ i : Nat, a = .int .i64 (i : Int) ∧ i ≤ L.length ∧ Hid (Own64 w1.heap.size ((nums L).take i) v wr) ∧ Hid (Ext w1 wr)) (fun _ a _ => L.length - (intOf a).toNat)
  case atStart => exact ⟨0, rfl, by omega, World.ownsRow_nil _ _ _ _, Ext.refl _⟩
  case round =>
    obtain ⟨i, rfl, hm, HO, HX⟩ := hrel
    by_cases hlt : i < L.length
    · have d : decide ((i : Int) < (L.length : Int)) = true := by simp; omega
      obtain ⟨p, hp⟩ : ∃ p, L[i]? = some p := ⟨_, List.getElem?_eq_getElem hlt⟩
      obtain ⟨b, o, rfl, _, _⟩ := HE.out.base (by omega)
      have c4 := ext_cell HX.out HB4.out
      obtain ⟨c0, _, _, _, _⟩ := (HE.out.below (Ext.trans HX0.out HX.out) HHI.out).get hp
      have HP1 := Lib.hid hp
      have hw2 : wrap64 ((i : Int) + 1) = ((i + 1 : Nat) : Int) := by have := HL.out; unfold wrap64; omega
      have n3 : (0 : Int) ≤ (i : Int) := by omega
      have n4 : (i : Int) < (L.length : Int) := by omega
      have HLT := Lib.hid hlt
      have hz2' : w1.heap.size ≤ wr.heap.size := HX.out.size
      have hown := HO.out
      have hti : ((nums L).take i).length = i := by rw [List.length_take, nums_length]; omega
      have HTI := Lib.hid hti
      clear hp hlt hm hti
      unfold Own64 at hown
      rw [HTI.out] at hown
      go_wp2_with (at_builtin; refine wpList_push rfl (.tmp 11) (.tmp 18) 38 rfl w1.heap.size 2 i0 (.int .i64 0) 8 Try.underlying38 HI.out hz0 hz1 hz2 rfl _ _ _ rfl hown _ rfl rfl ?c3 ?c4 hz2' ?_)
      case c3 => have := HL.out; have := HLT.out; unfold maxLen; omega
      case c4 => have := HL.out; have := HLT.out; omega
      intro v3 w3 hown3 hb3
      have HB3 : Hid (Ext w1 w3) := by
        have h8 : Below (w.heap.size + 1) w1 wr := by have := HX.out; unfold Ext at this; rw [HS1.out] at this; exact this
        have h9 := hb3 _ h8
        unfold Hid Ext; rw [HS1.out]; exact h9
      have HO3 : Hid (Own64 w1.heap.size ((nums L).take (i + 1)) v3 w3) := by
        have e : (nums L).take (i + 1) = (nums L).take i ++ [p.1.num] := by
          rw [List.take_add_one, show (nums L)[i]? = some p.1.num by unfold nums; rw [List.getElem?_map, HP1.out]; rfl]; rfl
        have e2 : ((nums L).take (i + 1)).length = i + 1 := by rw [e, List.length_append, HTI.out]; rfl
        unfold Own64 Hid
        rw [e2, e]
        unfold ints
        rw [List.map_append]
        rw [HS1.out]; exact hown3
      clear hown hown3 hb3 c0 c4
      go_wp2_with fail
      refine ⟨⟨i + 1, rfl, HLT.out, HO3.out, HB3.out⟩, by have := HLT.out; simp [intOf]; omega⟩
    · have d : decide ((i : Int) < (L.length : Int)) = false := by simp; omega
      have d2 : decide (i < L.length) = false := by simp; omega
      have hi2 : i = L.length := by omega
      have HO2 : Hid (Own64 w1.heap.size (nums L) u3 wr) := by
        have := HO.out
        rw [hi2, List.take_of_length_le (by rw [nums_length]; exact Nat.le_refl _)] at this
        exact this
      have HS := Lib.hid (sort64_any HO2.out (by rw [nums_length]; have := HL.out; omega))
      clear hi2 hlt hm
      go_wp2_with fail
      refine Calls.mono HS.out ?_
      rintro e w2 ⟨rfl, hown2, hb2⟩
      have HO4 := Lib.hid hown2
      have HB := Lib.hid (hb2 _ HX.out)
      clear hown2 hb2
      go_wp2_with fail
      go_ret
      refine ⟨u3, rfl, ?_, Ext.trans HX0.out HB.out⟩
      rw [up_length]
      exact ownsRow_base HO4.out HX0.out.size
end Go.Proofs.Ytjlppjffkebejaa

/- edit.numbersMay: a version's numbers, and those of its tables beside them. -/
namespace Go.Proofs.Ytjlppjffkebejaa
open Go.ChangeShapes Go.WideShapes Go.ChangeAt Go.RowKit

theorem own64_lit {u : World} {B : Nat} (x : Int) (hB : B ≤ u.heap.size) : Own64 B [x] (.slice (some ⟨u.heap.size, 0, none⟩) 1 1) (u.alloc (.cells #[.int .i64 x] 2)) :=
  ⟨rfl, .inr ⟨u.heap.size, 1, _, rfl, hB, heap_alloc_new u _, Nat.le_refl _, by simp [maxLen], rfl, rfl⟩⟩
/-- 'append(s, x...)': numbers to numbers. -/
theorem wpList_add64 {ops : Array Oper} {rest : List Oper} {o : Oper} {a : Act} {Q : Exit → Act → World → Prop} {wr : World} (hgd : o.guard = none) (s x : Operand)
    (ho : o.op = .call { callee := .builtin .append, args := #[s, x], argTypes := #[38, 38] }) (B : Nat) (v : Value) (l : List Int) (hs : a.eval s = v) (hown : Own64 B l v wr)
    (lo hi : Nat) (u : Value) (r : List Int) (hx : a.eval x = u) (hu : ∃ A c, u = .slice A r.length c ∧ Sl wr lo hi A (ints r) ∧ (A = none → c = 0)) (hlen : l.length + r.length ≤ 1099511627776) (hB : B ≤ wr.heap.size)
    (h : ∀ A' c' w', Own64 B (l ++ r) (.slice A' (l ++ r).length c') w' → (∀ w0, Below B w0 wr → Below B w0 w') → wpList Try.prog ops Q rest (a.put o.dst (.slice A' (l ++ r).length c')) w') :
    wpList Try.prog ops Q (o :: rest) a wr := by
  obtain ⟨i0, hi0, ix0, ix1, ix2⟩ := info_parts i64info
  obtain ⟨A, c, rfl, hby, hnil⟩ := hu
  refine wpList_addall hgd s x 38 ho B 2 i0 (.int .i64 0) 8 Try.underlying38 hi0 ix0 ix1 ix2 rfl v l.length (ints l) hs hown lo hi A r.length c (ints r) hx hnil (by rw [ints_length]) hby (ints_one r) (by unfold maxLen; omega) (by omega) hB (fun v' w' ho' hb => ?_)
  have hown' : Own64 B (l ++ r) v' w' := by unfold Own64 ints; rw [List.length_append, List.map_append]; exact ho'
  obtain ⟨A', c', rfl, _⟩ := hown'.sl
  exact h A' c' w' hown' hb

/-- May a version's numbers be, and those of its tables beside them? -/
def NumsM (V : Ver) (N : List Int) : Prop := (∀ n ∈ [V.next, V.log, V.index, V.seq], 0 ≤ n ∧ n ≤ 2147483647) ∧ Up (up (up N ++ [V.log]) ++ [V.next])

set_option maxRecDepth 100000 in
set_option maxHeartbeats 4000000 in
theorem numsmay_any {w : World} {lo hi : Nat} {A : Option Addr} {c : Nat} {L : List (Tab × TabH)} (V : Ver) (h : tabs w lo hi A L) (hhi : hi ≤ w.heap.size) (hlen : L.length ≤ 100000000000) :
    Calls Try.prog 61 #[.agg #[.int .i64 V.next, .int .i64 V.log, .int .i64 V.index, .int .i64 V.seq, .slice A L.length c]] w fun x w' => ∃ z : Bool, (z = true ↔ NumsM V (nums L)) ∧ x = .returned (.bool z) ∧ Ext w w' := by
  obtain ⟨w1, hw1⟩ : ∃ w1, w1 = (w.alloc (.cells #[.int .i64 V.next, .int .i64 V.log, .int .i64 V.index, .int .i64 V.seq, .slice A L.length c] 36)).alloc (.cells #[.int .i64 V.next, .int .i64 V.log, .int .i64 V.index, .int .i64 V.seq] 2) := ⟨_, rfl⟩
  have HX0 : Hid (Ext w w1) := by rw [hw1]; exact Ext.trans (ext_alloc _ _) (ext_alloc _ _)
  have HC0 : Hid (w1.cell? ⟨w.heap.size, 0, none⟩ = some (.int .i64 V.next)) := by rw [hw1]; exact cell_new (cell_of (heap_at _ _ rfl) rfl) _
  have HC1 : Hid (w1.cell? ⟨w.heap.size, 1, none⟩ = some (.int .i64 V.log)) := by rw [hw1]; exact cell_new (cell_of (heap_at _ _ rfl) rfl) _
  have HC2 : Hid (w1.cell? ⟨w.heap.size, 2, none⟩ = some (.int .i64 V.index)) := by rw [hw1]; exact cell_new (cell_of (heap_at _ _ rfl) rfl) _
  have HC3 : Hid (w1.cell? ⟨w.heap.size, 3, none⟩ = some (.int .i64 V.seq)) := by rw [hw1]; exact cell_new (cell_of (heap_at _ _ rfl) rfl) _
  have HC4 : Hid (w1.cell? ⟨w.heap.size, 4, none⟩ = some (.slice A L.length c)) := by rw [hw1]; exact cell_new (cell_of (heap_at _ _ rfl) rfl) _
  have HN : Hid (∀ i n, [V.next, V.log, V.index, V.seq][i]? = some n → w1.cell? ⟨w.heap.size + 1, i, none⟩ = some (.int .i64 n)) := by
    intro i n hn
    rw [hw1]
    refine cell_of (heap_at _ _ (by simp)) ?_
    match i, hn with
    | 0, hn => simpa using hn
    | 1, hn => simpa using hn
    | 2, hn => simpa using hn
    | 3, hn => simpa using hn
    | i + 4, hn => simp at hn
  have HE := Lib.hid h
  have HHI := Lib.hid hhi
  have HL := Lib.hid hlen
  clear h hhi hlen
  go_enter Try.func61, Try.ntmps61
  go_wp2_with fail
  rw [← hw1]
  clear hw1
  go_loopw [16] (fun a wr => ∃ i : Nat, a = .int .i64 (i : Int) ∧ i ≤ 4 ∧ Hid (∀ j n, j < i → [V.next, V.log, V.index, V.seq][j]? = some n → 0 ≤ n ∧ n ≤ 2147483647) ∧ Hid (Ext w1 wr)) (fun a _ => 4 - (intOf a).toNat)
  case atStart => exact ⟨0, rfl, by omega, fun j n hj => by omega, Ext.refl _⟩
  case round =>
    obtain ⟨i, rfl, hm, HR, HX⟩ := hrel
    by_cases hlt : i < 4
    · have d : decide ((i : Int) < 4) = true := by simp; omega
      have d2 : decide (i < 4) = true := by simp; omega
      obtain ⟨n, hn⟩ : ∃ n, [V.next, V.log, V.index, V.seq][i]? = some n := ⟨_, List.getElem?_eq_getElem hlt⟩
      have cn := ext_cell HX.out (HN.out i n hn)
      have HN1 := Lib.hid hn
      have HLT := Lib.hid hlt
      have hw2 : wrap64 ((i : Int) + 1) = ((i + 1 : Nat) : Int) := by unfold wrap64; omega
      have n3 : (0 : Int) ≤ (i : Int) := by omega
      have n4 : (i : Int) < 4 := by omega
      clear hn hm hlt
      by_cases b1 : n < 0
      · have d3 : decide (n < 0) = true := decide_eq_true b1
        have HB1 := Lib.hid b1
        clear b1
        go_wp2_with fail
        go_ret
        exact ⟨false, ⟨fun h => (by cases h), fun h => by have := h.1 n (List.mem_of_getElem? HN1.out); have := HB1.out; omega⟩, rfl, Ext.trans HX0.out HX.out⟩
      have d3 : decide (n < 0) = false := decide_eq_false b1
      by_cases b2 : 2147483647 < n
      · have d4 : decide (2147483647 < n) = true := decide_eq_true b2
        have HB1 := Lib.hid b2
        clear b1 b2
        go_wp2_with fail
        go_ret
        exact ⟨false, ⟨fun h => (by cases h), fun h => by have := h.1 n (List.mem_of_getElem? HN1.out); have := HB1.out; omega⟩, rfl, Ext.trans HX0.out HX.out⟩
      have d4 : decide (2147483647 < n) = false := decide_eq_false b2
      have HB1 := Lib.hid b1
      have HB2 := Lib.hid b2
      clear b1 b2
      go_wp2_with fail
      refine ⟨⟨i + 1, rfl, HLT.out, fun j m hj hm => ?_, HX.out⟩, by have := HLT.out; simp [intOf]; omega⟩
      by_cases hji : j = i
      · rw [hji, HN1.out] at hm
        injection hm with hm
        subst hm
        have := HB1.out; have := HB2.out; omega
      · exact HR.out j m (by omega) hm
    · have d : decide ((i : Int) < 4) = false := by simp; omega
      have d2 : decide (i < 4) = false := by simp; omega
      have HALL : Hid (∀ n ∈ [V.next, V.log, V.index, V.seq], 0 ≤ n ∧ n ≤ 2147483647) := fun n hn => by
        obtain ⟨j, hj⟩ := List.getElem?_of_mem hn
        exact HR.out j n (by have := (List.getElem?_eq_some_iff.1 hj).1; simp at this; omega) hj
      clear hlt hm HR HN
      obtain ⟨B, hB⟩ : ∃ B, B = wr.heap.size := ⟨_, rfl⟩
      have HBE := Lib.hid hB
      have c0 := ext_cell HX.out HC0.out
      have c1 := ext_cell HX.out HC1.out
      have c2 := ext_cell HX.out HC2.out
      have c3 := ext_cell HX.out HC3.out
      have c4 := ext_cell HX.out HC4.out
      have HB1 : Hid (w1.heap.size ≤ B) := by rw [hB]; exact HX.out.size
      have HF : Hid (∀ u, Ext wr u → Calls Try.prog 115 #[.agg #[.int .i64 V.next, .int .i64 V.log, .int .i64 V.index, .int .i64 V.seq, .slice A L.length c]] u (New64 u (up (nums L)))) := fun u hu => files_any V (HE.out.below (Ext.trans HX0.out (Ext.trans HX.out hu)) HHI.out) (Nat.le_trans HHI.out (Ext.trans HX0.out (Ext.trans HX.out hu)).size) (by have := HL.out; omega)
      clear hB
      go_upto_region 7 with (fail)
      refine flow_tail (by kernel_rfl) [Is (.agg #[.int .i64 V.next, .int .i64 V.log, .int .i64 V.index, .int .i64 V.seq, .slice A L.length c]), Own64 B (up (nums L)), Is (.pointer (some ⟨w.heap.size, 1, none⟩)), Is (.int .i64 V.log), Own64 B [V.log]] 5 (by kernel_rfl) (by kernel_rfl) (by kernel_rfl) (by kernel_rfl) ?mono (fun f1 => ?obl) ?fin
      case mono =>
        simp only [List.forall_mem_cons, List.not_mem_nil, false_imp_iff, implies_true, and_true]
        exact ⟨.is _, .own64 _ _, .is _, .is _, .own64 _ _⟩
      case fin =>
        intro g1 u hu hg
        simp only [List.take_succ_cons, List.take_zero, List.drop_succ_cons, List.drop_zero, puts, Act.put, List.setIfInBounds_toArray, List.set_cons_zero, List.set_cons_succ]
        have h1 : Own64 B (up (nums L)) (g1 1) u := hg 1 (by decide)
        have h4 : Own64 B [V.log] (g1 4) u := hg 4 (by decide)
        obtain ⟨v1, e1⟩ : ∃ v, v = g1 1 := ⟨_, rfl⟩
        obtain ⟨v4, e4⟩ : ∃ v, v = g1 4 := ⟨_, rfl⟩
        rw [← e1] at h1 ⊢
        rw [← e4] at h4 ⊢
        have HU : Hid (Ext w1 u) := Ext.trans HX.out (Ext.trans (Ext.drew wr) hu)
        have HBU : Hid (B ≤ u.heap.size) := Nat.le_trans (Nat.le_of_eq HBE.out) (Ext.trans (Ext.drew wr) hu).size
        have H1 := Lib.hid h1
        have H4 := Lib.hid h4.sl
        clear h1 h4 e1 e4 hg hu c0 c1 c2 c3 c4 HF
        have HN : Hid ((up (nums L)).length = L.length) := by unfold Hid; rw [up_length, nums_length]
        refine wpList_add64 rfl (.tmp 28) (.tmp 31) rfl B v1 _ rfl H1.out 0 u.heap.size v4 [V.log] rfl H4.out (by rw [HN.out]; have := HL.out; simp; omega) HBU.out (fun A5 c5 w5 ho5 hb5 => ?_)
        have HO5 := Lib.hid ho5
        have HX5 : Hid (Ext w1 w5) := by
          exact Below.trans HU.out ((hb5 _ (Below.refl _ _)).mono HB1.out)
        clear ho5 hb5
        obtain ⟨A6, c6, e6, hs6, hn6⟩ := HO5.out.sl
        injection e6 with e61 _ e62
        subst e61 e62
        have HS := Lib.hid (sorted_any (c := c5) hs6 (Nat.le_refl _) (by rw [List.length_append, HN.out]; have := HL.out; simp; omega))
        have HN5 : Hid ((up (up (nums L) ++ [V.log])).length = L.length + 1) := by unfold Hid; rw [up_length, List.length_append, HN.out]; rfl
        clear hs6 hn6
        obtain ⟨n5, hn5⟩ : ∃ n, n = (up (nums L) ++ [V.log]).length := ⟨_, rfl⟩
        rw [← hn5] at HS ⊢
        clear hn5
        go_wp2_with fail
        refine Calls.mono HS.out ?_
        rintro e w6 ⟨v6, rfl, ho6, hx6⟩
        have HO6 : Hid (Own64 w5.heap.size (up (up (nums L) ++ [V.log])) v6 w6) := ho6
        have HX56 := Lib.hid hx6
        have HX6 : Hid (Ext w1 w6) := Ext.trans HX5.out hx6
        have q0 := ext_cell HX6.out HC0.out
        clear ho6 hx6
        go_wp2_with (at_builtin; refine wpList_add64 rfl (.tmp 34) (.tmp 37) rfl w5.heap.size v6 _ rfl (HO6.out.below (ext_alloc _ _)) 0 _ _ [V.next] rfl (own64_lit (B := 0) V.next (Nat.zero_le _)).sl (by rw [HN5.out]; have := HL.out; simp; omega) (Nat.le_trans HX56.out.size (ext_alloc _ _).size) (fun A7 c7 w7 ho7 hb7 => ?_))
        have HX7 : Hid (Ext w5 w7) := hb7 _ (Ext.trans HX56.out (ext_alloc _ _))
        obtain ⟨A8, c8, e8, hs8, _⟩ := Own64.sl ho7
        injection e8 with e81 _ e82
        subst e81 e82
        have HRS := Lib.hid (risingn_any (c := c7) hs8 (Nat.le_refl _) (by rw [List.length_append, HN5.out]; have := HL.out; simp; omega))
        clear ho7 hb7 hs8 q0
        rw [List.length_append] at HRS
        refine Calls.mono HRS.out ?_
        rintro x w8 ⟨z, hz, rfl, hx8⟩
        have HZ := Lib.hid hz
        have HX8 : Hid (Ext w w8) := Ext.trans HX0.out (Ext.trans HX5.out (Ext.trans HX7.out hx8))
        clear hz hx8
        go_wp2_with fail
        go_ret
        exact ⟨z, ⟨fun h => ⟨HALL.out, HZ.out.1 h⟩, fun h => HZ.out.2 h.2⟩, rfl, HX8.out⟩
      case obl =>
        refine ⟨fun u hu hd => ?_, ?_⟩
        · have hu2 := Ext.trans (Ext.drew wr) hu
          have q0 := ext_cell hu2 c0
          have q1 := ext_cell hu2 c1
          have q2 := ext_cell hu2 c2
          have q3 := ext_cell hu2 c3
          have q4 := ext_cell hu2 c4
          go_simp
          exact ⟨Ext.refl _, rfl⟩
        refine ⟨fun u hu hd => ?_, ?_⟩
        · simp only [Act.put, List.setIfInBounds_toArray, List.set_cons_zero, List.set_cons_succ]
          have e0 : f1 0 = .agg #[.int .i64 V.next, .int .i64 V.log, .int .i64 V.index, .int .i64 V.seq, .slice A L.length c] := hd 0 (by kernel_rfl)
          go_simp
          refine (HF.out u (Ext.trans (Ext.drew wr) hu)).mono ?_
          rintro x w9 ⟨v9, rfl, ho9, hx9⟩
          exact ⟨_, rfl, hx9, ownsRow_base ho9 (Nat.le_trans (Nat.le_of_eq HBE.out) (Ext.trans (Ext.drew wr) hu).size)⟩
        refine ⟨fun u hu hd => ?_, ?_⟩
        · simp only [Act.put, List.setIfInBounds_toArray, List.set_cons_zero, List.set_cons_succ]
          go_simp
          exact ⟨Ext.refl _, rfl⟩
        refine ⟨fun u hu hd => ?_, ?_⟩
        · simp only [Act.put, List.setIfInBounds_toArray, List.set_cons_zero, List.set_cons_succ]
          have e2 : f1 2 = .pointer (some ⟨w.heap.size, 1, none⟩) := hd 2 (by kernel_rfl)
          have hu2 := Ext.trans (Ext.drew wr) hu
          have q0 := ext_cell hu2 c1
          go_simp
          exact ⟨Ext.refl _, rfl⟩
        refine ⟨fun u hu hd => ?_, ?_⟩
        · simp only [Act.put, List.setIfInBounds_toArray, List.set_cons_zero, List.set_cons_succ]
          have e3 : f1 3 = .int .i64 V.log := hd 3 (by kernel_rfl)
          go_simp
          exact ⟨ext_alloc _ _, own64_lit V.log (Nat.le_trans (Nat.le_of_eq HBE.out) (Ext.trans (Ext.drew wr) hu).size)⟩
        trivial
end Go.Proofs.Ytjlppjffkebejaa

/- edit.May. -/
namespace Go.Proofs.Ytjlppjffkebejaa
open Go.ChangeShapes Go.WideShapes Go.ChangeAt Go.RowKit

/-- Which versions may be, as the program asks. -/
def VMay (V : Ver) (T : List Tab) : Prop := NumsM V (T.map Tab.num) ∧ (∀ t ∈ T, placeM t = true) ∧ InO T
theorem nums_eq (L : List (Tab × TabH)) : nums L = (L.map Prod.fst).map Tab.num := by simp [nums]
theorem places_eq (L : List (Tab × TabH)) : (∀ p ∈ L, placeM p.1 = true) ↔ ∀ t ∈ L.map Prod.fst, placeM t = true :=
  ⟨fun h t ht => by obtain ⟨p, hp, rfl⟩ := List.mem_map.1 ht; exact h p hp, fun h p hp => h _ (List.mem_map_of_mem hp)⟩

set_option maxHeartbeats 4000000 in
theorem vmay_any {w : World} {lo hi : Nat} {A : Option Addr} {c : Nat} {L : List (Tab × TabH)} (V : Ver) (h : tabs w lo hi A L) (hhi : hi ≤ w.heap.size) (hlen : L.length ≤ 100000000000) :
    Calls Try.prog 20 #[.agg #[.int .i64 V.next, .int .i64 V.log, .int .i64 V.index, .int .i64 V.seq, .slice A L.length c]] w fun x w' => ∃ z : Bool, (z = true ↔ VMay V (L.map Prod.fst)) ∧ x = .returned (.bool z) ∧ Ext w w' := by
  obtain ⟨w1, hw1⟩ : ∃ w1, w1 = w.alloc (.cells #[.int .i64 V.next, .int .i64 V.log, .int .i64 V.index, .int .i64 V.seq, .slice A L.length c] 36) := ⟨_, rfl⟩
  have HX0 : Hid (Ext w w1) := by rw [hw1]; exact ext_alloc _ _
  have HC4 : Hid (w1.cell? ⟨w.heap.size, 4, none⟩ = some (.slice A L.length c)) := by rw [hw1]; exact cell_of (heap_at _ _ rfl) rfl
  have HT : Hid (∀ u, Ext w1 u → tabs u lo hi A L ∧ hi ≤ u.heap.size) := fun u hu => ⟨h.below (Ext.trans HX0.out hu) hhi, Nat.le_trans hhi (Ext.trans HX0.out hu).size⟩
  have HL := Lib.hid hlen
  have HN := Lib.hid (numsmay_any (c := c) V (HT.out w1 (Ext.refl _)).1 (HT.out w1 (Ext.refl _)).2 hlen)
  clear h hhi hlen
  go_enter Try.func20, Try.ntmps20
  rw [hw1] at HN
  go_wp2_with fail
  refine Calls.mono HN.out ?_
  rintro e w2 ⟨z1, hz1, rfl, hx2⟩
  rw [← hw1] at hx2
  have HX2 := Lib.hid hx2
  have HZ1 := Lib.hid hz1
  have q4 := ext_cell hx2 HC4.out
  clear hx2 hz1
  rcases z1 with _ | _
  · go_wp2_with fail
    go_ret
    exact ⟨false, ⟨fun h => (by cases h), fun h => by have := HZ1.out.2 (by rw [nums_eq]; exact h.1); cases this⟩, rfl, Ext.trans HX0.out HX2.out⟩
  have HP := Lib.hid (placesmay_any (c := c) (HT.out w2 HX2.out).1 (HT.out w2 HX2.out).2 (by have := HL.out; omega))
  go_wp2_with fail
  refine Calls.mono HP.out ?_
  rintro e w3 ⟨z2, hz2, rfl, hx3⟩
  have HX3 : Hid (Ext w1 w3) := Ext.trans HX2.out hx3
  have HZ2 := Lib.hid hz2
  have r4 := ext_cell hx3 q4
  clear hx3 hz2 q4
  rcases z2 with _ | _
  · go_wp2_with fail
    go_ret
    exact ⟨false, ⟨fun h => (by cases h), fun h => by have := HZ2.out.2 ((places_eq L).2 h.2.1); cases this⟩, rfl, Ext.trans HX0.out HX3.out⟩
  have HO := Lib.hid (inorder_any (c := c) (HT.out w3 HX3.out).1 (HT.out w3 HX3.out).2 (by have := HL.out; omega))
  go_wp2_with fail
  refine Calls.mono HO.out ?_
  rintro e w4 ⟨z3, hz3, rfl, hx4⟩
  have HX4 : Hid (Ext w1 w4) := Ext.trans HX3.out hx4
  have HZ3 := Lib.hid hz3
  clear hx4 hz3
  go_wp2_with fail
  go_ret
  exact ⟨z3, ⟨fun h => ⟨by rw [← nums_eq]; exact HZ1.out.1 trivial, (places_eq L).1 (HZ2.out.1 trivial), HZ3.out.1 h⟩, fun h => HZ3.out.2 h.2.2⟩, rfl, Ext.trans HX0.out HX4.out⟩
end Go.Proofs.Ytjlppjffkebejaa

/- Rows of tables' places of the call's own: append, slices.Clone. -/
namespace Go.Proofs.Ytjlppjffkebejaa
open Go.ChangeShapes Go.WideShapes Go.ChangeAt Go.RowKit

theorem tabinfo : (Try.prog.info? 85).map (fun i => (i.zero, i.size, i.bytes)) = some (some (.agg #[.int .i64 0, .int .i64 0, .slice none 0 0, .slice none 0 0, .int .i64 0]), 5, 72) := by kernel_rfl
theorem nilqt (A : Option Addr) (n c : Nat) (w : World) : (binOp .eql 34 (.slice A n c) (.slice none 0 0)).run Try.prog w = .ok (.bool A.isNone) w := Lib.run_eql_slice_nil w _ _ A n c 0 0 Try.underlying34
theorem own_empty5 (w : World) (e : TypeId) : (w.alloc (.cells #[] e)).ownsRow w.heap.size e 5 (.slice (some ⟨w.heap.size, 0, none⟩) 0 0) 0 [] :=
  ⟨by simp, .inr ⟨w.heap.size, 0, _, rfl, Nat.le_refl _, heap_alloc_new w _, Nat.le_refl _, by simp [maxLen], by simp, by simp⟩⟩
/-- Places in a row of the call's own, from block B on. -/
def OwnT (B : Nat) (R : List (Tab × TabH)) (v : Value) (u : World) : Prop := u.ownsRow B 85 5 v R.length (tabrow R)
theorem OwnT.base {B B' : Nat} {R : List (Tab × TabH)} {v : Value} {u : World} (h : OwnT B R v u) (hB : B' ≤ B) : OwnT B' R v u := by
  obtain ⟨h1, h2⟩ := h
  rcases h2 with h2 | ⟨g, cap, cur, h2, h3, h4⟩
  · exact ⟨h1, .inl h2⟩
  · exact ⟨h1, .inr ⟨g, cap, cur, h2, Nat.le_trans hB h3, h4⟩⟩
theorem OwnT.below {B : Nat} {R : List (Tab × TabH)} {v : Value} {u u' : World} (h : OwnT B R v u) (hu : Ext u u') : OwnT B R v u' := by
  obtain ⟨h1, h2⟩ := h
  rcases h2 with h2 | ⟨g, cap, cur, h2, h3, h4, h5⟩
  · exact ⟨h1, .inl h2⟩
  · exact ⟨h1, .inr ⟨g, cap, cur, h2, h3, (hu.block g (Array.getElem?_eq_some_iff.1 h4).1).trans h4, h5⟩⟩
theorem OwnT.sl {B : Nat} {R : List (Tab × TabH)} {v : Value} {u : World} (h : OwnT B R v u) : ∃ A c, v = .slice A R.length c ∧ Sl u B u.heap.size A (tabrow R) ∧ (A = none → c = 0) ∧ R.length ≤ c := by
  rcases h.2 with ⟨h1, h2⟩ | ⟨g, cap, cur, h1, h2, h3, h4, h5, h6, h7⟩
  · have : R = [] := List.eq_nil_of_length_eq_zero h2
    subst this
    exact ⟨none, 0, h1, .inl rfl, fun _ => rfl, Nat.le_refl _⟩
  · refine ⟨some ⟨g, 0, none⟩, cap, h1, .inr ⟨g, 0, rfl, h2, (Array.getElem?_eq_some_iff.1 h3).1, fun i u hu => ?_⟩, (by rintro ⟨⟩), h4⟩
    have hi : i < R.length * 5 := by have := (List.getElem?_eq_some_iff.1 hu).1; rw [tabrow_length] at this; exact this
    rw [Nat.zero_add]
    refine cell_of h3 ?_
    have h8 := congrArg (fun l => l[i]?) h7
    simp only [List.getElem?_take, if_pos hi, Array.getElem?_toList] at h8
    rw [h8]; exact hu

set_option maxRecDepth 100000 in
/-- 'append(s, x...)': places to places. -/
theorem wpList_addtabs {ops : Array Oper} {rest : List Oper} {o : Oper} {a : Act} {Q : Exit → Act → World → Prop} {wr : World} (hgd : o.guard = none) (s x : Operand)
    (ho : o.op = .call { callee := .builtin .append, args := #[s, x], argTypes := #[34, 34] }) (B : Nat) (v : Value) (R : List (Tab × TabH)) (hs : a.eval s = v) (hown : OwnT B R v wr)
    (lo hi : Nat) (A : Option Addr) (c : Nat) (L : List (Tab × TabH)) (hx : a.eval x = .slice A L.length c) (hsl : Sl wr lo hi A (tabrow L)) (hnil : A = none → c = 0) (hlen : R.length + L.length ≤ 1000000000000) (hB : B ≤ wr.heap.size)
    (h : ∀ A' c' w', OwnT B (R ++ L) (.slice A' (R ++ L).length c') w' → (∀ w0, Below B w0 wr → Below B w0 w') → wpList Try.prog ops Q rest (a.put o.dst (.slice A' (R ++ L).length c')) w') :
    wpList Try.prog ops Q (o :: rest) a wr := by
  obtain ⟨i0, hi0, ix0, ix1, ix2⟩ := info_parts tabinfo
  rcases A with _ | ad
  · have hn : L = [] := by
      rcases hsl with h | ⟨b, o, he, _⟩
      · have := congrArg List.length h
        rw [tabrow_length, List.length_nil] at this
        exact List.eq_nil_of_length_eq_zero (by omega)
      · cases he
    subst hn
    obtain rfl := hnil rfl
    obtain ⟨A', c', rfl, _⟩ := hown.sl
    have h2 := h A' c' wr (by simpa using hown) fun _ hb => hb
    rw [List.append_nil] at h2
    exact wpList_append_own_none hgd s x 34 ho B 85 i0 5 Try.underlying34 hi0 _ R.length (tabrow R) hs hown hx h2
  · refine wpList_append_own _ hgd s x 34 ho B 85 i0 _ 5 72 Try.underlying34 hi0 ix0 ix1 ix2 rfl (by decide) v R.length (tabrow R) hs hown ad L.length c (tabrow L) hx (tabrow_length L) (fun j q hj => ?_) (tabrow_one L) (by unfold maxLen; omega) (by omega) hB
      (fun v' w' h2 h3 _ => ?_)
    · rcases hsl with h0 | ⟨b, o, he, _, _, hc⟩
      · rw [h0] at hj; simp at hj
      · injection he with he
        subst he
        rw [addr_add]
        exact hc j q hj
    · have hown' : OwnT B (R ++ L) v' w' := by unfold OwnT; rw [List.length_append, tabrow_append]; exact h2
      obtain ⟨A', c', rfl, _⟩ := hown'.sl
      exact h A' c' w' hown' fun w0 hb => hb.grown h3 hB (fun k hk => by
        rcases hown.2 with ⟨e, _⟩ | ⟨g, cap, cur, e, h4, _⟩
        · subst e; cases hk
        · subst e; cases hk; exact h4)

/-- The call's own new places. -/
def NewT (w : World) (L : List (Tab × TabH)) (e : Ending) (w' : World) : Prop := ∃ A c, e = .returned (.slice A L.length c) ∧ OwnT w.heap.size L (.slice A L.length c) w' ∧ Ext w w'

set_option maxHeartbeats 1000000 in
theorem clonet_any {A : Option Addr} {c lo hi : Nat} {L : List (Tab × TabH)} {w : World} (h : Sl w lo hi A (tabrow L)) (hhi : hi ≤ w.heap.size) (hl : L.length ≤ 1000000000000) :
    Calls Try.prog 154 #[.slice A L.length c] w (NewT w L) := by
  rcases A with _ | a
  · have hl0 : L = [] := by
      rcases h with h | ⟨b, o, he, _⟩
      · have := congrArg List.length h
        rw [tabrow_length, List.length_nil] at this
        exact List.eq_nil_of_length_eq_zero (by omega)
      · cases he
    subst hl0
    have hq := nilqt none 0 c
    clear h hl
    go_enter Try.func154, Try.ntmps154
    go_wp2_with fail
    go_ret
    exact ⟨none, 0, rfl, World.ownsRow_nil _ _ _ _, Ext.refl _⟩
  · have hq := fun n => nilqt (some a) n c
    have HL := Lib.hid hl
    have HH := Lib.hid h
    clear h hl
    go_enter Try.func154, Try.ntmps154
    go_wp2_with (at_builtin; refine wpList_addtabs rfl (.tmp 5) (.tmp 6) rfl w.heap.size _ [] rfl (own_empty5 w _) lo hi (some a) c L rfl ?c3 (by rintro ⟨⟩) ?c4 ?c6 (fun A5 c5 w5 ho5 hb5 => ?_))
    case c3 => exact Sl.alloc HH.out hhi _
    case c4 => have := HL.out; simp; omega
    case c6 => simp
    have ho6 : OwnT w.heap.size L (.slice A5 L.length c5) w5 := by simpa using ho5
    have HO := Lib.hid ho6
    have HX : Hid (Ext w w5) := hb5 _ (ext_alloc _ _)
    clear ho5 ho6 hb5
    go_wp2
    go_ret
    exact ⟨A5, c5, by simp, HO.out, HX.out⟩
end Go.Proofs.Ytjlppjffkebejaa
