/- Erdo, joined. -/
import Derived.Test.YtjlppjffkebejaaMa11
import Derived.Test.YtjlppjffkebejaaMa9

/- The reference's Do. -/
namespace Go.Proofs.Ytjlppjffkebejaa
open Go.ChangeShapes Go.WideShapes Go.ChangeAt Go.RowKit

/-- How many of the first i are dropped. -/
def gone (l : List Int) (L : List (Tab × TabH)) (i : Nat) : Nat := (L.take i).countP fun p => decide (p.1.num ∈ l)
theorem gone_le (l : List Int) (L : List (Tab × TabH)) (i : Nat) : gone l L i ≤ i := Nat.le_trans (List.countP_le_length) (by rw [List.length_take]; exact Nat.min_le_left _ _)
theorem gone_next {l : List Int} {L : List (Tab × TabH)} {i : Nat} {p : Tab × TabH} (hp : L[i]? = some p) : gone l L (i + 1) = gone l L i + (if p.1.num ∈ l then 1 else 0) := by
  unfold gone
  rw [List.take_add_one, hp, List.countP_append]
  by_cases h : p.1.num ∈ l <;> simp [h]
theorem mem_next {l : List Int} {k : Nat} {x n : Int} (hx : l[k]? = some x) : decide (n ∈ l.take (k + 1)) = (decide (n ∈ l.take k) || (x == n)) := by
  rw [List.take_add_one, hx, Bool.eq_iff_iff]
  simp only [Option.toList_some, List.mem_append, List.mem_singleton, decide_eq_true_eq, Bool.or_eq_true, beq_iff_eq]
  exact ⟨fun h => h.imp id Eq.symm, fun h => h.imp id Eq.symm⟩
/-- A sorted row of one's own, in a version. -/
def VerS (B : Nat) (W : Ver) (M : List (Tab × TabH)) (v : Value) (u : World) : Prop := ∃ A c R, R.Perm M ∧ SdT R ∧ v = .agg #[.int .i64 W.next, .int .i64 W.log, .int .i64 W.index, .int .i64 W.seq, .slice A R.length c] ∧ OwnT B R (.slice A R.length c) u
/-- A sorted row of one's own. -/
def RowS (B : Nat) (M : List (Tab × TabH)) (v : Value) (u : World) : Prop := ∃ A c R, R.Perm M ∧ SdT R ∧ v = .slice A R.length c ∧ OwnT B R (.slice A R.length c) u
theorem Mono.vers (B : Nat) (W : Ver) (M : List (Tab × TabH)) : Mono (VerS B W M) := fun _ _ _ ⟨A, c, R, h0, h1, h2, h3⟩ hx => ⟨A, c, R, h0, h1, h2, h3.below hx⟩
theorem Mono.rows_ (B : Nat) (M : List (Tab × TabH)) : Mono (RowS B M) := fun _ _ _ ⟨A, c, R, h0, h1, h2, h3⟩ hx => ⟨A, c, R, h0, h1, h2, h3.below hx⟩
/-- The box b is filled with the version v. -/
def FillS (B : Nat) (W : Ver) (M : List (Tab × TabH)) (b : Value) (u u' : World) : Prop :=
  Below B u u' ∧ ∃ g A c R, b = .pointer (some ⟨g, 0, none⟩) ∧ B ≤ g ∧ R.Perm M ∧ SdT R ∧ OwnT B R (.slice A R.length c) u' ∧
    u'.heap[g]? = some (.cells #[.int .i64 W.next, .int .i64 W.log, .int .i64 W.index, .int .i64 W.seq, .slice A R.length c] 36 (0, 0))
theorem fills_of {B g : Nat} {W : Ver} {M R : List (Tab × TabH)} {u : World} {A : Option Addr} {c : Nat} {z : Array Value} (hh : u.heap[g]? = some (.cells z 36 (0, 0))) (hz : z.size = 5) (hg : B ≤ g) (hp : R.Perm M) (hs : SdT R) (ho : OwnT B R (.slice A R.length c) u) :
    FillS B W M (.pointer (some ⟨g, 0, none⟩)) u (((((u.setCell ⟨g, 0, none⟩ (.int .i64 W.next)).setCell ⟨g, 1, none⟩ (.int .i64 W.log)).setCell ⟨g, 2, none⟩ (.int .i64 W.index)).setCell ⟨g, 3, none⟩ (.int .i64 W.seq)).setCell ⟨g, 4, none⟩ (.slice A R.length c)) := by
  obtain ⟨a, b, c', d, e, rfl⟩ : ∃ a b c d e, z = #[a, b, c, d, e] := by
    obtain ⟨l⟩ := z
    match l, hz with
    | [a, b, c, d, e], _ => exact ⟨a, b, c, d, e, rfl⟩
  refine ⟨chg_five.below (fun k hk => by rw [hk]; exact hg) (Nat.le_trans hg (Nat.le_of_lt (Array.getElem?_eq_some_iff.1 hh).1)), g, A, c, R, rfl, hg, hp, hs, ho.keep fun b hb => five_far fun e1 => ?_, set_five hh⟩
  obtain ⟨_, _, cur, h4⟩ := ownT_lt ho b hb
  rw [e1, hh] at h4
  injection h4 with h4
  injection h4 with _ h5
  exact absurd h5 (by decide)
/-- May the reference's Do be done? -/
def okR (V W : Ver) (l : List Int) (L : List (Tab × TabH)) (T : List Tab) : Prop := gone l L L.length = l.length ∧ V.next ≤ W.next ∧ V.log ≤ W.log ∧ V.index ≤ W.index ∧ V.seq ≤ W.seq ∧ RMay W T
/-- What the reference's Do answers. -/
def RDoAns (w : World) (V W : Ver) (l : List Int) (L E : List (Tab × TabH)) (e : Ending) (w' : World) : Prop :=
  Ext w w' ∧ ∃ A c R, ∃ z : Bool, R.Perm (restT l L ++ E) ∧ SdT R ∧ (z = true ↔ okR V W l L (R.map Prod.fst)) ∧ e = .returned (.tuple #[.agg #[.int .i64 W.next, .int .i64 W.log, .int .i64 W.index, .int .i64 W.seq, .slice A R.length c], .bool z]) ∧ OwnT w.heap.size R (.slice A R.length c) w'

set_option maxRecDepth 100000 in
set_option maxHeartbeats 16000000 in
theorem rdo_any {w : World} {A A2 D : Option Addr} {c c2 d0 : Nat} {L E : List (Tab × TabH)} {l : List Int} (V W : Ver) (h : tabs w 0 w.heap.size A L) (hE : tabs w 0 w.heap.size A2 E) (hD : Sl w 0 w.heap.size D (ints l)) (hn2 : A2 = none → c2 = 0) (hlen : L.length ≤ 1000) (hlen2 : E.length ≤ 1000) (hlen3 : l.length ≤ 1000)
    (hln : ∀ p ∈ L, p.1.fst.length ≤ 140737488351232 ∧ p.1.lst.length ≤ 140737488351232) (hln2 : ∀ p ∈ E, p.1.fst.length ≤ 140737488351232 ∧ p.1.lst.length ≤ 140737488351232) :
    Calls Try.prog 24 #[.agg #[.int .i64 V.next, .int .i64 V.log, .int .i64 V.index, .int .i64 V.seq, .slice A L.length c], .agg #[.slice D l.length d0, .slice A2 E.length c2, .int .i64 W.next, .int .i64 W.log, .int .i64 W.index, .int .i64 W.seq]] w (RDoAns w V W l L E) := by
  obtain ⟨w1, hw1⟩ : ∃ w1, w1 = ((w.alloc (.cells #[.int .i64 V.next, .int .i64 V.log, .int .i64 V.index, .int .i64 V.seq, .slice A L.length c] 36)).alloc (.cells #[.slice D l.length d0, .slice A2 E.length c2, .int .i64 W.next, .int .i64 W.log, .int .i64 W.index, .int .i64 W.seq] 40)).alloc (.cells #[.int .i64 0, .int .i64 0, .int .i64 0, .int .i64 0, .slice none 0 0] 36) := ⟨_, rfl⟩
  have HX1 : Hid (Ext w w1) := by rw [hw1]; exact Ext.trans (ext_alloc _ _) (Ext.trans (ext_alloc _ _) (ext_alloc _ _))
  have HV : Hid (w1.heap[w.heap.size]? = some (.cells #[.int .i64 V.next, .int .i64 V.log, .int .i64 V.index, .int .i64 V.seq, .slice A L.length c] 36 (0, 0))) := by rw [hw1]; exact ext_heap (Ext.trans (ext_alloc _ _) (ext_alloc _ _)) (heap_at _ _ rfl)
  have HEB : Hid (w1.heap[w.heap.size + 1]? = some (.cells #[.slice D l.length d0, .slice A2 E.length c2, .int .i64 W.next, .int .i64 W.log, .int .i64 W.index, .int .i64 W.seq] 40 (0, 0))) := by rw [hw1]; exact ext_heap (ext_alloc _ _) (heap_at _ _ (by simp))
  have HZB : Hid (w1.heap[w.heap.size + 2]? = some (.cells #[.int .i64 0, .int .i64 0, .int .i64 0, .int .i64 0, .slice none 0 0] 36 (0, 0))) := by rw [hw1]; exact heap_at _ _ (by simp)
  have HZ1S : Hid (w1.heap.size = w.heap.size + 3) := by rw [hw1]; simp [Hid]
  have HT := Lib.hid h
  have HTE := Lib.hid hE
  have HD := Lib.hid hD
  have HN2 := Lib.hid hn2
  have HL := Lib.hid (And.intro hlen (And.intro hlen2 hlen3))
  have HLN := Lib.hid hln
  have HLN2 := Lib.hid hln2
  have hlI : (L.length : Int) ≤ 1000 := by omega
  have hlI3 : (l.length : Int) ≤ 1000 := by omega
  clear h hE hD hn2 hlen hlen2 hlen3 hln hln2
  go_enter Try.func24, Try.ntmps24
  go_upto_region 1 with (fail)
  rw [← hw1]
  clear hw1
  go_wp2_with fail
  go_loopw [6, 7, 8] (fun v f a wr => ∃ i : Nat, a = .int .i64 (i : Int) ∧ i ≤ L.length ∧ f = .int .i64 (gone l L i : Int) ∧ Hid (OwnT w1.heap.size (keptT (fun t => decide (t.num ∈ l)) L i) v wr) ∧ Hid (Ext w1 wr)) (fun _ _ a _ => L.length - (intOf a).toNat)
  case atStart => exact ⟨0, rfl, by omega, rfl, World.ownsRow_nil _ _ _ _, Ext.refl _⟩
  case round =>
    obtain ⟨i, rfl, hm, rfl, HR, HX⟩ := hrel
    have v4 := ext_cell HX.out (cell_of HV.out (k := 4) rfl)
    have e0 := ext_cell HX.out (cell_of HEB.out (k := 0) rfl)
    by_cases hlt : i < L.length
    · have d : decide ((i : Int) < (L.length : Int)) = true := by simp; omega
      have d2 : decide (i < L.length) = true := by simp; omega
      obtain ⟨p, hp⟩ : ∃ p, L[i]? = some p := ⟨_, List.getElem?_eq_getElem hlt⟩
      obtain ⟨b, o, rfl, _, _⟩ := HT.out.base (by omega)
      have HGP : Hid (∀ u, Ext w u → u.cell? ⟨b, o + i * 5, none⟩ = some (.int .i64 p.1.num) ∧ u.cell? ⟨b, o + i * 5 + 1, none⟩ = some (.int .i64 p.1.lev) ∧ u.cell? ⟨b, o + i * 5 + 2, none⟩ = some (.slice p.2.fstA p.1.fst.length p.2.fstc) ∧ u.cell? ⟨b, o + i * 5 + 3, none⟩ = some (.slice p.2.lstA p.1.lst.length p.2.lstc) ∧ u.cell? ⟨b, o + i * 5 + 4, none⟩ = some (.int .i64 p.1.siz)) := fun u hu => (HT.out.below hu (Nat.le_refl _)).get hp
      have HDC : Hid (0 < l.length → ∃ bd od, D = some ⟨bd, od, none⟩ ∧ ∀ u, Ext w u → ∀ (j : Nat) (n : Int), l[j]? = some n → u.cell? ⟨bd, od + j, none⟩ = some (.int .i64 n)) := fun h0 => by
        rcases HD.out with h1 | ⟨bd, od, h1, h2, h3, h4⟩
        · have := congrArg List.length h1
          rw [ints_length, List.length_nil] at this; omega
        · exact ⟨bd, od, h1, fun u hu j n hn => ext_cell hu (h4 j _ (by unfold ints; rw [List.getElem?_map, hn]; rfl))⟩
      have HP1 := Lib.hid hp
      have HW2 := Lib.hid (wrap_next (k := i) (Nat.le_trans hm (Nat.le_trans HL.out.1 (by decide))))
      have HW5 := Lib.hid (wrap_next (k := gone l L i) (Nat.le_trans (gone_le l L i) (Nat.le_trans hm (Nat.le_trans HL.out.1 (by decide)))))
      have n3 : (0 : Int) ≤ (i : Int) := by omega
      have n4 : (i : Int) < (L.length : Int) := by omega
      have HLT := Lib.hid hlt
      obtain ⟨O, co, rfl, _⟩ := HR.out.sl
      clear hp hlt hm
      go_wp2_with fail
      go_loopw [9, 10] (fun y a ws => ∃ k : Nat, a = .int .i64 (k : Int) ∧ k ≤ l.length ∧ y = .bool (decide (p.1.num ∈ l.take k)) ∧ Hid (OwnT w1.heap.size (keptT (fun t => decide (t.num ∈ l)) L i) (.slice O (keptT (fun t => decide (t.num ∈ l)) L i).length co) ws) ∧ Hid (Ext w1 ws)) (fun _ a _ => l.length - (intOf a).toNat)
      case atStart => exact ⟨0, rfl, by omega, by simp, HR.out, HX.out⟩
      case round =>
        obtain ⟨k, rfl, hk, rfl, HR2, HX2⟩ := hrel
        replace v4 := ext_cell HX2.out (cell_of HV.out (k := 4) rfl)
        replace e0 := ext_cell HX2.out (cell_of HEB.out (k := 0) rfl)
        by_cases hkl : k < l.length
        · have f1 : decide ((k : Int) < (l.length : Int)) = true := by simp; omega
          have f2 : decide (k < l.length) = true := by simp; omega
          obtain ⟨x, hx⟩ : ∃ x, l[k]? = some x := ⟨_, List.getElem?_eq_getElem hkl⟩
          obtain ⟨bd, od, rfl, hcd⟩ := HDC.out (by omega)
          have c0 := hcd wr (Ext.trans HX1.out HX2.out) k x hx
          have c1 := (HGP.out wr (Ext.trans HX1.out HX2.out)).1
          have HMN : Hid (decide (p.1.num ∈ l.take (k + 1)) = (decide (p.1.num ∈ l.take k) || (x == p.1.num))) := mem_next hx
          obtain ⟨y, hy⟩ : ∃ y, y = decide (p.1.num ∈ l.take k) := ⟨_, rfl⟩
          rw [← hy]
          rw [← hy] at HMN
          have HKL := Lib.hid hkl
          have n5 : (0 : Int) ≤ (k : Int) := by omega
          have n6 : (k : Int) < (l.length : Int) := by omega
          have hw3 := wrap_next (k := k) (Nat.le_trans hk (Nat.le_trans HL.out.2.2 (by decide)))
          clear hx hkl hk hcd hy
          cases y with
          | true =>
            go_wp2_with fail
            go_quiet (fail)
            go_wp2_with fail
            refine ⟨⟨k + 1, rfl, HKL.out, by rw [HMN.out]; rfl, HR2.out.below (below_drewN (Ext.refl _) _), below_drewN HX2.out _⟩, by clear hw3; have := HKL.out; simp [intOf]; omega⟩
          | false =>
            obtain ⟨z, hz⟩ : ∃ z, z = (x == p.1.num) := ⟨_, rfl⟩
            rw [← hz] at HMN
            have hz2 := hz.symm
            clear hz
            cases z with
            | true =>
              go_wp2_with fail
              go_quiet (fail)
              go_wp2_with fail
              refine ⟨⟨k + 1, rfl, HKL.out, by rw [HMN.out]; rfl, HR2.out.below (below_drewN (Ext.refl _) _), below_drewN HX2.out _⟩, by clear hw3; have := HKL.out; simp [intOf]; omega⟩
            | false =>
              go_wp2_with fail
              go_quiet (fail)
              go_wp2_with fail
              refine ⟨⟨k + 1, rfl, HKL.out, by rw [HMN.out]; rfl, HR2.out.below (below_drewN (Ext.refl _) _), below_drewN HX2.out _⟩, by clear hw3; have := HKL.out; simp [intOf]; omega⟩
        · have f1 : decide ((k : Int) < (l.length : Int)) = false := by simp; omega
          have f2 : decide (k < l.length) = false := by simp; omega
          have hkk : k = l.length := by omega
          obtain ⟨c0, c1, c2_, c3, c4⟩ := HGP.out wr (Ext.trans HX1.out HX2.out)
          obtain ⟨y, hy⟩ : ∃ y, y = decide (p.1.num ∈ l) := ⟨_, rfl⟩
          rw [show decide (p.1.num ∈ l.take k) = y by rw [hkk, List.take_of_length_le (Nat.le_refl _), hy]]
          have HY := Lib.hid hy
          clear hkl hk hkk hy
          cases y with
          | true =>
            have HG : Hid (gone l L (i + 1) = gone l L i + 1) := by rw [Hid, gone_next HP1.out, if_pos (of_decide_eq_true HY.out.symm)]
            have HKE : Hid (keptT (fun t => decide (t.num ∈ l)) L (i + 1) = keptT (fun t => decide (t.num ∈ l)) L i) := keptT_no HP1.out HY.out.symm
            have hw2 := HW2.out
            have hw5 := HW5.out
            go_wp2_with fail
            refine ⟨⟨i + 1, rfl, HLT.out, by rw [HG.out, hw5], by rw [HKE.out]; exact HR2.out, HX2.out⟩, by clear hw2 hw5; have := HLT.out; simp [intOf]; omega⟩
          | false =>
            have HG : Hid (gone l L (i + 1) = gone l L i) := by rw [Hid, gone_next HP1.out, if_neg (of_decide_eq_false HY.out.symm)]; rfl
            have HKE : Hid (keptT (fun t => decide (t.num ∈ l)) L (i + 1) = keptT (fun t => decide (t.num ∈ l)) L i ++ [p]) := keptT_yes HP1.out HY.out.symm
            have hw2 := HW2.out
            go_wp2_with (at_builtin; refine wpList_pushtab rfl (.tmp 44) (.tmp 50) rfl w1.heap.size (.slice O (keptT (fun t => decide (t.num ∈ l)) L i).length co) (keptT (fun t => decide (t.num ∈ l)) L i) rfl (HR2.out.below (ext_alloc _ _)) p wr.heap.size rfl (heap_alloc_new wr _) ?c1 ?c2 (fun A9 c9 w9 ho9 hk9 hb9 => ?_))
            case c1 => clear hw2; have := keptT_le (fun t => decide (t.num ∈ l)) L i; have := HLT.out; have := HL.out; omega
            case c2 => exact Nat.le_trans HX2.out.size (by simp)
            have HX9 : Hid (Ext w1 w9) := hb9 w1 (Ext.trans HX2.out (ext_alloc _ _))
            have HO9 := Lib.hid ho9
            clear ho9 hk9 hb9
            go_wp2_with fail
            refine ⟨⟨i + 1, rfl, HLT.out, by rw [HG.out], by rw [HKE.out]; exact HO9.out, HX9.out⟩, by clear hw2; have := HLT.out; simp [intOf]; omega⟩
    · have d : decide ((i : Int) < (L.length : Int)) = false := by simp; omega
      have d2 : decide (i < L.length) = false := by simp; omega
      have hi : i = L.length := by omega
      subst hi
      obtain ⟨O, co, rfl, _⟩ := HR.out.sl
      have HR0 : Hid (OwnT w1.heap.size (restT l L) (.slice O (restT l L).length co) wr) := HR.out
      have HKL : Hid ((keptT (fun t => decide (t.num ∈ l)) L L.length).length = (restT l L).length) := rfl
      rw [show keptT (fun t => decide (t.num ∈ l)) L L.length = restT l L from rfl]
      have e1 := ext_cell HX.out (cell_of HEB.out (k := 1) rfl)
      have HSE := Lib.hid (HTE.out.outer.below (Ext.trans HX1.out HX.out) (Nat.le_refl _))
      clear hlt hm HKL
      go_wp2_with (at_builtin; refine wpList_addtabs rfl (.tmp 52) (.tmp 54) rfl w1.heap.size (.slice O (restT l L).length co) (restT l L) rfl HR0.out 0 w.heap.size A2 c2 E rfl HSE.out HN2.out ?q1 HX.out.size (fun A5 c5 w5 ho5 hb5 => ?_))
      case q1 => have := keptT_le (fun t => decide (t.num ∈ l)) L L.length; have := HL.out; have e : (restT l L).length = (keptT (fun t => decide (t.num ∈ l)) L L.length).length := rfl; omega
      have HX5 : Hid (Ext w1 w5) := hb5 w1 HX.out
      have HXW5 : Hid (Ext w w5) := Ext.trans HX1.out HX5.out
      obtain ⟨M, hM⟩ : ∃ M, M = restT l L ++ E := ⟨_, rfl⟩
      rw [← hM] at ho5
      have hlM : (restT l L).length + E.length = M.length := by rw [hM, List.length_append]
      rw [hlM]
      have HM0 : Hid ((∀ p ∈ M, (tabAt w 0 w.heap.size p) ∧ p.1.fst.length ≤ 140737488351232 ∧ p.1.lst.length ≤ 140737488351232) ∧ M.length ≤ 2000) := by
        refine ⟨fun p hp => ?_, ?_⟩
        · rw [hM] at hp
          rcases List.mem_append.1 hp with h | h
          · have h1 : p ∈ L := List.mem_of_mem_take (List.mem_filter.1 h).1
            exact ⟨HT.out.each p h1, HLN.out p h1⟩
          · exact ⟨HTE.out.each p h, HLN2.out p h⟩
        · have := keptT_le (fun t => decide (t.num ∈ l)) L L.length; have := HL.out; have e : (restT l L).length = (keptT (fun t => decide (t.num ∈ l)) L L.length).length := rfl; rw [hM, List.length_append]; omega
      have HTM : Hid (∀ u, Ext w5 u → tabs u 0 u.heap.size A5 M) := fun u hu => by
        obtain ⟨O5, k5, e, hs, _⟩ := ho5.sl
        injection e with e1 _ _
        subst e1
        exact ⟨(hs.below hu (Nat.le_refl _)).wide (Nat.zero_le _) hu.size, fun p hp => ((HM0.out.1 p hp).1.below (Ext.trans HXW5.out hu) (Nat.le_refl _)).wide (Nat.le_refl _) (Ext.trans HXW5.out hu).size⟩
      obtain ⟨nM, hnM⟩ : ∃ n, n = M.length := ⟨_, rfl⟩
      have HSRT : Hid (∀ u, Ext w5 u → Calls Try.prog 71 #[.slice A5 nM c5] u fun e w' => ∃ A' c' R, R.Perm M ∧ SdT R ∧ e = .returned (.slice A' R.length c') ∧ OwnT w5.heap.size R (.slice A' R.length c') w' ∧ Ext u w') := fun u hu => by
        rw [hnM]
        exact (rsorted_any (HTM.out u hu) (by have := HM0.out.2; omega) (fun p hp => (HM0.out.1 p hp).2.1)).mono fun e w9 ⟨A6, c6, R, h1, h2, h3, h4, h5⟩ => ⟨A6, c6, R, h1, h2, h3, h4.base hu.size, h5⟩
      rw [← hnM]
      have HEX := Lib.hid (ext_heap HX5.out HEB.out)
      have HVX := Lib.hid (ext_heap HX5.out HV.out)
      have HZX := Lib.hid (ext_heap HX5.out HZB.out)
      have HMM := Lib.hid hM
      clear ho5 hb5 hM hnM hlM v4 e0 e1 d d2
      refine St.flow (by kernel_rfl) [Is (.pointer (some ⟨w.heap.size + 1, 2, none⟩)), Is (.int .i64 W.next), Is (.pointer (some ⟨w.heap.size + 1, 3, none⟩)), Is (.int .i64 W.log), Is (.pointer (some ⟨w.heap.size + 1, 4, none⟩)), Is (.int .i64 W.index), Is (.pointer (some ⟨w.heap.size + 1, 5, none⟩)), Is (.int .i64 W.seq), Is (.slice A5 nM c5), RowS w5.heap.size M, VerS w5.heap.size W M, BoxF w5.heap.size, (fun _ _ => True)] 12 [] (fun f u u' => FillS w5.heap.size W M (f 11) u u') (by kernel_rfl) (by kernel_rfl) (by kernel_rfl) (by kernel_rfl) (fun _ _ => trivial) ?mono15 ?hS15 (fun f1 => ?obl15) ?fin15
      case mono15 =>
        simp only [List.forall_mem_cons, List.not_mem_nil, false_imp_iff, implies_true, and_true]
        exact ⟨.is _, .is _, .is _, .is _, .is _, .is _, .is _, .is _, .is _, .rows_ _ _, .vers _ _ _, .box _, (fun _ _ _ h _ => h)⟩
      case hS15 =>
        intro f v i u u' hi hs
        simp only [List.not_mem_nil, or_false] at hi
        subst hi
        exact hs
      case obl15 =>
        refine ⟨fun u hu hd => ?_, ?_⟩
        · clear hd hu
          go_simp
          exact ⟨Ext.refl _, rfl⟩
        refine ⟨fun u hu hd => ?_, ?_⟩
        · simp only [Act.put, List.setIfInBounds_toArray, List.set_cons_zero, List.set_cons_succ]
          have hu2 := Ext.trans (Ext.drew w5) hu
          have e0 : f1 0 = .pointer (some ⟨w.heap.size + 1, 2, none⟩) := hd 0 (by kernel_rfl)
          have q0 := ext_cell hu2 (cell_of HEX.out (k := 2) rfl)
          clear hd hu hu2
          go_simp
          exact ⟨Ext.refl _, rfl⟩
        refine ⟨fun u hu hd => ?_, ?_⟩
        · simp only [Act.put, List.setIfInBounds_toArray, List.set_cons_zero, List.set_cons_succ]
          clear hd hu
          go_simp
          exact ⟨Ext.refl _, rfl⟩
        refine ⟨fun u hu hd => ?_, ?_⟩
        · simp only [Act.put, List.setIfInBounds_toArray, List.set_cons_zero, List.set_cons_succ]
          have hu2 := Ext.trans (Ext.drew w5) hu
          have e2 : f1 2 = .pointer (some ⟨w.heap.size + 1, 3, none⟩) := hd 2 (by kernel_rfl)
          have q0 := ext_cell hu2 (cell_of HEX.out (k := 3) rfl)
          clear hd hu hu2
          go_simp
          exact ⟨Ext.refl _, rfl⟩
        refine ⟨fun u hu hd => ?_, ?_⟩
        · simp only [Act.put, List.setIfInBounds_toArray, List.set_cons_zero, List.set_cons_succ]
          clear hd hu
          go_simp
          exact ⟨Ext.refl _, rfl⟩
        refine ⟨fun u hu hd => ?_, ?_⟩
        · simp only [Act.put, List.setIfInBounds_toArray, List.set_cons_zero, List.set_cons_succ]
          have hu2 := Ext.trans (Ext.drew w5) hu
          have e4 : f1 4 = .pointer (some ⟨w.heap.size + 1, 4, none⟩) := hd 4 (by kernel_rfl)
          have q0 := ext_cell hu2 (cell_of HEX.out (k := 4) rfl)
          clear hd hu hu2
          go_simp
          exact ⟨Ext.refl _, rfl⟩
        refine ⟨fun u hu hd => ?_, ?_⟩
        · simp only [Act.put, List.setIfInBounds_toArray, List.set_cons_zero, List.set_cons_succ]
          clear hd hu
          go_simp
          exact ⟨Ext.refl _, rfl⟩
        refine ⟨fun u hu hd => ?_, ?_⟩
        · simp only [Act.put, List.setIfInBounds_toArray, List.set_cons_zero, List.set_cons_succ]
          have hu2 := Ext.trans (Ext.drew w5) hu
          have e6 : f1 6 = .pointer (some ⟨w.heap.size + 1, 5, none⟩) := hd 6 (by kernel_rfl)
          have q0 := ext_cell hu2 (cell_of HEX.out (k := 5) rfl)
          clear hd hu hu2
          go_simp
          exact ⟨Ext.refl _, rfl⟩
        refine ⟨fun u hu hd => ?_, ?_⟩
        · simp only [Act.put, List.setIfInBounds_toArray, List.set_cons_zero, List.set_cons_succ]
          clear hd hu
          go_simp
          exact ⟨Ext.refl _, rfl⟩
        refine ⟨fun u hu hd => ?_, ?_⟩
        · simp only [Act.put, List.setIfInBounds_toArray, List.set_cons_zero, List.set_cons_succ]
          have e8 : f1 8 = .slice A5 nM c5 := hd 8 (by kernel_rfl)
          have HS := Lib.hid (HSRT.out u (Ext.trans (Ext.drew w5) hu))
          clear hd hu
          go_simp
          refine HS.out.mono ?_
          rintro e w9 ⟨A6, c6, R, hp, hs, rfl, ho, hx⟩
          exact ⟨_, rfl, hx, A6, c6, R, hp, hs, rfl, ho⟩
        refine ⟨fun u hu hd => ?_, ?_⟩
        · simp only [Act.put, List.setIfInBounds_toArray, List.set_cons_zero, List.set_cons_succ]
          obtain ⟨A6, c6, R, hp, hs, e9, ho⟩ := (show RowS w5.heap.size M (f1 9) u from hd 9 (by kernel_rfl))
          have e1 : f1 1 = .int .i64 W.next := hd 1 (by kernel_rfl)
          have e3 : f1 3 = .int .i64 W.log := hd 3 (by kernel_rfl)
          have e5 : f1 5 = .int .i64 W.index := hd 5 (by kernel_rfl)
          have e7 : f1 7 = .int .i64 W.seq := hd 7 (by kernel_rfl)
          have HH := Lib.hid (And.intro hp (And.intro hs ho))
          clear hd hu hp hs ho
          go_simp
          exact ⟨Ext.refl _, A6, c6, R, HH.out.1, HH.out.2.1, rfl, HH.out.2.2⟩
        refine ⟨fun u hu hd => ?_, ?_⟩
        · simp only [Act.put, List.setIfInBounds_toArray, List.set_cons_zero, List.set_cons_succ]
          have HB := Lib.hid (Ext.trans (Ext.drew w5) hu).size
          clear hd hu
          go_simp
          exact ⟨ext_alloc _ _, _, rfl, HB.out, heap_at _ _ rfl⟩
        refine ⟨fun u hu hall => ?_, ?_⟩
        · simp only [Act.put, List.setIfInBounds_toArray, List.set_cons_zero, List.set_cons_succ]
          obtain ⟨g, e11, hg, hh⟩ := (show BoxF w5.heap.size (f1 11) u from hall 11 (by decide) (by decide) (by show 11 < 13; decide))
          obtain ⟨A6, c6, R, hp, hs, e10, ho⟩ := (show VerS w5.heap.size W M (f1 10) u from hall 10 (by decide) (by decide) (by show 10 < 13; decide))
          have HF := Lib.hid (fills_of (W := W) hh rfl hg hp hs ho)
          have q0 := cell_of hh (k := 0) rfl
          have q1 := cell_of hh (k := 1) rfl
          have q2 := cell_of hh (k := 2) rfl
          have q3 := cell_of hh (k := 3) rfl
          have q4 := cell_of hh (k := 4) rfl
          have z0 := frozen_four hh (j := 0)
          have z1 := frozen_four hh (j := 1)
          have z2 := frozen_four hh (j := 2)
          have z3 := frozen_four hh (j := 3)
          have z4 := frozen_four hh (j := 4)
          clear hall hu hp hs ho hg hh
          go_simp
          exact HF.out
        trivial
      case fin15 =>
        intro g1 u1 w7 hu hg hS
        simp only [puts, Act.put, List.setIfInBounds_toArray, List.set_cons_zero, List.set_cons_succ]
        obtain ⟨hbel, g, A6, c6, R, e11, hgB, hp, hs, ho, hh⟩ := hS
        have e11b : g1 11 = .pointer (some ⟨g, 0, none⟩) := e11
        rw [e11b]
        have HX7 : Hid (Ext w5 w7) := (show Below w5.heap.size w5 u1 from Ext.trans (Ext.drew w5) hu).trans hbel
        have HXW7 : Hid (Ext w w7) := Ext.trans HXW5.out HX7.out
        have HPM : Hid (R.Perm (restT l L ++ E)) := by rw [← HMM.out]; exact hp
        have HSD : Hid (SdT R) := hs
        have HOR : Hid (OwnT w5.heap.size R (.slice A6 R.length c6) w7) := ho
        have HZW : Hid (w.heap.size + 3 ≤ w5.heap.size) := by have := HZ1S.out; have := HX5.out.size; unfold Hid; omega
        have HBW : Hid (w.heap.size ≤ w5.heap.size) := HXW5.out.size
        have HTR : Hid (∀ u, Ext w7 u → tabs u 0 u.heap.size A6 R) := fun u hu => by
          obtain ⟨O5, k5, e, hs2, _⟩ := HOR.out.sl
          injection e with e1 _ _
          subst e1
          exact ⟨(hs2.below hu (Nat.le_refl _)).wide (Nat.zero_le _) hu.size, fun p hp2 => ((HM0.out.1 p (hp.mem_iff.1 hp2)).1.below (Ext.trans HXW7.out hu) (Nat.le_refl _)).wide (Nat.le_refl _) (Ext.trans HXW7.out hu).size⟩
        obtain ⟨zm, hzm⟩ : ∃ z : Bool, z = true ↔ RMay W (R.map Prod.fst) := by
          by_cases hv : RMay W (R.map Prod.fst)
          · exact ⟨true, fun _ => hv, fun _ => rfl⟩
          · exact ⟨false, fun h => (by cases h), fun h => absurd h hv⟩
        have HZM := Lib.hid hzm
        have HMAY : Hid (∀ u, Ext w7 u → Calls Try.prog 21 #[.agg #[.int .i64 W.next, .int .i64 W.log, .int .i64 W.index, .int .i64 W.seq, .slice A6 R.length c6]] u fun e w' => e = .returned (.bool zm) ∧ Ext u w') := fun u hu =>
          (rmay10_any (c := c6) W (HTR.out u hu) (by have := HM0.out.2; have := hp.length_eq; omega) (fun p hp2 => (HM0.out.1 p (hp.mem_iff.1 hp2)).2)).mono fun e w9 ⟨y, hy, he, hx⟩ => ⟨by rw [he, show y = zm by rw [Bool.eq_iff_iff, hy, hzm]], hx⟩
        have HG7 := Lib.hid hh
        have HE7 := Lib.hid (ext_heap HX7.out HEX.out)
        have HV7 := Lib.hid (ext_heap HX7.out HVX.out)
        have HZ7 := Lib.hid (ext_heap HX7.out HZX.out)
        have x0 := Lib.hid (cell_of HG7.out (k := 0) rfl)
        have x1 := Lib.hid (cell_of HG7.out (k := 1) rfl)
        have x2 := Lib.hid (cell_of HG7.out (k := 2) rfl)
        have x3 := Lib.hid (cell_of HG7.out (k := 3) rfl)
        have x4 := Lib.hid (cell_of HG7.out (k := 4) rfl)
        have e0 := Lib.hid (cell_of HE7.out (k := 0) rfl)
        have e2_ := Lib.hid (cell_of HE7.out (k := 2) rfl)
        have e3_ := Lib.hid (cell_of HE7.out (k := 3) rfl)
        have e4_ := Lib.hid (cell_of HE7.out (k := 4) rfl)
        have e5_ := Lib.hid (cell_of HE7.out (k := 5) rfl)
        have v0 := Lib.hid (cell_of HV7.out (k := 0) rfl)
        have v1 := Lib.hid (cell_of HV7.out (k := 1) rfl)
        have v2 := Lib.hid (cell_of HV7.out (k := 2) rfl)
        have v3 := Lib.hid (cell_of HV7.out (k := 3) rfl)
        clear hbel e11 e11b hgB hp hs ho hh hzm hg hu hlI hlI3
        go_upto_region 16 with (fail)
        by_cases h0 : gone l L L.length = l.length
        rotate_left
        · have T0 : Hid (((gone l L L.length : Int) == (l.length : Int)) = false) := by unfold Hid; simp; omega
          have HNO : Hid (¬ okR V W l L (R.map Prod.fst)) := fun h => h0 h.1
          clear h0
          refine St.flow (by kernel_rfl) [Is (.agg #[.int .i64 W.next, .int .i64 W.log, .int .i64 W.index, .int .i64 W.seq, .slice A6 R.length c6]), Is (.int .i64 (gone l L L.length : Int)), Is (.pointer (some ⟨w.heap.size + 1, 0, none⟩)), Is (.slice D l.length d0), Is (.int .i64 (l.length : Int)), Is (.bool false), Is (.bool false), Is undef, Is undef, Is undef, Is undef, Is undef, Is (.bool false), Is (.bool false), Is undef, Is undef, Is undef, Is undef, Is undef, Is (.bool false), Is (.bool false), Is undef, Is undef, Is undef, Is undef, Is undef, Is (.bool false), Is (.bool false), Is undef, Is undef, Is undef, Is undef, Is undef, Is (.bool false), Is (.bool false), Is undef, Is undef, Is (.bool false), (fun _ _ => True), Is (.bool false)] 38 [37, 39] (fun _ u u' => (∀ k, k ≠ w.heap.size + 2 → u'.heap[k]? = u.heap[k]?) ∧ u'.heap[w.heap.size + 2]? = some (.cells #[.int .i64 W.next, .int .i64 W.log, .int .i64 W.index, .int .i64 W.seq, .slice A6 R.length c6] 36 (0, 0)) ∧ Below w.heap.size u u') (by kernel_rfl) (by kernel_rfl) (by kernel_rfl) (by kernel_rfl) (fun _ _ => trivial) ?mono16 ?hS16 (fun f1 => ?obl16) ?fin16
          case mono16 =>
            simp only [List.forall_mem_cons, List.not_mem_nil, false_imp_iff, implies_true, and_true]
            exact ⟨.is _, .is _, .is _, .is _, .is _, .is _, .is _, .is _, .is _, .is _, .is _, .is _, .is _, .is _, .is _, .is _, .is _, .is _, .is _, .is _, .is _, .is _, .is _, .is _, .is _, .is _, .is _, .is _, .is _, .is _, .is _, .is _, .is _, .is _, .is _, .is _, .is _, .is _, (fun _ _ _ h _ => h), .is _⟩
          case hS16 =>
            intro f v i u u' hi hs
            simp only [List.mem_cons, List.not_mem_nil, or_false] at hi
            rcases hi with rfl | rfl | rfl <;> exact hs
          case obl16 =>
            refine ⟨fun u hu hd => ?_, ?_⟩
            · have hu2 := Ext.trans (Ext.drew w7) hu
              have q0 := ext_cell hu2 x0.out
              have q1 := ext_cell hu2 x1.out
              have q2 := ext_cell hu2 x2.out
              have q3 := ext_cell hu2 x3.out
              have q4 := ext_cell hu2 x4.out
              go_simp
              exact ⟨Ext.refl _, rfl⟩
            refine ⟨fun u hu hd => ?_, ?_⟩
            · simp only [Act.put, List.setIfInBounds_toArray, List.set_cons_zero, List.set_cons_succ]
              go_simp
              exact ⟨Ext.refl _, rfl⟩
            refine ⟨fun u hu hd => ?_, ?_⟩
            · simp only [Act.put, List.setIfInBounds_toArray, List.set_cons_zero, List.set_cons_succ]
              go_simp
              exact ⟨Ext.refl _, rfl⟩
            refine ⟨fun u hu hd => ?_, ?_⟩
            · simp only [Act.put, List.setIfInBounds_toArray, List.set_cons_zero, List.set_cons_succ]
              have e2 : f1 2 = .pointer (some ⟨w.heap.size + 1, 0, none⟩) := hd 2 (by kernel_rfl)
              have hu2 := Ext.trans (Ext.drew w7) hu
              have q0 := ext_cell hu2 e0.out
              go_simp
              exact ⟨Ext.refl _, rfl⟩
            refine ⟨fun u hu hd => ?_, ?_⟩
            · simp only [Act.put, List.setIfInBounds_toArray, List.set_cons_zero, List.set_cons_succ]
              have e3 : f1 3 = .slice D l.length d0 := hd 3 (by kernel_rfl)
              go_simp
              exact ⟨Ext.refl _, rfl⟩
            refine ⟨fun u hu hd => ?_, ?_⟩
            · simp only [Act.put, List.setIfInBounds_toArray, List.set_cons_zero, List.set_cons_succ]
              have e1 : f1 1 = .int .i64 (gone l L L.length : Int) := hd 1 (by kernel_rfl)
              have e4 : f1 4 = .int .i64 (l.length : Int) := hd 4 (by kernel_rfl)
              have t := T0.out
              go_simp
              exact ⟨Ext.refl _, rfl⟩
            refine ⟨fun u hu hd => ?_, ?_⟩
            · simp only [Act.put, List.setIfInBounds_toArray, List.set_cons_zero, List.set_cons_succ]
              have e5 : f1 5 = .bool false := hd 5 (by kernel_rfl)
              go_simp
              exact ⟨Ext.refl _, rfl⟩
            refine ⟨fun u hu hd => ?_, ?_⟩
            · simp only [Act.put, List.setIfInBounds_toArray, List.set_cons_zero, List.set_cons_succ]
              have e6 : f1 6 = .bool false := hd 6 (by kernel_rfl)
              go_simp
              rfl
            refine ⟨fun u hu hd => ?_, ?_⟩
            · simp only [Act.put, List.setIfInBounds_toArray, List.set_cons_zero, List.set_cons_succ]
              have e6 : f1 6 = .bool false := hd 6 (by kernel_rfl)
              go_simp
              rfl
            refine ⟨fun u hu hd => ?_, ?_⟩
            · simp only [Act.put, List.setIfInBounds_toArray, List.set_cons_zero, List.set_cons_succ]
              have e6 : f1 6 = .bool false := hd 6 (by kernel_rfl)
              go_simp
              rfl
            refine ⟨fun u hu hd => ?_, ?_⟩
            · simp only [Act.put, List.setIfInBounds_toArray, List.set_cons_zero, List.set_cons_succ]
              have e6 : f1 6 = .bool false := hd 6 (by kernel_rfl)
              go_simp
              rfl
            refine ⟨fun u hu hd => ?_, ?_⟩
            · simp only [Act.put, List.setIfInBounds_toArray, List.set_cons_zero, List.set_cons_succ]
              have e6 : f1 6 = .bool false := hd 6 (by kernel_rfl)
              go_simp
              rfl
            refine ⟨fun u hu hd => ?_, ?_⟩
            · simp only [Act.put, List.setIfInBounds_toArray, List.set_cons_zero, List.set_cons_succ]
              have e6 : f1 6 = .bool false := hd 6 (by kernel_rfl)
              go_simp
              exact ⟨Ext.refl _, rfl⟩
            refine ⟨fun u hu hd => ?_, ?_⟩
            · simp only [Act.put, List.setIfInBounds_toArray, List.set_cons_zero, List.set_cons_succ]
              have e12 : f1 12 = .bool false := hd 12 (by kernel_rfl)
              go_simp
              exact ⟨Ext.refl _, rfl⟩
            refine ⟨fun u hu hd => ?_, ?_⟩
            · simp only [Act.put, List.setIfInBounds_toArray, List.set_cons_zero, List.set_cons_succ]
              have e13 : f1 13 = .bool false := hd 13 (by kernel_rfl)
              go_simp
              rfl
            refine ⟨fun u hu hd => ?_, ?_⟩
            · simp only [Act.put, List.setIfInBounds_toArray, List.set_cons_zero, List.set_cons_succ]
              have e13 : f1 13 = .bool false := hd 13 (by kernel_rfl)
              go_simp
              rfl
            refine ⟨fun u hu hd => ?_, ?_⟩
            · simp only [Act.put, List.setIfInBounds_toArray, List.set_cons_zero, List.set_cons_succ]
              have e13 : f1 13 = .bool false := hd 13 (by kernel_rfl)
              go_simp
              rfl
            refine ⟨fun u hu hd => ?_, ?_⟩
            · simp only [Act.put, List.setIfInBounds_toArray, List.set_cons_zero, List.set_cons_succ]
              have e13 : f1 13 = .bool false := hd 13 (by kernel_rfl)
              go_simp
              rfl
            refine ⟨fun u hu hd => ?_, ?_⟩
            · simp only [Act.put, List.setIfInBounds_toArray, List.set_cons_zero, List.set_cons_succ]
              have e13 : f1 13 = .bool false := hd 13 (by kernel_rfl)
              go_simp
              rfl
            refine ⟨fun u hu hd => ?_, ?_⟩
            · simp only [Act.put, List.setIfInBounds_toArray, List.set_cons_zero, List.set_cons_succ]
              have e13 : f1 13 = .bool false := hd 13 (by kernel_rfl)
              go_simp
              exact ⟨Ext.refl _, rfl⟩
            refine ⟨fun u hu hd => ?_, ?_⟩
            · simp only [Act.put, List.setIfInBounds_toArray, List.set_cons_zero, List.set_cons_succ]
              have e19 : f1 19 = .bool false := hd 19 (by kernel_rfl)
              go_simp
              exact ⟨Ext.refl _, rfl⟩
            refine ⟨fun u hu hd => ?_, ?_⟩
            · simp only [Act.put, List.setIfInBounds_toArray, List.set_cons_zero, List.set_cons_succ]
              have e20 : f1 20 = .bool false := hd 20 (by kernel_rfl)
              go_simp
              rfl
            refine ⟨fun u hu hd => ?_, ?_⟩
            · simp only [Act.put, List.setIfInBounds_toArray, List.set_cons_zero, List.set_cons_succ]
              have e20 : f1 20 = .bool false := hd 20 (by kernel_rfl)
              go_simp
              rfl
            refine ⟨fun u hu hd => ?_, ?_⟩
            · simp only [Act.put, List.setIfInBounds_toArray, List.set_cons_zero, List.set_cons_succ]
              have e20 : f1 20 = .bool false := hd 20 (by kernel_rfl)
              go_simp
              rfl
            refine ⟨fun u hu hd => ?_, ?_⟩
            · simp only [Act.put, List.setIfInBounds_toArray, List.set_cons_zero, List.set_cons_succ]
              have e20 : f1 20 = .bool false := hd 20 (by kernel_rfl)
              go_simp
              rfl
            refine ⟨fun u hu hd => ?_, ?_⟩
            · simp only [Act.put, List.setIfInBounds_toArray, List.set_cons_zero, List.set_cons_succ]
              have e20 : f1 20 = .bool false := hd 20 (by kernel_rfl)
              go_simp
              rfl
            refine ⟨fun u hu hd => ?_, ?_⟩
            · simp only [Act.put, List.setIfInBounds_toArray, List.set_cons_zero, List.set_cons_succ]
              have e20 : f1 20 = .bool false := hd 20 (by kernel_rfl)
              go_simp
              exact ⟨Ext.refl _, rfl⟩
            refine ⟨fun u hu hd => ?_, ?_⟩
            · simp only [Act.put, List.setIfInBounds_toArray, List.set_cons_zero, List.set_cons_succ]
              have e26 : f1 26 = .bool false := hd 26 (by kernel_rfl)
              go_simp
              exact ⟨Ext.refl _, rfl⟩
            refine ⟨fun u hu hd => ?_, ?_⟩
            · simp only [Act.put, List.setIfInBounds_toArray, List.set_cons_zero, List.set_cons_succ]
              have e27 : f1 27 = .bool false := hd 27 (by kernel_rfl)
              go_simp
              rfl
            refine ⟨fun u hu hd => ?_, ?_⟩
            · simp only [Act.put, List.setIfInBounds_toArray, List.set_cons_zero, List.set_cons_succ]
              have e27 : f1 27 = .bool false := hd 27 (by kernel_rfl)
              go_simp
              rfl
            refine ⟨fun u hu hd => ?_, ?_⟩
            · simp only [Act.put, List.setIfInBounds_toArray, List.set_cons_zero, List.set_cons_succ]
              have e27 : f1 27 = .bool false := hd 27 (by kernel_rfl)
              go_simp
              rfl
            refine ⟨fun u hu hd => ?_, ?_⟩
            · simp only [Act.put, List.setIfInBounds_toArray, List.set_cons_zero, List.set_cons_succ]
              have e27 : f1 27 = .bool false := hd 27 (by kernel_rfl)
              go_simp
              rfl
            refine ⟨fun u hu hd => ?_, ?_⟩
            · simp only [Act.put, List.setIfInBounds_toArray, List.set_cons_zero, List.set_cons_succ]
              have e27 : f1 27 = .bool false := hd 27 (by kernel_rfl)
              go_simp
              rfl
            refine ⟨fun u hu hd => ?_, ?_⟩
            · simp only [Act.put, List.setIfInBounds_toArray, List.set_cons_zero, List.set_cons_succ]
              have e27 : f1 27 = .bool false := hd 27 (by kernel_rfl)
              go_simp
              exact ⟨Ext.refl _, rfl⟩
            refine ⟨fun u hu hd => ?_, ?_⟩
            · simp only [Act.put, List.setIfInBounds_toArray, List.set_cons_zero, List.set_cons_succ]
              have e33 : f1 33 = .bool false := hd 33 (by kernel_rfl)
              go_simp
              exact ⟨Ext.refl _, rfl⟩
            refine ⟨fun u hu hd => ?_, ?_⟩
            · simp only [Act.put, List.setIfInBounds_toArray, List.set_cons_zero, List.set_cons_succ]
              have e34 : f1 34 = .bool false := hd 34 (by kernel_rfl)
              go_simp
              rfl
            refine ⟨fun u hu hd => ?_, ?_⟩
            · simp only [Act.put, List.setIfInBounds_toArray, List.set_cons_zero, List.set_cons_succ]
              have e34 : f1 34 = .bool false := hd 34 (by kernel_rfl)
              go_simp
              rfl
            refine ⟨fun u u' hu hd => ?_, ?_⟩
            · simp only [Act.put, List.setIfInBounds_toArray, List.set_cons_zero, List.set_cons_succ]
              have e34 : f1 34 = .bool false := hd 34 (by kernel_rfl)
              go_simp
              exact ⟨rfl, rfl⟩
            refine ⟨fun u hu hall => ?_, ?_⟩
            · simp only [Act.put, List.setIfInBounds_toArray, List.set_cons_zero, List.set_cons_succ]
              have e0 : f1 0 = .agg #[.int .i64 W.next, .int .i64 W.log, .int .i64 W.index, .int .i64 W.seq, .slice A6 R.length c6] := hall 0 (by decide) (by decide) (by show 0 < 40; decide)
              have hh := ext_heap (Ext.trans (Ext.drew w7) hu) HZ7.out
              have q0 := cell_of hh (k := 0) rfl
              have q1 := cell_of hh (k := 1) rfl
              have q2 := cell_of hh (k := 2) rfl
              have q3 := cell_of hh (k := 3) rfl
              have q4 := cell_of hh (k := 4) rfl
              have z0 := frozen_four hh (j := 0)
              have z1 := frozen_four hh (j := 1)
              have z2 := frozen_four hh (j := 2)
              have z3 := frozen_four hh (j := 3)
              have z4 := frozen_four hh (j := 4)
              have HH := Lib.hid hh
              clear hall hu hh
              go_simp
              exact ⟨fun k hk => five_far hk, set_five HH.out, chg_five.below (fun k hk => by rw [hk]; omega) (by have := (Array.getElem?_eq_some_iff.1 HH.out).1; omega)⟩
            refine ⟨fun u u' hu hd => ?_, ?_⟩
            · simp only [Act.put, List.setIfInBounds_toArray, List.set_cons_zero, List.set_cons_succ]
              have e37 : f1 37 = .bool false := hd 37 (by kernel_rfl)
              clear hd hu
              go_simp
              exact ⟨rfl, rfl⟩
            trivial
          case fin16 =>
            intro g2 u1 u2 hu hg hS
            simp only [puts, Act.put, List.setIfInBounds_toArray, List.set_cons_zero, List.set_cons_succ]
            have h39 : g2 39 = .bool false := hg 39 (by show 39 < 40; decide) (by decide)
            rw [h39]
            obtain ⟨hk, hc, hb⟩ := hS
            have HX1u : Hid (Ext w7 u1) := Ext.trans (Ext.drew w7) hu
            have HFIN := Lib.hid (And.intro hk (And.intro hc hb))
            clear hu hg h39 hk hc hb
            go_wp2_with fail
            refine ver_ret (p := 4) (q := 5) (by kernel_rfl) rfl rfl rfl HFIN.out.2.1 ⟨(show Below w.heap.size w u1 from Ext.trans HXW7.out HX1u.out).trans HFIN.out.2.2, A6, c6, R, _, HPM.out, HSD.out, ?_, rfl, ?_⟩
            · exact ⟨fun h => (by cases h), fun h => absurd h HNO.out⟩
            · exact ((HOR.out.below HX1u.out).keep fun b hb => HFIN.out.1 b fun e => by have := (ownT_lt HOR.out b hb).1; have := HZW.out; omega).base HBW.out
        have T0 : Hid (((gone l L L.length : Int) == (l.length : Int)) = true) := by unfold Hid; simp; omega
        by_cases h1 : V.next ≤ W.next
        rotate_left
        · have T1 : Hid (decide (V.next ≤ W.next) = false) := by unfold Hid; simp; omega
          have HNO : Hid (¬ okR V W l L (R.map Prod.fst)) := fun h => h1 h.2.1
          clear h0 h1
          refine St.flow (by kernel_rfl) [Is (.agg #[.int .i64 W.next, .int .i64 W.log, .int .i64 W.index, .int .i64 W.seq, .slice A6 R.length c6]), Is (.int .i64 (gone l L L.length : Int)), Is (.pointer (some ⟨w.heap.size + 1, 0, none⟩)), Is (.slice D l.length d0), Is (.int .i64 (l.length : Int)), Is (.bool true), Is (.bool true), Is (.pointer (some ⟨w.heap.size + 1, 2, none⟩)), Is (.int .i64 W.next), Is (.pointer (some ⟨w.heap.size, 0, none⟩)), Is (.int .i64 V.next), Is (.bool false), Is (.bool false), Is (.bool false), Is undef, Is undef, Is undef, Is undef, Is undef, Is (.bool false), Is (.bool false), Is undef, Is undef, Is undef, Is undef, Is undef, Is (.bool false), Is (.bool false), Is undef, Is undef, Is undef, Is undef, Is undef, Is (.bool false), Is (.bool false), Is undef, Is undef, Is (.bool false), (fun _ _ => True), Is (.bool false)] 38 [37, 39] (fun _ u u' => (∀ k, k ≠ w.heap.size + 2 → u'.heap[k]? = u.heap[k]?) ∧ u'.heap[w.heap.size + 2]? = some (.cells #[.int .i64 W.next, .int .i64 W.log, .int .i64 W.index, .int .i64 W.seq, .slice A6 R.length c6] 36 (0, 0)) ∧ Below w.heap.size u u') (by kernel_rfl) (by kernel_rfl) (by kernel_rfl) (by kernel_rfl) (fun _ _ => trivial) ?mono16 ?hS16 (fun f1 => ?obl16) ?fin16
          case mono16 =>
            simp only [List.forall_mem_cons, List.not_mem_nil, false_imp_iff, implies_true, and_true]
            exact ⟨.is _, .is _, .is _, .is _, .is _, .is _, .is _, .is _, .is _, .is _, .is _, .is _, .is _, .is _, .is _, .is _, .is _, .is _, .is _, .is _, .is _, .is _, .is _, .is _, .is _, .is _, .is _, .is _, .is _, .is _, .is _, .is _, .is _, .is _, .is _, .is _, .is _, .is _, (fun _ _ _ h _ => h), .is _⟩
          case hS16 =>
            intro f v i u u' hi hs
            simp only [List.mem_cons, List.not_mem_nil, or_false] at hi
            rcases hi with rfl | rfl | rfl <;> exact hs
          case obl16 =>
            refine ⟨fun u hu hd => ?_, ?_⟩
            · have hu2 := Ext.trans (Ext.drew w7) hu
              have q0 := ext_cell hu2 x0.out
              have q1 := ext_cell hu2 x1.out
              have q2 := ext_cell hu2 x2.out
              have q3 := ext_cell hu2 x3.out
              have q4 := ext_cell hu2 x4.out
              go_simp
              exact ⟨Ext.refl _, rfl⟩
            refine ⟨fun u hu hd => ?_, ?_⟩
            · simp only [Act.put, List.setIfInBounds_toArray, List.set_cons_zero, List.set_cons_succ]
              go_simp
              exact ⟨Ext.refl _, rfl⟩
            refine ⟨fun u hu hd => ?_, ?_⟩
            · simp only [Act.put, List.setIfInBounds_toArray, List.set_cons_zero, List.set_cons_succ]
              go_simp
              exact ⟨Ext.refl _, rfl⟩
            refine ⟨fun u hu hd => ?_, ?_⟩
            · simp only [Act.put, List.setIfInBounds_toArray, List.set_cons_zero, List.set_cons_succ]
              have e2 : f1 2 = .pointer (some ⟨w.heap.size + 1, 0, none⟩) := hd 2 (by kernel_rfl)
              have hu2 := Ext.trans (Ext.drew w7) hu
              have q0 := ext_cell hu2 e0.out
              go_simp
              exact ⟨Ext.refl _, rfl⟩
            refine ⟨fun u hu hd => ?_, ?_⟩
            · simp only [Act.put, List.setIfInBounds_toArray, List.set_cons_zero, List.set_cons_succ]
              have e3 : f1 3 = .slice D l.length d0 := hd 3 (by kernel_rfl)
              go_simp
              exact ⟨Ext.refl _, rfl⟩
            refine ⟨fun u hu hd => ?_, ?_⟩
            · simp only [Act.put, List.setIfInBounds_toArray, List.set_cons_zero, List.set_cons_succ]
              have e1 : f1 1 = .int .i64 (gone l L L.length : Int) := hd 1 (by kernel_rfl)
              have e4 : f1 4 = .int .i64 (l.length : Int) := hd 4 (by kernel_rfl)
              have t := T0.out
              go_simp
              exact ⟨Ext.refl _, rfl⟩
            refine ⟨fun u hu hd => ?_, ?_⟩
            · simp only [Act.put, List.setIfInBounds_toArray, List.set_cons_zero, List.set_cons_succ]
              have e5 : f1 5 = .bool true := hd 5 (by kernel_rfl)
              go_simp
              exact ⟨Ext.refl _, rfl⟩
            refine ⟨fun u hu hd => ?_, ?_⟩
            · simp only [Act.put, List.setIfInBounds_toArray, List.set_cons_zero, List.set_cons_succ]
              have e6 : f1 6 = .bool true := hd 6 (by kernel_rfl)
              go_simp
              exact ⟨Ext.refl _, rfl⟩
            refine ⟨fun u hu hd => ?_, ?_⟩
            · simp only [Act.put, List.setIfInBounds_toArray, List.set_cons_zero, List.set_cons_succ]
              have e6 : f1 6 = .bool true := hd 6 (by kernel_rfl)
              have e7 : f1 7 = .pointer (some ⟨w.heap.size + 1, 2, none⟩) := hd 7 (by kernel_rfl)
              have hu2 := Ext.trans (Ext.drew w7) hu
              have q0 := ext_cell hu2 e2_.out
              go_simp
              exact ⟨Ext.refl _, rfl⟩
            refine ⟨fun u hu hd => ?_, ?_⟩
            · simp only [Act.put, List.setIfInBounds_toArray, List.set_cons_zero, List.set_cons_succ]
              have e6 : f1 6 = .bool true := hd 6 (by kernel_rfl)
              go_simp
              exact ⟨Ext.refl _, rfl⟩
            refine ⟨fun u hu hd => ?_, ?_⟩
            · simp only [Act.put, List.setIfInBounds_toArray, List.set_cons_zero, List.set_cons_succ]
              have e6 : f1 6 = .bool true := hd 6 (by kernel_rfl)
              have e9 : f1 9 = .pointer (some ⟨w.heap.size, 0, none⟩) := hd 9 (by kernel_rfl)
              have hu2 := Ext.trans (Ext.drew w7) hu
              have q0 := ext_cell hu2 v0.out
              go_simp
              exact ⟨Ext.refl _, rfl⟩
            refine ⟨fun u hu hd => ?_, ?_⟩
            · simp only [Act.put, List.setIfInBounds_toArray, List.set_cons_zero, List.set_cons_succ]
              have e6 : f1 6 = .bool true := hd 6 (by kernel_rfl)
              have e8 : f1 8 = .int .i64 W.next := hd 8 (by kernel_rfl)
              have e10 : f1 10 = .int .i64 V.next := hd 10 (by kernel_rfl)
              have t := T1.out
              go_simp
              exact ⟨Ext.refl _, rfl⟩
            refine ⟨fun u hu hd => ?_, ?_⟩
            · simp only [Act.put, List.setIfInBounds_toArray, List.set_cons_zero, List.set_cons_succ]
              have e6 : f1 6 = .bool true := hd 6 (by kernel_rfl)
              have e11 : f1 11 = .bool false := hd 11 (by kernel_rfl)
              go_simp
              exact ⟨Ext.refl _, rfl⟩
            refine ⟨fun u hu hd => ?_, ?_⟩
            · simp only [Act.put, List.setIfInBounds_toArray, List.set_cons_zero, List.set_cons_succ]
              have e12 : f1 12 = .bool false := hd 12 (by kernel_rfl)
              go_simp
              exact ⟨Ext.refl _, rfl⟩
            refine ⟨fun u hu hd => ?_, ?_⟩
            · simp only [Act.put, List.setIfInBounds_toArray, List.set_cons_zero, List.set_cons_succ]
              have e13 : f1 13 = .bool false := hd 13 (by kernel_rfl)
              go_simp
              rfl
            refine ⟨fun u hu hd => ?_, ?_⟩
            · simp only [Act.put, List.setIfInBounds_toArray, List.set_cons_zero, List.set_cons_succ]
              have e13 : f1 13 = .bool false := hd 13 (by kernel_rfl)
              go_simp
              rfl
            refine ⟨fun u hu hd => ?_, ?_⟩
            · simp only [Act.put, List.setIfInBounds_toArray, List.set_cons_zero, List.set_cons_succ]
              have e13 : f1 13 = .bool false := hd 13 (by kernel_rfl)
              go_simp
              rfl
            refine ⟨fun u hu hd => ?_, ?_⟩
            · simp only [Act.put, List.setIfInBounds_toArray, List.set_cons_zero, List.set_cons_succ]
              have e13 : f1 13 = .bool false := hd 13 (by kernel_rfl)
              go_simp
              rfl
            refine ⟨fun u hu hd => ?_, ?_⟩
            · simp only [Act.put, List.setIfInBounds_toArray, List.set_cons_zero, List.set_cons_succ]
              have e13 : f1 13 = .bool false := hd 13 (by kernel_rfl)
              go_simp
              rfl
            refine ⟨fun u hu hd => ?_, ?_⟩
            · simp only [Act.put, List.setIfInBounds_toArray, List.set_cons_zero, List.set_cons_succ]
              have e13 : f1 13 = .bool false := hd 13 (by kernel_rfl)
              go_simp
              exact ⟨Ext.refl _, rfl⟩
            refine ⟨fun u hu hd => ?_, ?_⟩
            · simp only [Act.put, List.setIfInBounds_toArray, List.set_cons_zero, List.set_cons_succ]
              have e19 : f1 19 = .bool false := hd 19 (by kernel_rfl)
              go_simp
              exact ⟨Ext.refl _, rfl⟩
            refine ⟨fun u hu hd => ?_, ?_⟩
            · simp only [Act.put, List.setIfInBounds_toArray, List.set_cons_zero, List.set_cons_succ]
              have e20 : f1 20 = .bool false := hd 20 (by kernel_rfl)
              go_simp
              rfl
            refine ⟨fun u hu hd => ?_, ?_⟩
            · simp only [Act.put, List.setIfInBounds_toArray, List.set_cons_zero, List.set_cons_succ]
              have e20 : f1 20 = .bool false := hd 20 (by kernel_rfl)
              go_simp
              rfl
            refine ⟨fun u hu hd => ?_, ?_⟩
            · simp only [Act.put, List.setIfInBounds_toArray, List.set_cons_zero, List.set_cons_succ]
              have e20 : f1 20 = .bool false := hd 20 (by kernel_rfl)
              go_simp
              rfl
            refine ⟨fun u hu hd => ?_, ?_⟩
            · simp only [Act.put, List.setIfInBounds_toArray, List.set_cons_zero, List.set_cons_succ]
              have e20 : f1 20 = .bool false := hd 20 (by kernel_rfl)
              go_simp
              rfl
            refine ⟨fun u hu hd => ?_, ?_⟩
            · simp only [Act.put, List.setIfInBounds_toArray, List.set_cons_zero, List.set_cons_succ]
              have e20 : f1 20 = .bool false := hd 20 (by kernel_rfl)
              go_simp
              rfl
            refine ⟨fun u hu hd => ?_, ?_⟩
            · simp only [Act.put, List.setIfInBounds_toArray, List.set_cons_zero, List.set_cons_succ]
              have e20 : f1 20 = .bool false := hd 20 (by kernel_rfl)
              go_simp
              exact ⟨Ext.refl _, rfl⟩
            refine ⟨fun u hu hd => ?_, ?_⟩
            · simp only [Act.put, List.setIfInBounds_toArray, List.set_cons_zero, List.set_cons_succ]
              have e26 : f1 26 = .bool false := hd 26 (by kernel_rfl)
              go_simp
              exact ⟨Ext.refl _, rfl⟩
            refine ⟨fun u hu hd => ?_, ?_⟩
            · simp only [Act.put, List.setIfInBounds_toArray, List.set_cons_zero, List.set_cons_succ]
              have e27 : f1 27 = .bool false := hd 27 (by kernel_rfl)
              go_simp
              rfl
            refine ⟨fun u hu hd => ?_, ?_⟩
            · simp only [Act.put, List.setIfInBounds_toArray, List.set_cons_zero, List.set_cons_succ]
              have e27 : f1 27 = .bool false := hd 27 (by kernel_rfl)
              go_simp
              rfl
            refine ⟨fun u hu hd => ?_, ?_⟩
            · simp only [Act.put, List.setIfInBounds_toArray, List.set_cons_zero, List.set_cons_succ]
              have e27 : f1 27 = .bool false := hd 27 (by kernel_rfl)
              go_simp
              rfl
            refine ⟨fun u hu hd => ?_, ?_⟩
            · simp only [Act.put, List.setIfInBounds_toArray, List.set_cons_zero, List.set_cons_succ]
              have e27 : f1 27 = .bool false := hd 27 (by kernel_rfl)
              go_simp
              rfl
            refine ⟨fun u hu hd => ?_, ?_⟩
            · simp only [Act.put, List.setIfInBounds_toArray, List.set_cons_zero, List.set_cons_succ]
              have e27 : f1 27 = .bool false := hd 27 (by kernel_rfl)
              go_simp
              rfl
            refine ⟨fun u hu hd => ?_, ?_⟩
            · simp only [Act.put, List.setIfInBounds_toArray, List.set_cons_zero, List.set_cons_succ]
              have e27 : f1 27 = .bool false := hd 27 (by kernel_rfl)
              go_simp
              exact ⟨Ext.refl _, rfl⟩
            refine ⟨fun u hu hd => ?_, ?_⟩
            · simp only [Act.put, List.setIfInBounds_toArray, List.set_cons_zero, List.set_cons_succ]
              have e33 : f1 33 = .bool false := hd 33 (by kernel_rfl)
              go_simp
              exact ⟨Ext.refl _, rfl⟩
            refine ⟨fun u hu hd => ?_, ?_⟩
            · simp only [Act.put, List.setIfInBounds_toArray, List.set_cons_zero, List.set_cons_succ]
              have e34 : f1 34 = .bool false := hd 34 (by kernel_rfl)
              go_simp
              rfl
            refine ⟨fun u hu hd => ?_, ?_⟩
            · simp only [Act.put, List.setIfInBounds_toArray, List.set_cons_zero, List.set_cons_succ]
              have e34 : f1 34 = .bool false := hd 34 (by kernel_rfl)
              go_simp
              rfl
            refine ⟨fun u u' hu hd => ?_, ?_⟩
            · simp only [Act.put, List.setIfInBounds_toArray, List.set_cons_zero, List.set_cons_succ]
              have e34 : f1 34 = .bool false := hd 34 (by kernel_rfl)
              go_simp
              exact ⟨rfl, rfl⟩
            refine ⟨fun u hu hall => ?_, ?_⟩
            · simp only [Act.put, List.setIfInBounds_toArray, List.set_cons_zero, List.set_cons_succ]
              have e0 : f1 0 = .agg #[.int .i64 W.next, .int .i64 W.log, .int .i64 W.index, .int .i64 W.seq, .slice A6 R.length c6] := hall 0 (by decide) (by decide) (by show 0 < 40; decide)
              have hh := ext_heap (Ext.trans (Ext.drew w7) hu) HZ7.out
              have q0 := cell_of hh (k := 0) rfl
              have q1 := cell_of hh (k := 1) rfl
              have q2 := cell_of hh (k := 2) rfl
              have q3 := cell_of hh (k := 3) rfl
              have q4 := cell_of hh (k := 4) rfl
              have z0 := frozen_four hh (j := 0)
              have z1 := frozen_four hh (j := 1)
              have z2 := frozen_four hh (j := 2)
              have z3 := frozen_four hh (j := 3)
              have z4 := frozen_four hh (j := 4)
              have HH := Lib.hid hh
              clear hall hu hh
              go_simp
              exact ⟨fun k hk => five_far hk, set_five HH.out, chg_five.below (fun k hk => by rw [hk]; omega) (by have := (Array.getElem?_eq_some_iff.1 HH.out).1; omega)⟩
            refine ⟨fun u u' hu hd => ?_, ?_⟩
            · simp only [Act.put, List.setIfInBounds_toArray, List.set_cons_zero, List.set_cons_succ]
              have e37 : f1 37 = .bool false := hd 37 (by kernel_rfl)
              clear hd hu
              go_simp
              exact ⟨rfl, rfl⟩
            trivial
          case fin16 =>
            intro g2 u1 u2 hu hg hS
            simp only [puts, Act.put, List.setIfInBounds_toArray, List.set_cons_zero, List.set_cons_succ]
            have h39 : g2 39 = .bool false := hg 39 (by show 39 < 40; decide) (by decide)
            rw [h39]
            obtain ⟨hk, hc, hb⟩ := hS
            have HX1u : Hid (Ext w7 u1) := Ext.trans (Ext.drew w7) hu
            have HFIN := Lib.hid (And.intro hk (And.intro hc hb))
            clear hu hg h39 hk hc hb
            go_wp2_with fail
            refine ver_ret (p := 4) (q := 5) (by kernel_rfl) rfl rfl rfl HFIN.out.2.1 ⟨(show Below w.heap.size w u1 from Ext.trans HXW7.out HX1u.out).trans HFIN.out.2.2, A6, c6, R, _, HPM.out, HSD.out, ?_, rfl, ?_⟩
            · exact ⟨fun h => (by cases h), fun h => absurd h HNO.out⟩
            · exact ((HOR.out.below HX1u.out).keep fun b hb => HFIN.out.1 b fun e => by have := (ownT_lt HOR.out b hb).1; have := HZW.out; omega).base HBW.out
        have T1 : Hid (decide (V.next ≤ W.next) = true) := by unfold Hid; simp; omega
        by_cases h2 : V.log ≤ W.log
        rotate_left
        · have T2 : Hid (decide (V.log ≤ W.log) = false) := by unfold Hid; simp; omega
          have HNO : Hid (¬ okR V W l L (R.map Prod.fst)) := fun h => h2 h.2.2.1
          clear h0 h1 h2
          refine St.flow (by kernel_rfl) [Is (.agg #[.int .i64 W.next, .int .i64 W.log, .int .i64 W.index, .int .i64 W.seq, .slice A6 R.length c6]), Is (.int .i64 (gone l L L.length : Int)), Is (.pointer (some ⟨w.heap.size + 1, 0, none⟩)), Is (.slice D l.length d0), Is (.int .i64 (l.length : Int)), Is (.bool true), Is (.bool true), Is (.pointer (some ⟨w.heap.size + 1, 2, none⟩)), Is (.int .i64 W.next), Is (.pointer (some ⟨w.heap.size, 0, none⟩)), Is (.int .i64 V.next), Is (.bool true), Is (.bool true), Is (.bool true), Is (.pointer (some ⟨w.heap.size + 1, 3, none⟩)), Is (.int .i64 W.log), Is (.pointer (some ⟨w.heap.size, 1, none⟩)), Is (.int .i64 V.log), Is (.bool false), Is (.bool false), Is (.bool false), Is undef, Is undef, Is undef, Is undef, Is undef, Is (.bool false), Is (.bool false), Is undef, Is undef, Is undef, Is undef, Is undef, Is (.bool false), Is (.bool false), Is undef, Is undef, Is (.bool false), (fun _ _ => True), Is (.bool false)] 38 [37, 39] (fun _ u u' => (∀ k, k ≠ w.heap.size + 2 → u'.heap[k]? = u.heap[k]?) ∧ u'.heap[w.heap.size + 2]? = some (.cells #[.int .i64 W.next, .int .i64 W.log, .int .i64 W.index, .int .i64 W.seq, .slice A6 R.length c6] 36 (0, 0)) ∧ Below w.heap.size u u') (by kernel_rfl) (by kernel_rfl) (by kernel_rfl) (by kernel_rfl) (fun _ _ => trivial) ?mono16 ?hS16 (fun f1 => ?obl16) ?fin16
          case mono16 =>
            simp only [List.forall_mem_cons, List.not_mem_nil, false_imp_iff, implies_true, and_true]
            exact ⟨.is _, .is _, .is _, .is _, .is _, .is _, .is _, .is _, .is _, .is _, .is _, .is _, .is _, .is _, .is _, .is _, .is _, .is _, .is _, .is _, .is _, .is _, .is _, .is _, .is _, .is _, .is _, .is _, .is _, .is _, .is _, .is _, .is _, .is _, .is _, .is _, .is _, .is _, (fun _ _ _ h _ => h), .is _⟩
          case hS16 =>
            intro f v i u u' hi hs
            simp only [List.mem_cons, List.not_mem_nil, or_false] at hi
            rcases hi with rfl | rfl | rfl <;> exact hs
          case obl16 =>
            refine ⟨fun u hu hd => ?_, ?_⟩
            · have hu2 := Ext.trans (Ext.drew w7) hu
              have q0 := ext_cell hu2 x0.out
              have q1 := ext_cell hu2 x1.out
              have q2 := ext_cell hu2 x2.out
              have q3 := ext_cell hu2 x3.out
              have q4 := ext_cell hu2 x4.out
              go_simp
              exact ⟨Ext.refl _, rfl⟩
            refine ⟨fun u hu hd => ?_, ?_⟩
            · simp only [Act.put, List.setIfInBounds_toArray, List.set_cons_zero, List.set_cons_succ]
              go_simp
              exact ⟨Ext.refl _, rfl⟩
            refine ⟨fun u hu hd => ?_, ?_⟩
            · simp only [Act.put, List.setIfInBounds_toArray, List.set_cons_zero, List.set_cons_succ]
              go_simp
              exact ⟨Ext.refl _, rfl⟩
            refine ⟨fun u hu hd => ?_, ?_⟩
            · simp only [Act.put, List.setIfInBounds_toArray, List.set_cons_zero, List.set_cons_succ]
              have e2 : f1 2 = .pointer (some ⟨w.heap.size + 1, 0, none⟩) := hd 2 (by kernel_rfl)
              have hu2 := Ext.trans (Ext.drew w7) hu
              have q0 := ext_cell hu2 e0.out
              go_simp
              exact ⟨Ext.refl _, rfl⟩
            refine ⟨fun u hu hd => ?_, ?_⟩
            · simp only [Act.put, List.setIfInBounds_toArray, List.set_cons_zero, List.set_cons_succ]
              have e3 : f1 3 = .slice D l.length d0 := hd 3 (by kernel_rfl)
              go_simp
              exact ⟨Ext.refl _, rfl⟩
            refine ⟨fun u hu hd => ?_, ?_⟩
            · simp only [Act.put, List.setIfInBounds_toArray, List.set_cons_zero, List.set_cons_succ]
              have e1 : f1 1 = .int .i64 (gone l L L.length : Int) := hd 1 (by kernel_rfl)
              have e4 : f1 4 = .int .i64 (l.length : Int) := hd 4 (by kernel_rfl)
              have t := T0.out
              go_simp
              exact ⟨Ext.refl _, rfl⟩
            refine ⟨fun u hu hd => ?_, ?_⟩
            · simp only [Act.put, List.setIfInBounds_toArray, List.set_cons_zero, List.set_cons_succ]
              have e5 : f1 5 = .bool true := hd 5 (by kernel_rfl)
              go_simp
              exact ⟨Ext.refl _, rfl⟩
            refine ⟨fun u hu hd => ?_, ?_⟩
            · simp only [Act.put, List.setIfInBounds_toArray, List.set_cons_zero, List.set_cons_succ]
              have e6 : f1 6 = .bool true := hd 6 (by kernel_rfl)
              go_simp
              exact ⟨Ext.refl _, rfl⟩
            refine ⟨fun u hu hd => ?_, ?_⟩
            · simp only [Act.put, List.setIfInBounds_toArray, List.set_cons_zero, List.set_cons_succ]
              have e6 : f1 6 = .bool true := hd 6 (by kernel_rfl)
              have e7 : f1 7 = .pointer (some ⟨w.heap.size + 1, 2, none⟩) := hd 7 (by kernel_rfl)
              have hu2 := Ext.trans (Ext.drew w7) hu
              have q0 := ext_cell hu2 e2_.out
              go_simp
              exact ⟨Ext.refl _, rfl⟩
            refine ⟨fun u hu hd => ?_, ?_⟩
            · simp only [Act.put, List.setIfInBounds_toArray, List.set_cons_zero, List.set_cons_succ]
              have e6 : f1 6 = .bool true := hd 6 (by kernel_rfl)
              go_simp
              exact ⟨Ext.refl _, rfl⟩
            refine ⟨fun u hu hd => ?_, ?_⟩
            · simp only [Act.put, List.setIfInBounds_toArray, List.set_cons_zero, List.set_cons_succ]
              have e6 : f1 6 = .bool true := hd 6 (by kernel_rfl)
              have e9 : f1 9 = .pointer (some ⟨w.heap.size, 0, none⟩) := hd 9 (by kernel_rfl)
              have hu2 := Ext.trans (Ext.drew w7) hu
              have q0 := ext_cell hu2 v0.out
              go_simp
              exact ⟨Ext.refl _, rfl⟩
            refine ⟨fun u hu hd => ?_, ?_⟩
            · simp only [Act.put, List.setIfInBounds_toArray, List.set_cons_zero, List.set_cons_succ]
              have e6 : f1 6 = .bool true := hd 6 (by kernel_rfl)
              have e8 : f1 8 = .int .i64 W.next := hd 8 (by kernel_rfl)
              have e10 : f1 10 = .int .i64 V.next := hd 10 (by kernel_rfl)
              have t := T1.out
              go_simp
              exact ⟨Ext.refl _, rfl⟩
            refine ⟨fun u hu hd => ?_, ?_⟩
            · simp only [Act.put, List.setIfInBounds_toArray, List.set_cons_zero, List.set_cons_succ]
              have e6 : f1 6 = .bool true := hd 6 (by kernel_rfl)
              have e11 : f1 11 = .bool true := hd 11 (by kernel_rfl)
              go_simp
              exact ⟨Ext.refl _, rfl⟩
            refine ⟨fun u hu hd => ?_, ?_⟩
            · simp only [Act.put, List.setIfInBounds_toArray, List.set_cons_zero, List.set_cons_succ]
              have e12 : f1 12 = .bool true := hd 12 (by kernel_rfl)
              go_simp
              exact ⟨Ext.refl _, rfl⟩
            refine ⟨fun u hu hd => ?_, ?_⟩
            · simp only [Act.put, List.setIfInBounds_toArray, List.set_cons_zero, List.set_cons_succ]
              have e13 : f1 13 = .bool true := hd 13 (by kernel_rfl)
              go_simp
              exact ⟨Ext.refl _, rfl⟩
            refine ⟨fun u hu hd => ?_, ?_⟩
            · simp only [Act.put, List.setIfInBounds_toArray, List.set_cons_zero, List.set_cons_succ]
              have e13 : f1 13 = .bool true := hd 13 (by kernel_rfl)
              have e14 : f1 14 = .pointer (some ⟨w.heap.size + 1, 3, none⟩) := hd 14 (by kernel_rfl)
              have hu2 := Ext.trans (Ext.drew w7) hu
              have q0 := ext_cell hu2 e3_.out
              go_simp
              exact ⟨Ext.refl _, rfl⟩
            refine ⟨fun u hu hd => ?_, ?_⟩
            · simp only [Act.put, List.setIfInBounds_toArray, List.set_cons_zero, List.set_cons_succ]
              have e13 : f1 13 = .bool true := hd 13 (by kernel_rfl)
              go_simp
              exact ⟨Ext.refl _, rfl⟩
            refine ⟨fun u hu hd => ?_, ?_⟩
            · simp only [Act.put, List.setIfInBounds_toArray, List.set_cons_zero, List.set_cons_succ]
              have e13 : f1 13 = .bool true := hd 13 (by kernel_rfl)
              have e16 : f1 16 = .pointer (some ⟨w.heap.size, 1, none⟩) := hd 16 (by kernel_rfl)
              have hu2 := Ext.trans (Ext.drew w7) hu
              have q0 := ext_cell hu2 v1.out
              go_simp
              exact ⟨Ext.refl _, rfl⟩
            refine ⟨fun u hu hd => ?_, ?_⟩
            · simp only [Act.put, List.setIfInBounds_toArray, List.set_cons_zero, List.set_cons_succ]
              have e13 : f1 13 = .bool true := hd 13 (by kernel_rfl)
              have e15 : f1 15 = .int .i64 W.log := hd 15 (by kernel_rfl)
              have e17 : f1 17 = .int .i64 V.log := hd 17 (by kernel_rfl)
              have t := T2.out
              go_simp
              exact ⟨Ext.refl _, rfl⟩
            refine ⟨fun u hu hd => ?_, ?_⟩
            · simp only [Act.put, List.setIfInBounds_toArray, List.set_cons_zero, List.set_cons_succ]
              have e13 : f1 13 = .bool true := hd 13 (by kernel_rfl)
              have e18 : f1 18 = .bool false := hd 18 (by kernel_rfl)
              go_simp
              exact ⟨Ext.refl _, rfl⟩
            refine ⟨fun u hu hd => ?_, ?_⟩
            · simp only [Act.put, List.setIfInBounds_toArray, List.set_cons_zero, List.set_cons_succ]
              have e19 : f1 19 = .bool false := hd 19 (by kernel_rfl)
              go_simp
              exact ⟨Ext.refl _, rfl⟩
            refine ⟨fun u hu hd => ?_, ?_⟩
            · simp only [Act.put, List.setIfInBounds_toArray, List.set_cons_zero, List.set_cons_succ]
              have e20 : f1 20 = .bool false := hd 20 (by kernel_rfl)
              go_simp
              rfl
            refine ⟨fun u hu hd => ?_, ?_⟩
            · simp only [Act.put, List.setIfInBounds_toArray, List.set_cons_zero, List.set_cons_succ]
              have e20 : f1 20 = .bool false := hd 20 (by kernel_rfl)
              go_simp
              rfl
            refine ⟨fun u hu hd => ?_, ?_⟩
            · simp only [Act.put, List.setIfInBounds_toArray, List.set_cons_zero, List.set_cons_succ]
              have e20 : f1 20 = .bool false := hd 20 (by kernel_rfl)
              go_simp
              rfl
            refine ⟨fun u hu hd => ?_, ?_⟩
            · simp only [Act.put, List.setIfInBounds_toArray, List.set_cons_zero, List.set_cons_succ]
              have e20 : f1 20 = .bool false := hd 20 (by kernel_rfl)
              go_simp
              rfl
            refine ⟨fun u hu hd => ?_, ?_⟩
            · simp only [Act.put, List.setIfInBounds_toArray, List.set_cons_zero, List.set_cons_succ]
              have e20 : f1 20 = .bool false := hd 20 (by kernel_rfl)
              go_simp
              rfl
            refine ⟨fun u hu hd => ?_, ?_⟩
            · simp only [Act.put, List.setIfInBounds_toArray, List.set_cons_zero, List.set_cons_succ]
              have e20 : f1 20 = .bool false := hd 20 (by kernel_rfl)
              go_simp
              exact ⟨Ext.refl _, rfl⟩
            refine ⟨fun u hu hd => ?_, ?_⟩
            · simp only [Act.put, List.setIfInBounds_toArray, List.set_cons_zero, List.set_cons_succ]
              have e26 : f1 26 = .bool false := hd 26 (by kernel_rfl)
              go_simp
              exact ⟨Ext.refl _, rfl⟩
            refine ⟨fun u hu hd => ?_, ?_⟩
            · simp only [Act.put, List.setIfInBounds_toArray, List.set_cons_zero, List.set_cons_succ]
              have e27 : f1 27 = .bool false := hd 27 (by kernel_rfl)
              go_simp
              rfl
            refine ⟨fun u hu hd => ?_, ?_⟩
            · simp only [Act.put, List.setIfInBounds_toArray, List.set_cons_zero, List.set_cons_succ]
              have e27 : f1 27 = .bool false := hd 27 (by kernel_rfl)
              go_simp
              rfl
            refine ⟨fun u hu hd => ?_, ?_⟩
            · simp only [Act.put, List.setIfInBounds_toArray, List.set_cons_zero, List.set_cons_succ]
              have e27 : f1 27 = .bool false := hd 27 (by kernel_rfl)
              go_simp
              rfl
            refine ⟨fun u hu hd => ?_, ?_⟩
            · simp only [Act.put, List.setIfInBounds_toArray, List.set_cons_zero, List.set_cons_succ]
              have e27 : f1 27 = .bool false := hd 27 (by kernel_rfl)
              go_simp
              rfl
            refine ⟨fun u hu hd => ?_, ?_⟩
            · simp only [Act.put, List.setIfInBounds_toArray, List.set_cons_zero, List.set_cons_succ]
              have e27 : f1 27 = .bool false := hd 27 (by kernel_rfl)
              go_simp
              rfl
            refine ⟨fun u hu hd => ?_, ?_⟩
            · simp only [Act.put, List.setIfInBounds_toArray, List.set_cons_zero, List.set_cons_succ]
              have e27 : f1 27 = .bool false := hd 27 (by kernel_rfl)
              go_simp
              exact ⟨Ext.refl _, rfl⟩
            refine ⟨fun u hu hd => ?_, ?_⟩
            · simp only [Act.put, List.setIfInBounds_toArray, List.set_cons_zero, List.set_cons_succ]
              have e33 : f1 33 = .bool false := hd 33 (by kernel_rfl)
              go_simp
              exact ⟨Ext.refl _, rfl⟩
            refine ⟨fun u hu hd => ?_, ?_⟩
            · simp only [Act.put, List.setIfInBounds_toArray, List.set_cons_zero, List.set_cons_succ]
              have e34 : f1 34 = .bool false := hd 34 (by kernel_rfl)
              go_simp
              rfl
            refine ⟨fun u hu hd => ?_, ?_⟩
            · simp only [Act.put, List.setIfInBounds_toArray, List.set_cons_zero, List.set_cons_succ]
              have e34 : f1 34 = .bool false := hd 34 (by kernel_rfl)
              go_simp
              rfl
            refine ⟨fun u u' hu hd => ?_, ?_⟩
            · simp only [Act.put, List.setIfInBounds_toArray, List.set_cons_zero, List.set_cons_succ]
              have e34 : f1 34 = .bool false := hd 34 (by kernel_rfl)
              go_simp
              exact ⟨rfl, rfl⟩
            refine ⟨fun u hu hall => ?_, ?_⟩
            · simp only [Act.put, List.setIfInBounds_toArray, List.set_cons_zero, List.set_cons_succ]
              have e0 : f1 0 = .agg #[.int .i64 W.next, .int .i64 W.log, .int .i64 W.index, .int .i64 W.seq, .slice A6 R.length c6] := hall 0 (by decide) (by decide) (by show 0 < 40; decide)
              have hh := ext_heap (Ext.trans (Ext.drew w7) hu) HZ7.out
              have q0 := cell_of hh (k := 0) rfl
              have q1 := cell_of hh (k := 1) rfl
              have q2 := cell_of hh (k := 2) rfl
              have q3 := cell_of hh (k := 3) rfl
              have q4 := cell_of hh (k := 4) rfl
              have z0 := frozen_four hh (j := 0)
              have z1 := frozen_four hh (j := 1)
              have z2 := frozen_four hh (j := 2)
              have z3 := frozen_four hh (j := 3)
              have z4 := frozen_four hh (j := 4)
              have HH := Lib.hid hh
              clear hall hu hh
              go_simp
              exact ⟨fun k hk => five_far hk, set_five HH.out, chg_five.below (fun k hk => by rw [hk]; omega) (by have := (Array.getElem?_eq_some_iff.1 HH.out).1; omega)⟩
            refine ⟨fun u u' hu hd => ?_, ?_⟩
            · simp only [Act.put, List.setIfInBounds_toArray, List.set_cons_zero, List.set_cons_succ]
              have e37 : f1 37 = .bool false := hd 37 (by kernel_rfl)
              clear hd hu
              go_simp
              exact ⟨rfl, rfl⟩
            trivial
          case fin16 =>
            intro g2 u1 u2 hu hg hS
            simp only [puts, Act.put, List.setIfInBounds_toArray, List.set_cons_zero, List.set_cons_succ]
            have h39 : g2 39 = .bool false := hg 39 (by show 39 < 40; decide) (by decide)
            rw [h39]
            obtain ⟨hk, hc, hb⟩ := hS
            have HX1u : Hid (Ext w7 u1) := Ext.trans (Ext.drew w7) hu
            have HFIN := Lib.hid (And.intro hk (And.intro hc hb))
            clear hu hg h39 hk hc hb
            go_wp2_with fail
            refine ver_ret (p := 4) (q := 5) (by kernel_rfl) rfl rfl rfl HFIN.out.2.1 ⟨(show Below w.heap.size w u1 from Ext.trans HXW7.out HX1u.out).trans HFIN.out.2.2, A6, c6, R, _, HPM.out, HSD.out, ?_, rfl, ?_⟩
            · exact ⟨fun h => (by cases h), fun h => absurd h HNO.out⟩
            · exact ((HOR.out.below HX1u.out).keep fun b hb => HFIN.out.1 b fun e => by have := (ownT_lt HOR.out b hb).1; have := HZW.out; omega).base HBW.out
        have T2 : Hid (decide (V.log ≤ W.log) = true) := by unfold Hid; simp; omega
        by_cases h3 : V.index ≤ W.index
        rotate_left
        · have T3 : Hid (decide (V.index ≤ W.index) = false) := by unfold Hid; simp; omega
          have HNO : Hid (¬ okR V W l L (R.map Prod.fst)) := fun h => h3 h.2.2.2.1
          clear h0 h1 h2 h3
          refine St.flow (by kernel_rfl) [Is (.agg #[.int .i64 W.next, .int .i64 W.log, .int .i64 W.index, .int .i64 W.seq, .slice A6 R.length c6]), Is (.int .i64 (gone l L L.length : Int)), Is (.pointer (some ⟨w.heap.size + 1, 0, none⟩)), Is (.slice D l.length d0), Is (.int .i64 (l.length : Int)), Is (.bool true), Is (.bool true), Is (.pointer (some ⟨w.heap.size + 1, 2, none⟩)), Is (.int .i64 W.next), Is (.pointer (some ⟨w.heap.size, 0, none⟩)), Is (.int .i64 V.next), Is (.bool true), Is (.bool true), Is (.bool true), Is (.pointer (some ⟨w.heap.size + 1, 3, none⟩)), Is (.int .i64 W.log), Is (.pointer (some ⟨w.heap.size, 1, none⟩)), Is (.int .i64 V.log), Is (.bool true), Is (.bool true), Is (.bool true), Is (.pointer (some ⟨w.heap.size + 1, 4, none⟩)), Is (.int .i64 W.index), Is (.pointer (some ⟨w.heap.size, 2, none⟩)), Is (.int .i64 V.index), Is (.bool false), Is (.bool false), Is (.bool false), Is undef, Is undef, Is undef, Is undef, Is undef, Is (.bool false), Is (.bool false), Is undef, Is undef, Is (.bool false), (fun _ _ => True), Is (.bool false)] 38 [37, 39] (fun _ u u' => (∀ k, k ≠ w.heap.size + 2 → u'.heap[k]? = u.heap[k]?) ∧ u'.heap[w.heap.size + 2]? = some (.cells #[.int .i64 W.next, .int .i64 W.log, .int .i64 W.index, .int .i64 W.seq, .slice A6 R.length c6] 36 (0, 0)) ∧ Below w.heap.size u u') (by kernel_rfl) (by kernel_rfl) (by kernel_rfl) (by kernel_rfl) (fun _ _ => trivial) ?mono16 ?hS16 (fun f1 => ?obl16) ?fin16
          case mono16 =>
            simp only [List.forall_mem_cons, List.not_mem_nil, false_imp_iff, implies_true, and_true]
            exact ⟨.is _, .is _, .is _, .is _, .is _, .is _, .is _, .is _, .is _, .is _, .is _, .is _, .is _, .is _, .is _, .is _, .is _, .is _, .is _, .is _, .is _, .is _, .is _, .is _, .is _, .is _, .is _, .is _, .is _, .is _, .is _, .is _, .is _, .is _, .is _, .is _, .is _, .is _, (fun _ _ _ h _ => h), .is _⟩
          case hS16 =>
            intro f v i u u' hi hs
            simp only [List.mem_cons, List.not_mem_nil, or_false] at hi
            rcases hi with rfl | rfl | rfl <;> exact hs
          case obl16 =>
            refine ⟨fun u hu hd => ?_, ?_⟩
            · have hu2 := Ext.trans (Ext.drew w7) hu
              have q0 := ext_cell hu2 x0.out
              have q1 := ext_cell hu2 x1.out
              have q2 := ext_cell hu2 x2.out
              have q3 := ext_cell hu2 x3.out
              have q4 := ext_cell hu2 x4.out
              go_simp
              exact ⟨Ext.refl _, rfl⟩
            refine ⟨fun u hu hd => ?_, ?_⟩
            · simp only [Act.put, List.setIfInBounds_toArray, List.set_cons_zero, List.set_cons_succ]
              go_simp
              exact ⟨Ext.refl _, rfl⟩
            refine ⟨fun u hu hd => ?_, ?_⟩
            · simp only [Act.put, List.setIfInBounds_toArray, List.set_cons_zero, List.set_cons_succ]
              go_simp
              exact ⟨Ext.refl _, rfl⟩
            refine ⟨fun u hu hd => ?_, ?_⟩
            · simp only [Act.put, List.setIfInBounds_toArray, List.set_cons_zero, List.set_cons_succ]
              have e2 : f1 2 = .pointer (some ⟨w.heap.size + 1, 0, none⟩) := hd 2 (by kernel_rfl)
              have hu2 := Ext.trans (Ext.drew w7) hu
              have q0 := ext_cell hu2 e0.out
              go_simp
              exact ⟨Ext.refl _, rfl⟩
            refine ⟨fun u hu hd => ?_, ?_⟩
            · simp only [Act.put, List.setIfInBounds_toArray, List.set_cons_zero, List.set_cons_succ]
              have e3 : f1 3 = .slice D l.length d0 := hd 3 (by kernel_rfl)
              go_simp
              exact ⟨Ext.refl _, rfl⟩
            refine ⟨fun u hu hd => ?_, ?_⟩
            · simp only [Act.put, List.setIfInBounds_toArray, List.set_cons_zero, List.set_cons_succ]
              have e1 : f1 1 = .int .i64 (gone l L L.length : Int) := hd 1 (by kernel_rfl)
              have e4 : f1 4 = .int .i64 (l.length : Int) := hd 4 (by kernel_rfl)
              have t := T0.out
              go_simp
              exact ⟨Ext.refl _, rfl⟩
            refine ⟨fun u hu hd => ?_, ?_⟩
            · simp only [Act.put, List.setIfInBounds_toArray, List.set_cons_zero, List.set_cons_succ]
              have e5 : f1 5 = .bool true := hd 5 (by kernel_rfl)
              go_simp
              exact ⟨Ext.refl _, rfl⟩
            refine ⟨fun u hu hd => ?_, ?_⟩
            · simp only [Act.put, List.setIfInBounds_toArray, List.set_cons_zero, List.set_cons_succ]
              have e6 : f1 6 = .bool true := hd 6 (by kernel_rfl)
              go_simp
              exact ⟨Ext.refl _, rfl⟩
            refine ⟨fun u hu hd => ?_, ?_⟩
            · simp only [Act.put, List.setIfInBounds_toArray, List.set_cons_zero, List.set_cons_succ]
              have e6 : f1 6 = .bool true := hd 6 (by kernel_rfl)
              have e7 : f1 7 = .pointer (some ⟨w.heap.size + 1, 2, none⟩) := hd 7 (by kernel_rfl)
              have hu2 := Ext.trans (Ext.drew w7) hu
              have q0 := ext_cell hu2 e2_.out
              go_simp
              exact ⟨Ext.refl _, rfl⟩
            refine ⟨fun u hu hd => ?_, ?_⟩
            · simp only [Act.put, List.setIfInBounds_toArray, List.set_cons_zero, List.set_cons_succ]
              have e6 : f1 6 = .bool true := hd 6 (by kernel_rfl)
              go_simp
              exact ⟨Ext.refl _, rfl⟩
            refine ⟨fun u hu hd => ?_, ?_⟩
            · simp only [Act.put, List.setIfInBounds_toArray, List.set_cons_zero, List.set_cons_succ]
              have e6 : f1 6 = .bool true := hd 6 (by kernel_rfl)
              have e9 : f1 9 = .pointer (some ⟨w.heap.size, 0, none⟩) := hd 9 (by kernel_rfl)
              have hu2 := Ext.trans (Ext.drew w7) hu
              have q0 := ext_cell hu2 v0.out
              go_simp
              exact ⟨Ext.refl _, rfl⟩
            refine ⟨fun u hu hd => ?_, ?_⟩
            · simp only [Act.put, List.setIfInBounds_toArray, List.set_cons_zero, List.set_cons_succ]
              have e6 : f1 6 = .bool true := hd 6 (by kernel_rfl)
              have e8 : f1 8 = .int .i64 W.next := hd 8 (by kernel_rfl)
              have e10 : f1 10 = .int .i64 V.next := hd 10 (by kernel_rfl)
              have t := T1.out
              go_simp
              exact ⟨Ext.refl _, rfl⟩
            refine ⟨fun u hu hd => ?_, ?_⟩
            · simp only [Act.put, List.setIfInBounds_toArray, List.set_cons_zero, List.set_cons_succ]
              have e6 : f1 6 = .bool true := hd 6 (by kernel_rfl)
              have e11 : f1 11 = .bool true := hd 11 (by kernel_rfl)
              go_simp
              exact ⟨Ext.refl _, rfl⟩
            refine ⟨fun u hu hd => ?_, ?_⟩
            · simp only [Act.put, List.setIfInBounds_toArray, List.set_cons_zero, List.set_cons_succ]
              have e12 : f1 12 = .bool true := hd 12 (by kernel_rfl)
              go_simp
              exact ⟨Ext.refl _, rfl⟩
            refine ⟨fun u hu hd => ?_, ?_⟩
            · simp only [Act.put, List.setIfInBounds_toArray, List.set_cons_zero, List.set_cons_succ]
              have e13 : f1 13 = .bool true := hd 13 (by kernel_rfl)
              go_simp
              exact ⟨Ext.refl _, rfl⟩
            refine ⟨fun u hu hd => ?_, ?_⟩
            · simp only [Act.put, List.setIfInBounds_toArray, List.set_cons_zero, List.set_cons_succ]
              have e13 : f1 13 = .bool true := hd 13 (by kernel_rfl)
              have e14 : f1 14 = .pointer (some ⟨w.heap.size + 1, 3, none⟩) := hd 14 (by kernel_rfl)
              have hu2 := Ext.trans (Ext.drew w7) hu
              have q0 := ext_cell hu2 e3_.out
              go_simp
              exact ⟨Ext.refl _, rfl⟩
            refine ⟨fun u hu hd => ?_, ?_⟩
            · simp only [Act.put, List.setIfInBounds_toArray, List.set_cons_zero, List.set_cons_succ]
              have e13 : f1 13 = .bool true := hd 13 (by kernel_rfl)
              go_simp
              exact ⟨Ext.refl _, rfl⟩
            refine ⟨fun u hu hd => ?_, ?_⟩
            · simp only [Act.put, List.setIfInBounds_toArray, List.set_cons_zero, List.set_cons_succ]
              have e13 : f1 13 = .bool true := hd 13 (by kernel_rfl)
              have e16 : f1 16 = .pointer (some ⟨w.heap.size, 1, none⟩) := hd 16 (by kernel_rfl)
              have hu2 := Ext.trans (Ext.drew w7) hu
              have q0 := ext_cell hu2 v1.out
              go_simp
              exact ⟨Ext.refl _, rfl⟩
            refine ⟨fun u hu hd => ?_, ?_⟩
            · simp only [Act.put, List.setIfInBounds_toArray, List.set_cons_zero, List.set_cons_succ]
              have e13 : f1 13 = .bool true := hd 13 (by kernel_rfl)
              have e15 : f1 15 = .int .i64 W.log := hd 15 (by kernel_rfl)
              have e17 : f1 17 = .int .i64 V.log := hd 17 (by kernel_rfl)
              have t := T2.out
              go_simp
              exact ⟨Ext.refl _, rfl⟩
            refine ⟨fun u hu hd => ?_, ?_⟩
            · simp only [Act.put, List.setIfInBounds_toArray, List.set_cons_zero, List.set_cons_succ]
              have e13 : f1 13 = .bool true := hd 13 (by kernel_rfl)
              have e18 : f1 18 = .bool true := hd 18 (by kernel_rfl)
              go_simp
              exact ⟨Ext.refl _, rfl⟩
            refine ⟨fun u hu hd => ?_, ?_⟩
            · simp only [Act.put, List.setIfInBounds_toArray, List.set_cons_zero, List.set_cons_succ]
              have e19 : f1 19 = .bool true := hd 19 (by kernel_rfl)
              go_simp
              exact ⟨Ext.refl _, rfl⟩
            refine ⟨fun u hu hd => ?_, ?_⟩
            · simp only [Act.put, List.setIfInBounds_toArray, List.set_cons_zero, List.set_cons_succ]
              have e20 : f1 20 = .bool true := hd 20 (by kernel_rfl)
              go_simp
              exact ⟨Ext.refl _, rfl⟩
            refine ⟨fun u hu hd => ?_, ?_⟩
            · simp only [Act.put, List.setIfInBounds_toArray, List.set_cons_zero, List.set_cons_succ]
              have e20 : f1 20 = .bool true := hd 20 (by kernel_rfl)
              have e21 : f1 21 = .pointer (some ⟨w.heap.size + 1, 4, none⟩) := hd 21 (by kernel_rfl)
              have hu2 := Ext.trans (Ext.drew w7) hu
              have q0 := ext_cell hu2 e4_.out
              go_simp
              exact ⟨Ext.refl _, rfl⟩
            refine ⟨fun u hu hd => ?_, ?_⟩
            · simp only [Act.put, List.setIfInBounds_toArray, List.set_cons_zero, List.set_cons_succ]
              have e20 : f1 20 = .bool true := hd 20 (by kernel_rfl)
              go_simp
              exact ⟨Ext.refl _, rfl⟩
            refine ⟨fun u hu hd => ?_, ?_⟩
            · simp only [Act.put, List.setIfInBounds_toArray, List.set_cons_zero, List.set_cons_succ]
              have e20 : f1 20 = .bool true := hd 20 (by kernel_rfl)
              have e23 : f1 23 = .pointer (some ⟨w.heap.size, 2, none⟩) := hd 23 (by kernel_rfl)
              have hu2 := Ext.trans (Ext.drew w7) hu
              have q0 := ext_cell hu2 v2.out
              go_simp
              exact ⟨Ext.refl _, rfl⟩
            refine ⟨fun u hu hd => ?_, ?_⟩
            · simp only [Act.put, List.setIfInBounds_toArray, List.set_cons_zero, List.set_cons_succ]
              have e20 : f1 20 = .bool true := hd 20 (by kernel_rfl)
              have e22 : f1 22 = .int .i64 W.index := hd 22 (by kernel_rfl)
              have e24 : f1 24 = .int .i64 V.index := hd 24 (by kernel_rfl)
              have t := T3.out
              go_simp
              exact ⟨Ext.refl _, rfl⟩
            refine ⟨fun u hu hd => ?_, ?_⟩
            · simp only [Act.put, List.setIfInBounds_toArray, List.set_cons_zero, List.set_cons_succ]
              have e20 : f1 20 = .bool true := hd 20 (by kernel_rfl)
              have e25 : f1 25 = .bool false := hd 25 (by kernel_rfl)
              go_simp
              exact ⟨Ext.refl _, rfl⟩
            refine ⟨fun u hu hd => ?_, ?_⟩
            · simp only [Act.put, List.setIfInBounds_toArray, List.set_cons_zero, List.set_cons_succ]
              have e26 : f1 26 = .bool false := hd 26 (by kernel_rfl)
              go_simp
              exact ⟨Ext.refl _, rfl⟩
            refine ⟨fun u hu hd => ?_, ?_⟩
            · simp only [Act.put, List.setIfInBounds_toArray, List.set_cons_zero, List.set_cons_succ]
              have e27 : f1 27 = .bool false := hd 27 (by kernel_rfl)
              go_simp
              rfl
            refine ⟨fun u hu hd => ?_, ?_⟩
            · simp only [Act.put, List.setIfInBounds_toArray, List.set_cons_zero, List.set_cons_succ]
              have e27 : f1 27 = .bool false := hd 27 (by kernel_rfl)
              go_simp
              rfl
            refine ⟨fun u hu hd => ?_, ?_⟩
            · simp only [Act.put, List.setIfInBounds_toArray, List.set_cons_zero, List.set_cons_succ]
              have e27 : f1 27 = .bool false := hd 27 (by kernel_rfl)
              go_simp
              rfl
            refine ⟨fun u hu hd => ?_, ?_⟩
            · simp only [Act.put, List.setIfInBounds_toArray, List.set_cons_zero, List.set_cons_succ]
              have e27 : f1 27 = .bool false := hd 27 (by kernel_rfl)
              go_simp
              rfl
            refine ⟨fun u hu hd => ?_, ?_⟩
            · simp only [Act.put, List.setIfInBounds_toArray, List.set_cons_zero, List.set_cons_succ]
              have e27 : f1 27 = .bool false := hd 27 (by kernel_rfl)
              go_simp
              rfl
            refine ⟨fun u hu hd => ?_, ?_⟩
            · simp only [Act.put, List.setIfInBounds_toArray, List.set_cons_zero, List.set_cons_succ]
              have e27 : f1 27 = .bool false := hd 27 (by kernel_rfl)
              go_simp
              exact ⟨Ext.refl _, rfl⟩
            refine ⟨fun u hu hd => ?_, ?_⟩
            · simp only [Act.put, List.setIfInBounds_toArray, List.set_cons_zero, List.set_cons_succ]
              have e33 : f1 33 = .bool false := hd 33 (by kernel_rfl)
              go_simp
              exact ⟨Ext.refl _, rfl⟩
            refine ⟨fun u hu hd => ?_, ?_⟩
            · simp only [Act.put, List.setIfInBounds_toArray, List.set_cons_zero, List.set_cons_succ]
              have e34 : f1 34 = .bool false := hd 34 (by kernel_rfl)
              go_simp
              rfl
            refine ⟨fun u hu hd => ?_, ?_⟩
            · simp only [Act.put, List.setIfInBounds_toArray, List.set_cons_zero, List.set_cons_succ]
              have e34 : f1 34 = .bool false := hd 34 (by kernel_rfl)
              go_simp
              rfl
            refine ⟨fun u u' hu hd => ?_, ?_⟩
            · simp only [Act.put, List.setIfInBounds_toArray, List.set_cons_zero, List.set_cons_succ]
              have e34 : f1 34 = .bool false := hd 34 (by kernel_rfl)
              go_simp
              exact ⟨rfl, rfl⟩
            refine ⟨fun u hu hall => ?_, ?_⟩
            · simp only [Act.put, List.setIfInBounds_toArray, List.set_cons_zero, List.set_cons_succ]
              have e0 : f1 0 = .agg #[.int .i64 W.next, .int .i64 W.log, .int .i64 W.index, .int .i64 W.seq, .slice A6 R.length c6] := hall 0 (by decide) (by decide) (by show 0 < 40; decide)
              have hh := ext_heap (Ext.trans (Ext.drew w7) hu) HZ7.out
              have q0 := cell_of hh (k := 0) rfl
              have q1 := cell_of hh (k := 1) rfl
              have q2 := cell_of hh (k := 2) rfl
              have q3 := cell_of hh (k := 3) rfl
              have q4 := cell_of hh (k := 4) rfl
              have z0 := frozen_four hh (j := 0)
              have z1 := frozen_four hh (j := 1)
              have z2 := frozen_four hh (j := 2)
              have z3 := frozen_four hh (j := 3)
              have z4 := frozen_four hh (j := 4)
              have HH := Lib.hid hh
              clear hall hu hh
              go_simp
              exact ⟨fun k hk => five_far hk, set_five HH.out, chg_five.below (fun k hk => by rw [hk]; omega) (by have := (Array.getElem?_eq_some_iff.1 HH.out).1; omega)⟩
            refine ⟨fun u u' hu hd => ?_, ?_⟩
            · simp only [Act.put, List.setIfInBounds_toArray, List.set_cons_zero, List.set_cons_succ]
              have e37 : f1 37 = .bool false := hd 37 (by kernel_rfl)
              clear hd hu
              go_simp
              exact ⟨rfl, rfl⟩
            trivial
          case fin16 =>
            intro g2 u1 u2 hu hg hS
            simp only [puts, Act.put, List.setIfInBounds_toArray, List.set_cons_zero, List.set_cons_succ]
            have h39 : g2 39 = .bool false := hg 39 (by show 39 < 40; decide) (by decide)
            rw [h39]
            obtain ⟨hk, hc, hb⟩ := hS
            have HX1u : Hid (Ext w7 u1) := Ext.trans (Ext.drew w7) hu
            have HFIN := Lib.hid (And.intro hk (And.intro hc hb))
            clear hu hg h39 hk hc hb
            go_wp2_with fail
            refine ver_ret (p := 4) (q := 5) (by kernel_rfl) rfl rfl rfl HFIN.out.2.1 ⟨(show Below w.heap.size w u1 from Ext.trans HXW7.out HX1u.out).trans HFIN.out.2.2, A6, c6, R, _, HPM.out, HSD.out, ?_, rfl, ?_⟩
            · exact ⟨fun h => (by cases h), fun h => absurd h HNO.out⟩
            · exact ((HOR.out.below HX1u.out).keep fun b hb => HFIN.out.1 b fun e => by have := (ownT_lt HOR.out b hb).1; have := HZW.out; omega).base HBW.out
        have T3 : Hid (decide (V.index ≤ W.index) = true) := by unfold Hid; simp; omega
        by_cases h4 : V.seq ≤ W.seq
        rotate_left
        · have T4 : Hid (decide (V.seq ≤ W.seq) = false) := by unfold Hid; simp; omega
          have HNO : Hid (¬ okR V W l L (R.map Prod.fst)) := fun h => h4 h.2.2.2.2.1
          clear h0 h1 h2 h3 h4
          refine St.flow (by kernel_rfl) [Is (.agg #[.int .i64 W.next, .int .i64 W.log, .int .i64 W.index, .int .i64 W.seq, .slice A6 R.length c6]), Is (.int .i64 (gone l L L.length : Int)), Is (.pointer (some ⟨w.heap.size + 1, 0, none⟩)), Is (.slice D l.length d0), Is (.int .i64 (l.length : Int)), Is (.bool true), Is (.bool true), Is (.pointer (some ⟨w.heap.size + 1, 2, none⟩)), Is (.int .i64 W.next), Is (.pointer (some ⟨w.heap.size, 0, none⟩)), Is (.int .i64 V.next), Is (.bool true), Is (.bool true), Is (.bool true), Is (.pointer (some ⟨w.heap.size + 1, 3, none⟩)), Is (.int .i64 W.log), Is (.pointer (some ⟨w.heap.size, 1, none⟩)), Is (.int .i64 V.log), Is (.bool true), Is (.bool true), Is (.bool true), Is (.pointer (some ⟨w.heap.size + 1, 4, none⟩)), Is (.int .i64 W.index), Is (.pointer (some ⟨w.heap.size, 2, none⟩)), Is (.int .i64 V.index), Is (.bool true), Is (.bool true), Is (.bool true), Is (.pointer (some ⟨w.heap.size + 1, 5, none⟩)), Is (.int .i64 W.seq), Is (.pointer (some ⟨w.heap.size, 3, none⟩)), Is (.int .i64 V.seq), Is (.bool false), Is (.bool false), Is (.bool false), Is undef, Is undef, Is (.bool false), (fun _ _ => True), Is (.bool false)] 38 [37, 39] (fun _ u u' => (∀ k, k ≠ w.heap.size + 2 → u'.heap[k]? = u.heap[k]?) ∧ u'.heap[w.heap.size + 2]? = some (.cells #[.int .i64 W.next, .int .i64 W.log, .int .i64 W.index, .int .i64 W.seq, .slice A6 R.length c6] 36 (0, 0)) ∧ Below w.heap.size u u') (by kernel_rfl) (by kernel_rfl) (by kernel_rfl) (by kernel_rfl) (fun _ _ => trivial) ?mono16 ?hS16 (fun f1 => ?obl16) ?fin16
          case mono16 =>
            simp only [List.forall_mem_cons, List.not_mem_nil, false_imp_iff, implies_true, and_true]
            exact ⟨.is _, .is _, .is _, .is _, .is _, .is _, .is _, .is _, .is _, .is _, .is _, .is _, .is _, .is _, .is _, .is _, .is _, .is _, .is _, .is _, .is _, .is _, .is _, .is _, .is _, .is _, .is _, .is _, .is _, .is _, .is _, .is _, .is _, .is _, .is _, .is _, .is _, .is _, (fun _ _ _ h _ => h), .is _⟩
          case hS16 =>
            intro f v i u u' hi hs
            simp only [List.mem_cons, List.not_mem_nil, or_false] at hi
            rcases hi with rfl | rfl | rfl <;> exact hs
          case obl16 =>
            refine ⟨fun u hu hd => ?_, ?_⟩
            · have hu2 := Ext.trans (Ext.drew w7) hu
              have q0 := ext_cell hu2 x0.out
              have q1 := ext_cell hu2 x1.out
              have q2 := ext_cell hu2 x2.out
              have q3 := ext_cell hu2 x3.out
              have q4 := ext_cell hu2 x4.out
              go_simp
              exact ⟨Ext.refl _, rfl⟩
            refine ⟨fun u hu hd => ?_, ?_⟩
            · simp only [Act.put, List.setIfInBounds_toArray, List.set_cons_zero, List.set_cons_succ]
              go_simp
              exact ⟨Ext.refl _, rfl⟩
            refine ⟨fun u hu hd => ?_, ?_⟩
            · simp only [Act.put, List.setIfInBounds_toArray, List.set_cons_zero, List.set_cons_succ]
              go_simp
              exact ⟨Ext.refl _, rfl⟩
            refine ⟨fun u hu hd => ?_, ?_⟩
            · simp only [Act.put, List.setIfInBounds_toArray, List.set_cons_zero, List.set_cons_succ]
              have e2 : f1 2 = .pointer (some ⟨w.heap.size + 1, 0, none⟩) := hd 2 (by kernel_rfl)
              have hu2 := Ext.trans (Ext.drew w7) hu
              have q0 := ext_cell hu2 e0.out
              go_simp
              exact ⟨Ext.refl _, rfl⟩
            refine ⟨fun u hu hd => ?_, ?_⟩
            · simp only [Act.put, List.setIfInBounds_toArray, List.set_cons_zero, List.set_cons_succ]
              have e3 : f1 3 = .slice D l.length d0 := hd 3 (by kernel_rfl)
              go_simp
              exact ⟨Ext.refl _, rfl⟩
            refine ⟨fun u hu hd => ?_, ?_⟩
            · simp only [Act.put, List.setIfInBounds_toArray, List.set_cons_zero, List.set_cons_succ]
              have e1 : f1 1 = .int .i64 (gone l L L.length : Int) := hd 1 (by kernel_rfl)
              have e4 : f1 4 = .int .i64 (l.length : Int) := hd 4 (by kernel_rfl)
              have t := T0.out
              go_simp
              exact ⟨Ext.refl _, rfl⟩
            refine ⟨fun u hu hd => ?_, ?_⟩
            · simp only [Act.put, List.setIfInBounds_toArray, List.set_cons_zero, List.set_cons_succ]
              have e5 : f1 5 = .bool true := hd 5 (by kernel_rfl)
              go_simp
              exact ⟨Ext.refl _, rfl⟩
            refine ⟨fun u hu hd => ?_, ?_⟩
            · simp only [Act.put, List.setIfInBounds_toArray, List.set_cons_zero, List.set_cons_succ]
              have e6 : f1 6 = .bool true := hd 6 (by kernel_rfl)
              go_simp
              exact ⟨Ext.refl _, rfl⟩
            refine ⟨fun u hu hd => ?_, ?_⟩
            · simp only [Act.put, List.setIfInBounds_toArray, List.set_cons_zero, List.set_cons_succ]
              have e6 : f1 6 = .bool true := hd 6 (by kernel_rfl)
              have e7 : f1 7 = .pointer (some ⟨w.heap.size + 1, 2, none⟩) := hd 7 (by kernel_rfl)
              have hu2 := Ext.trans (Ext.drew w7) hu
              have q0 := ext_cell hu2 e2_.out
              go_simp
              exact ⟨Ext.refl _, rfl⟩
            refine ⟨fun u hu hd => ?_, ?_⟩
            · simp only [Act.put, List.setIfInBounds_toArray, List.set_cons_zero, List.set_cons_succ]
              have e6 : f1 6 = .bool true := hd 6 (by kernel_rfl)
              go_simp
              exact ⟨Ext.refl _, rfl⟩
            refine ⟨fun u hu hd => ?_, ?_⟩
            · simp only [Act.put, List.setIfInBounds_toArray, List.set_cons_zero, List.set_cons_succ]
              have e6 : f1 6 = .bool true := hd 6 (by kernel_rfl)
              have e9 : f1 9 = .pointer (some ⟨w.heap.size, 0, none⟩) := hd 9 (by kernel_rfl)
              have hu2 := Ext.trans (Ext.drew w7) hu
              have q0 := ext_cell hu2 v0.out
              go_simp
              exact ⟨Ext.refl _, rfl⟩
            refine ⟨fun u hu hd => ?_, ?_⟩
            · simp only [Act.put, List.setIfInBounds_toArray, List.set_cons_zero, List.set_cons_succ]
              have e6 : f1 6 = .bool true := hd 6 (by kernel_rfl)
              have e8 : f1 8 = .int .i64 W.next := hd 8 (by kernel_rfl)
              have e10 : f1 10 = .int .i64 V.next := hd 10 (by kernel_rfl)
              have t := T1.out
              go_simp
              exact ⟨Ext.refl _, rfl⟩
            refine ⟨fun u hu hd => ?_, ?_⟩
            · simp only [Act.put, List.setIfInBounds_toArray, List.set_cons_zero, List.set_cons_succ]
              have e6 : f1 6 = .bool true := hd 6 (by kernel_rfl)
              have e11 : f1 11 = .bool true := hd 11 (by kernel_rfl)
              go_simp
              exact ⟨Ext.refl _, rfl⟩
            refine ⟨fun u hu hd => ?_, ?_⟩
            · simp only [Act.put, List.setIfInBounds_toArray, List.set_cons_zero, List.set_cons_succ]
              have e12 : f1 12 = .bool true := hd 12 (by kernel_rfl)
              go_simp
              exact ⟨Ext.refl _, rfl⟩
            refine ⟨fun u hu hd => ?_, ?_⟩
            · simp only [Act.put, List.setIfInBounds_toArray, List.set_cons_zero, List.set_cons_succ]
              have e13 : f1 13 = .bool true := hd 13 (by kernel_rfl)
              go_simp
              exact ⟨Ext.refl _, rfl⟩
            refine ⟨fun u hu hd => ?_, ?_⟩
            · simp only [Act.put, List.setIfInBounds_toArray, List.set_cons_zero, List.set_cons_succ]
              have e13 : f1 13 = .bool true := hd 13 (by kernel_rfl)
              have e14 : f1 14 = .pointer (some ⟨w.heap.size + 1, 3, none⟩) := hd 14 (by kernel_rfl)
              have hu2 := Ext.trans (Ext.drew w7) hu
              have q0 := ext_cell hu2 e3_.out
              go_simp
              exact ⟨Ext.refl _, rfl⟩
            refine ⟨fun u hu hd => ?_, ?_⟩
            · simp only [Act.put, List.setIfInBounds_toArray, List.set_cons_zero, List.set_cons_succ]
              have e13 : f1 13 = .bool true := hd 13 (by kernel_rfl)
              go_simp
              exact ⟨Ext.refl _, rfl⟩
            refine ⟨fun u hu hd => ?_, ?_⟩
            · simp only [Act.put, List.setIfInBounds_toArray, List.set_cons_zero, List.set_cons_succ]
              have e13 : f1 13 = .bool true := hd 13 (by kernel_rfl)
              have e16 : f1 16 = .pointer (some ⟨w.heap.size, 1, none⟩) := hd 16 (by kernel_rfl)
              have hu2 := Ext.trans (Ext.drew w7) hu
              have q0 := ext_cell hu2 v1.out
              go_simp
              exact ⟨Ext.refl _, rfl⟩
            refine ⟨fun u hu hd => ?_, ?_⟩
            · simp only [Act.put, List.setIfInBounds_toArray, List.set_cons_zero, List.set_cons_succ]
              have e13 : f1 13 = .bool true := hd 13 (by kernel_rfl)
              have e15 : f1 15 = .int .i64 W.log := hd 15 (by kernel_rfl)
              have e17 : f1 17 = .int .i64 V.log := hd 17 (by kernel_rfl)
              have t := T2.out
              go_simp
              exact ⟨Ext.refl _, rfl⟩
            refine ⟨fun u hu hd => ?_, ?_⟩
            · simp only [Act.put, List.setIfInBounds_toArray, List.set_cons_zero, List.set_cons_succ]
              have e13 : f1 13 = .bool true := hd 13 (by kernel_rfl)
              have e18 : f1 18 = .bool true := hd 18 (by kernel_rfl)
              go_simp
              exact ⟨Ext.refl _, rfl⟩
            refine ⟨fun u hu hd => ?_, ?_⟩
            · simp only [Act.put, List.setIfInBounds_toArray, List.set_cons_zero, List.set_cons_succ]
              have e19 : f1 19 = .bool true := hd 19 (by kernel_rfl)
              go_simp
              exact ⟨Ext.refl _, rfl⟩
            refine ⟨fun u hu hd => ?_, ?_⟩
            · simp only [Act.put, List.setIfInBounds_toArray, List.set_cons_zero, List.set_cons_succ]
              have e20 : f1 20 = .bool true := hd 20 (by kernel_rfl)
              go_simp
              exact ⟨Ext.refl _, rfl⟩
            refine ⟨fun u hu hd => ?_, ?_⟩
            · simp only [Act.put, List.setIfInBounds_toArray, List.set_cons_zero, List.set_cons_succ]
              have e20 : f1 20 = .bool true := hd 20 (by kernel_rfl)
              have e21 : f1 21 = .pointer (some ⟨w.heap.size + 1, 4, none⟩) := hd 21 (by kernel_rfl)
              have hu2 := Ext.trans (Ext.drew w7) hu
              have q0 := ext_cell hu2 e4_.out
              go_simp
              exact ⟨Ext.refl _, rfl⟩
            refine ⟨fun u hu hd => ?_, ?_⟩
            · simp only [Act.put, List.setIfInBounds_toArray, List.set_cons_zero, List.set_cons_succ]
              have e20 : f1 20 = .bool true := hd 20 (by kernel_rfl)
              go_simp
              exact ⟨Ext.refl _, rfl⟩
            refine ⟨fun u hu hd => ?_, ?_⟩
            · simp only [Act.put, List.setIfInBounds_toArray, List.set_cons_zero, List.set_cons_succ]
              have e20 : f1 20 = .bool true := hd 20 (by kernel_rfl)
              have e23 : f1 23 = .pointer (some ⟨w.heap.size, 2, none⟩) := hd 23 (by kernel_rfl)
              have hu2 := Ext.trans (Ext.drew w7) hu
              have q0 := ext_cell hu2 v2.out
              go_simp
              exact ⟨Ext.refl _, rfl⟩
            refine ⟨fun u hu hd => ?_, ?_⟩
            · simp only [Act.put, List.setIfInBounds_toArray, List.set_cons_zero, List.set_cons_succ]
              have e20 : f1 20 = .bool true := hd 20 (by kernel_rfl)
              have e22 : f1 22 = .int .i64 W.index := hd 22 (by kernel_rfl)
              have e24 : f1 24 = .int .i64 V.index := hd 24 (by kernel_rfl)
              have t := T3.out
              go_simp
              exact ⟨Ext.refl _, rfl⟩
            refine ⟨fun u hu hd => ?_, ?_⟩
            · simp only [Act.put, List.setIfInBounds_toArray, List.set_cons_zero, List.set_cons_succ]
              have e20 : f1 20 = .bool true := hd 20 (by kernel_rfl)
              have e25 : f1 25 = .bool true := hd 25 (by kernel_rfl)
              go_simp
              exact ⟨Ext.refl _, rfl⟩
            refine ⟨fun u hu hd => ?_, ?_⟩
            · simp only [Act.put, List.setIfInBounds_toArray, List.set_cons_zero, List.set_cons_succ]
              have e26 : f1 26 = .bool true := hd 26 (by kernel_rfl)
              go_simp
              exact ⟨Ext.refl _, rfl⟩
            refine ⟨fun u hu hd => ?_, ?_⟩
            · simp only [Act.put, List.setIfInBounds_toArray, List.set_cons_zero, List.set_cons_succ]
              have e27 : f1 27 = .bool true := hd 27 (by kernel_rfl)
              go_simp
              exact ⟨Ext.refl _, rfl⟩
            refine ⟨fun u hu hd => ?_, ?_⟩
            · simp only [Act.put, List.setIfInBounds_toArray, List.set_cons_zero, List.set_cons_succ]
              have e27 : f1 27 = .bool true := hd 27 (by kernel_rfl)
              have e28 : f1 28 = .pointer (some ⟨w.heap.size + 1, 5, none⟩) := hd 28 (by kernel_rfl)
              have hu2 := Ext.trans (Ext.drew w7) hu
              have q0 := ext_cell hu2 e5_.out
              go_simp
              exact ⟨Ext.refl _, rfl⟩
            refine ⟨fun u hu hd => ?_, ?_⟩
            · simp only [Act.put, List.setIfInBounds_toArray, List.set_cons_zero, List.set_cons_succ]
              have e27 : f1 27 = .bool true := hd 27 (by kernel_rfl)
              go_simp
              exact ⟨Ext.refl _, rfl⟩
            refine ⟨fun u hu hd => ?_, ?_⟩
            · simp only [Act.put, List.setIfInBounds_toArray, List.set_cons_zero, List.set_cons_succ]
              have e27 : f1 27 = .bool true := hd 27 (by kernel_rfl)
              have e30 : f1 30 = .pointer (some ⟨w.heap.size, 3, none⟩) := hd 30 (by kernel_rfl)
              have hu2 := Ext.trans (Ext.drew w7) hu
              have q0 := ext_cell hu2 v3.out
              go_simp
              exact ⟨Ext.refl _, rfl⟩
            refine ⟨fun u hu hd => ?_, ?_⟩
            · simp only [Act.put, List.setIfInBounds_toArray, List.set_cons_zero, List.set_cons_succ]
              have e27 : f1 27 = .bool true := hd 27 (by kernel_rfl)
              have e29 : f1 29 = .int .i64 W.seq := hd 29 (by kernel_rfl)
              have e31 : f1 31 = .int .i64 V.seq := hd 31 (by kernel_rfl)
              have t := T4.out
              go_simp
              exact ⟨Ext.refl _, rfl⟩
            refine ⟨fun u hu hd => ?_, ?_⟩
            · simp only [Act.put, List.setIfInBounds_toArray, List.set_cons_zero, List.set_cons_succ]
              have e27 : f1 27 = .bool true := hd 27 (by kernel_rfl)
              have e32 : f1 32 = .bool false := hd 32 (by kernel_rfl)
              go_simp
              exact ⟨Ext.refl _, rfl⟩
            refine ⟨fun u hu hd => ?_, ?_⟩
            · simp only [Act.put, List.setIfInBounds_toArray, List.set_cons_zero, List.set_cons_succ]
              have e33 : f1 33 = .bool false := hd 33 (by kernel_rfl)
              go_simp
              exact ⟨Ext.refl _, rfl⟩
            refine ⟨fun u hu hd => ?_, ?_⟩
            · simp only [Act.put, List.setIfInBounds_toArray, List.set_cons_zero, List.set_cons_succ]
              have e34 : f1 34 = .bool false := hd 34 (by kernel_rfl)
              go_simp
              rfl
            refine ⟨fun u hu hd => ?_, ?_⟩
            · simp only [Act.put, List.setIfInBounds_toArray, List.set_cons_zero, List.set_cons_succ]
              have e34 : f1 34 = .bool false := hd 34 (by kernel_rfl)
              go_simp
              rfl
            refine ⟨fun u u' hu hd => ?_, ?_⟩
            · simp only [Act.put, List.setIfInBounds_toArray, List.set_cons_zero, List.set_cons_succ]
              have e34 : f1 34 = .bool false := hd 34 (by kernel_rfl)
              go_simp
              exact ⟨rfl, rfl⟩
            refine ⟨fun u hu hall => ?_, ?_⟩
            · simp only [Act.put, List.setIfInBounds_toArray, List.set_cons_zero, List.set_cons_succ]
              have e0 : f1 0 = .agg #[.int .i64 W.next, .int .i64 W.log, .int .i64 W.index, .int .i64 W.seq, .slice A6 R.length c6] := hall 0 (by decide) (by decide) (by show 0 < 40; decide)
              have hh := ext_heap (Ext.trans (Ext.drew w7) hu) HZ7.out
              have q0 := cell_of hh (k := 0) rfl
              have q1 := cell_of hh (k := 1) rfl
              have q2 := cell_of hh (k := 2) rfl
              have q3 := cell_of hh (k := 3) rfl
              have q4 := cell_of hh (k := 4) rfl
              have z0 := frozen_four hh (j := 0)
              have z1 := frozen_four hh (j := 1)
              have z2 := frozen_four hh (j := 2)
              have z3 := frozen_four hh (j := 3)
              have z4 := frozen_four hh (j := 4)
              have HH := Lib.hid hh
              clear hall hu hh
              go_simp
              exact ⟨fun k hk => five_far hk, set_five HH.out, chg_five.below (fun k hk => by rw [hk]; omega) (by have := (Array.getElem?_eq_some_iff.1 HH.out).1; omega)⟩
            refine ⟨fun u u' hu hd => ?_, ?_⟩
            · simp only [Act.put, List.setIfInBounds_toArray, List.set_cons_zero, List.set_cons_succ]
              have e37 : f1 37 = .bool false := hd 37 (by kernel_rfl)
              clear hd hu
              go_simp
              exact ⟨rfl, rfl⟩
            trivial
          case fin16 =>
            intro g2 u1 u2 hu hg hS
            simp only [puts, Act.put, List.setIfInBounds_toArray, List.set_cons_zero, List.set_cons_succ]
            have h39 : g2 39 = .bool false := hg 39 (by show 39 < 40; decide) (by decide)
            rw [h39]
            obtain ⟨hk, hc, hb⟩ := hS
            have HX1u : Hid (Ext w7 u1) := Ext.trans (Ext.drew w7) hu
            have HFIN := Lib.hid (And.intro hk (And.intro hc hb))
            clear hu hg h39 hk hc hb
            go_wp2_with fail
            refine ver_ret (p := 4) (q := 5) (by kernel_rfl) rfl rfl rfl HFIN.out.2.1 ⟨(show Below w.heap.size w u1 from Ext.trans HXW7.out HX1u.out).trans HFIN.out.2.2, A6, c6, R, _, HPM.out, HSD.out, ?_, rfl, ?_⟩
            · exact ⟨fun h => (by cases h), fun h => absurd h HNO.out⟩
            · exact ((HOR.out.below HX1u.out).keep fun b hb => HFIN.out.1 b fun e => by have := (ownT_lt HOR.out b hb).1; have := HZW.out; omega).base HBW.out
        have T4 : Hid (decide (V.seq ≤ W.seq) = true) := by unfold Hid; simp; omega
        have HOK : Hid (okR V W l L (R.map Prod.fst) ↔ RMay W (R.map Prod.fst)) := ⟨fun h => h.2.2.2.2.2, fun h => ⟨h0, h1, h2, h3, h4, h⟩⟩
        clear h0 h1 h2 h3 h4
        refine St.flow (by kernel_rfl) [Is (.agg #[.int .i64 W.next, .int .i64 W.log, .int .i64 W.index, .int .i64 W.seq, .slice A6 R.length c6]), Is (.int .i64 (gone l L L.length : Int)), Is (.pointer (some ⟨w.heap.size + 1, 0, none⟩)), Is (.slice D l.length d0), Is (.int .i64 (l.length : Int)), Is (.bool true), Is (.bool true), Is (.pointer (some ⟨w.heap.size + 1, 2, none⟩)), Is (.int .i64 W.next), Is (.pointer (some ⟨w.heap.size, 0, none⟩)), Is (.int .i64 V.next), Is (.bool true), Is (.bool true), Is (.bool true), Is (.pointer (some ⟨w.heap.size + 1, 3, none⟩)), Is (.int .i64 W.log), Is (.pointer (some ⟨w.heap.size, 1, none⟩)), Is (.int .i64 V.log), Is (.bool true), Is (.bool true), Is (.bool true), Is (.pointer (some ⟨w.heap.size + 1, 4, none⟩)), Is (.int .i64 W.index), Is (.pointer (some ⟨w.heap.size, 2, none⟩)), Is (.int .i64 V.index), Is (.bool true), Is (.bool true), Is (.bool true), Is (.pointer (some ⟨w.heap.size + 1, 5, none⟩)), Is (.int .i64 W.seq), Is (.pointer (some ⟨w.heap.size, 3, none⟩)), Is (.int .i64 V.seq), Is (.bool true), Is (.bool true), Is (.bool true), Is (.agg #[.int .i64 W.next, .int .i64 W.log, .int .i64 W.index, .int .i64 W.seq, .slice A6 R.length c6]), Is (.bool zm), Is (.bool zm), (fun _ _ => True), Is (.bool zm)] 38 [37, 39] (fun _ u u' => (∀ k, k ≠ w.heap.size + 2 → u'.heap[k]? = u.heap[k]?) ∧ u'.heap[w.heap.size + 2]? = some (.cells #[.int .i64 W.next, .int .i64 W.log, .int .i64 W.index, .int .i64 W.seq, .slice A6 R.length c6] 36 (0, 0)) ∧ Below w.heap.size u u') (by kernel_rfl) (by kernel_rfl) (by kernel_rfl) (by kernel_rfl) (fun _ _ => trivial) ?mono16 ?hS16 (fun f1 => ?obl16) ?fin16
        case mono16 =>
          simp only [List.forall_mem_cons, List.not_mem_nil, false_imp_iff, implies_true, and_true]
          exact ⟨.is _, .is _, .is _, .is _, .is _, .is _, .is _, .is _, .is _, .is _, .is _, .is _, .is _, .is _, .is _, .is _, .is _, .is _, .is _, .is _, .is _, .is _, .is _, .is _, .is _, .is _, .is _, .is _, .is _, .is _, .is _, .is _, .is _, .is _, .is _, .is _, .is _, .is _, (fun _ _ _ h _ => h), .is _⟩
        case hS16 =>
          intro f v i u u' hi hs
          simp only [List.mem_cons, List.not_mem_nil, or_false] at hi
          rcases hi with rfl | rfl | rfl <;> exact hs
        case obl16 =>
          refine ⟨fun u hu hd => ?_, ?_⟩
          · have hu2 := Ext.trans (Ext.drew w7) hu
            have q0 := ext_cell hu2 x0.out
            have q1 := ext_cell hu2 x1.out
            have q2 := ext_cell hu2 x2.out
            have q3 := ext_cell hu2 x3.out
            have q4 := ext_cell hu2 x4.out
            go_simp
            exact ⟨Ext.refl _, rfl⟩
          refine ⟨fun u hu hd => ?_, ?_⟩
          · simp only [Act.put, List.setIfInBounds_toArray, List.set_cons_zero, List.set_cons_succ]
            go_simp
            exact ⟨Ext.refl _, rfl⟩
          refine ⟨fun u hu hd => ?_, ?_⟩
          · simp only [Act.put, List.setIfInBounds_toArray, List.set_cons_zero, List.set_cons_succ]
            go_simp
            exact ⟨Ext.refl _, rfl⟩
          refine ⟨fun u hu hd => ?_, ?_⟩
          · simp only [Act.put, List.setIfInBounds_toArray, List.set_cons_zero, List.set_cons_succ]
            have e2 : f1 2 = .pointer (some ⟨w.heap.size + 1, 0, none⟩) := hd 2 (by kernel_rfl)
            have hu2 := Ext.trans (Ext.drew w7) hu
            have q0 := ext_cell hu2 e0.out
            go_simp
            exact ⟨Ext.refl _, rfl⟩
          refine ⟨fun u hu hd => ?_, ?_⟩
          · simp only [Act.put, List.setIfInBounds_toArray, List.set_cons_zero, List.set_cons_succ]
            have e3 : f1 3 = .slice D l.length d0 := hd 3 (by kernel_rfl)
            go_simp
            exact ⟨Ext.refl _, rfl⟩
          refine ⟨fun u hu hd => ?_, ?_⟩
          · simp only [Act.put, List.setIfInBounds_toArray, List.set_cons_zero, List.set_cons_succ]
            have e1 : f1 1 = .int .i64 (gone l L L.length : Int) := hd 1 (by kernel_rfl)
            have e4 : f1 4 = .int .i64 (l.length : Int) := hd 4 (by kernel_rfl)
            have t := T0.out
            go_simp
            exact ⟨Ext.refl _, rfl⟩
          refine ⟨fun u hu hd => ?_, ?_⟩
          · simp only [Act.put, List.setIfInBounds_toArray, List.set_cons_zero, List.set_cons_succ]
            have e5 : f1 5 = .bool true := hd 5 (by kernel_rfl)
            go_simp
            exact ⟨Ext.refl _, rfl⟩
          refine ⟨fun u hu hd => ?_, ?_⟩
          · simp only [Act.put, List.setIfInBounds_toArray, List.set_cons_zero, List.set_cons_succ]
            have e6 : f1 6 = .bool true := hd 6 (by kernel_rfl)
            go_simp
            exact ⟨Ext.refl _, rfl⟩
          refine ⟨fun u hu hd => ?_, ?_⟩
          · simp only [Act.put, List.setIfInBounds_toArray, List.set_cons_zero, List.set_cons_succ]
            have e6 : f1 6 = .bool true := hd 6 (by kernel_rfl)
            have e7 : f1 7 = .pointer (some ⟨w.heap.size + 1, 2, none⟩) := hd 7 (by kernel_rfl)
            have hu2 := Ext.trans (Ext.drew w7) hu
            have q0 := ext_cell hu2 e2_.out
            go_simp
            exact ⟨Ext.refl _, rfl⟩
          refine ⟨fun u hu hd => ?_, ?_⟩
          · simp only [Act.put, List.setIfInBounds_toArray, List.set_cons_zero, List.set_cons_succ]
            have e6 : f1 6 = .bool true := hd 6 (by kernel_rfl)
            go_simp
            exact ⟨Ext.refl _, rfl⟩
          refine ⟨fun u hu hd => ?_, ?_⟩
          · simp only [Act.put, List.setIfInBounds_toArray, List.set_cons_zero, List.set_cons_succ]
            have e6 : f1 6 = .bool true := hd 6 (by kernel_rfl)
            have e9 : f1 9 = .pointer (some ⟨w.heap.size, 0, none⟩) := hd 9 (by kernel_rfl)
            have hu2 := Ext.trans (Ext.drew w7) hu
            have q0 := ext_cell hu2 v0.out
            go_simp
            exact ⟨Ext.refl _, rfl⟩
          refine ⟨fun u hu hd => ?_, ?_⟩
          · simp only [Act.put, List.setIfInBounds_toArray, List.set_cons_zero, List.set_cons_succ]
            have e6 : f1 6 = .bool true := hd 6 (by kernel_rfl)
            have e8 : f1 8 = .int .i64 W.next := hd 8 (by kernel_rfl)
            have e10 : f1 10 = .int .i64 V.next := hd 10 (by kernel_rfl)
            have t := T1.out
            go_simp
            exact ⟨Ext.refl _, rfl⟩
          refine ⟨fun u hu hd => ?_, ?_⟩
          · simp only [Act.put, List.setIfInBounds_toArray, List.set_cons_zero, List.set_cons_succ]
            have e6 : f1 6 = .bool true := hd 6 (by kernel_rfl)
            have e11 : f1 11 = .bool true := hd 11 (by kernel_rfl)
            go_simp
            exact ⟨Ext.refl _, rfl⟩
          refine ⟨fun u hu hd => ?_, ?_⟩
          · simp only [Act.put, List.setIfInBounds_toArray, List.set_cons_zero, List.set_cons_succ]
            have e12 : f1 12 = .bool true := hd 12 (by kernel_rfl)
            go_simp
            exact ⟨Ext.refl _, rfl⟩
          refine ⟨fun u hu hd => ?_, ?_⟩
          · simp only [Act.put, List.setIfInBounds_toArray, List.set_cons_zero, List.set_cons_succ]
            have e13 : f1 13 = .bool true := hd 13 (by kernel_rfl)
            go_simp
            exact ⟨Ext.refl _, rfl⟩
          refine ⟨fun u hu hd => ?_, ?_⟩
          · simp only [Act.put, List.setIfInBounds_toArray, List.set_cons_zero, List.set_cons_succ]
            have e13 : f1 13 = .bool true := hd 13 (by kernel_rfl)
            have e14 : f1 14 = .pointer (some ⟨w.heap.size + 1, 3, none⟩) := hd 14 (by kernel_rfl)
            have hu2 := Ext.trans (Ext.drew w7) hu
            have q0 := ext_cell hu2 e3_.out
            go_simp
            exact ⟨Ext.refl _, rfl⟩
          refine ⟨fun u hu hd => ?_, ?_⟩
          · simp only [Act.put, List.setIfInBounds_toArray, List.set_cons_zero, List.set_cons_succ]
            have e13 : f1 13 = .bool true := hd 13 (by kernel_rfl)
            go_simp
            exact ⟨Ext.refl _, rfl⟩
          refine ⟨fun u hu hd => ?_, ?_⟩
          · simp only [Act.put, List.setIfInBounds_toArray, List.set_cons_zero, List.set_cons_succ]
            have e13 : f1 13 = .bool true := hd 13 (by kernel_rfl)
            have e16 : f1 16 = .pointer (some ⟨w.heap.size, 1, none⟩) := hd 16 (by kernel_rfl)
            have hu2 := Ext.trans (Ext.drew w7) hu
            have q0 := ext_cell hu2 v1.out
            go_simp
            exact ⟨Ext.refl _, rfl⟩
          refine ⟨fun u hu hd => ?_, ?_⟩
          · simp only [Act.put, List.setIfInBounds_toArray, List.set_cons_zero, List.set_cons_succ]
            have e13 : f1 13 = .bool true := hd 13 (by kernel_rfl)
            have e15 : f1 15 = .int .i64 W.log := hd 15 (by kernel_rfl)
            have e17 : f1 17 = .int .i64 V.log := hd 17 (by kernel_rfl)
            have t := T2.out
            go_simp
            exact ⟨Ext.refl _, rfl⟩
          refine ⟨fun u hu hd => ?_, ?_⟩
          · simp only [Act.put, List.setIfInBounds_toArray, List.set_cons_zero, List.set_cons_succ]
            have e13 : f1 13 = .bool true := hd 13 (by kernel_rfl)
            have e18 : f1 18 = .bool true := hd 18 (by kernel_rfl)
            go_simp
            exact ⟨Ext.refl _, rfl⟩
          refine ⟨fun u hu hd => ?_, ?_⟩
          · simp only [Act.put, List.setIfInBounds_toArray, List.set_cons_zero, List.set_cons_succ]
            have e19 : f1 19 = .bool true := hd 19 (by kernel_rfl)
            go_simp
            exact ⟨Ext.refl _, rfl⟩
          refine ⟨fun u hu hd => ?_, ?_⟩
          · simp only [Act.put, List.setIfInBounds_toArray, List.set_cons_zero, List.set_cons_succ]
            have e20 : f1 20 = .bool true := hd 20 (by kernel_rfl)
            go_simp
            exact ⟨Ext.refl _, rfl⟩
          refine ⟨fun u hu hd => ?_, ?_⟩
          · simp only [Act.put, List.setIfInBounds_toArray, List.set_cons_zero, List.set_cons_succ]
            have e20 : f1 20 = .bool true := hd 20 (by kernel_rfl)
            have e21 : f1 21 = .pointer (some ⟨w.heap.size + 1, 4, none⟩) := hd 21 (by kernel_rfl)
            have hu2 := Ext.trans (Ext.drew w7) hu
            have q0 := ext_cell hu2 e4_.out
            go_simp
            exact ⟨Ext.refl _, rfl⟩
          refine ⟨fun u hu hd => ?_, ?_⟩
          · simp only [Act.put, List.setIfInBounds_toArray, List.set_cons_zero, List.set_cons_succ]
            have e20 : f1 20 = .bool true := hd 20 (by kernel_rfl)
            go_simp
            exact ⟨Ext.refl _, rfl⟩
          refine ⟨fun u hu hd => ?_, ?_⟩
          · simp only [Act.put, List.setIfInBounds_toArray, List.set_cons_zero, List.set_cons_succ]
            have e20 : f1 20 = .bool true := hd 20 (by kernel_rfl)
            have e23 : f1 23 = .pointer (some ⟨w.heap.size, 2, none⟩) := hd 23 (by kernel_rfl)
            have hu2 := Ext.trans (Ext.drew w7) hu
            have q0 := ext_cell hu2 v2.out
            go_simp
            exact ⟨Ext.refl _, rfl⟩
          refine ⟨fun u hu hd => ?_, ?_⟩
          · simp only [Act.put, List.setIfInBounds_toArray, List.set_cons_zero, List.set_cons_succ]
            have e20 : f1 20 = .bool true := hd 20 (by kernel_rfl)
            have e22 : f1 22 = .int .i64 W.index := hd 22 (by kernel_rfl)
            have e24 : f1 24 = .int .i64 V.index := hd 24 (by kernel_rfl)
            have t := T3.out
            go_simp
            exact ⟨Ext.refl _, rfl⟩
          refine ⟨fun u hu hd => ?_, ?_⟩
          · simp only [Act.put, List.setIfInBounds_toArray, List.set_cons_zero, List.set_cons_succ]
            have e20 : f1 20 = .bool true := hd 20 (by kernel_rfl)
            have e25 : f1 25 = .bool true := hd 25 (by kernel_rfl)
            go_simp
            exact ⟨Ext.refl _, rfl⟩
          refine ⟨fun u hu hd => ?_, ?_⟩
          · simp only [Act.put, List.setIfInBounds_toArray, List.set_cons_zero, List.set_cons_succ]
            have e26 : f1 26 = .bool true := hd 26 (by kernel_rfl)
            go_simp
            exact ⟨Ext.refl _, rfl⟩
          refine ⟨fun u hu hd => ?_, ?_⟩
          · simp only [Act.put, List.setIfInBounds_toArray, List.set_cons_zero, List.set_cons_succ]
            have e27 : f1 27 = .bool true := hd 27 (by kernel_rfl)
            go_simp
            exact ⟨Ext.refl _, rfl⟩
          refine ⟨fun u hu hd => ?_, ?_⟩
          · simp only [Act.put, List.setIfInBounds_toArray, List.set_cons_zero, List.set_cons_succ]
            have e27 : f1 27 = .bool true := hd 27 (by kernel_rfl)
            have e28 : f1 28 = .pointer (some ⟨w.heap.size + 1, 5, none⟩) := hd 28 (by kernel_rfl)
            have hu2 := Ext.trans (Ext.drew w7) hu
            have q0 := ext_cell hu2 e5_.out
            go_simp
            exact ⟨Ext.refl _, rfl⟩
          refine ⟨fun u hu hd => ?_, ?_⟩
          · simp only [Act.put, List.setIfInBounds_toArray, List.set_cons_zero, List.set_cons_succ]
            have e27 : f1 27 = .bool true := hd 27 (by kernel_rfl)
            go_simp
            exact ⟨Ext.refl _, rfl⟩
          refine ⟨fun u hu hd => ?_, ?_⟩
          · simp only [Act.put, List.setIfInBounds_toArray, List.set_cons_zero, List.set_cons_succ]
            have e27 : f1 27 = .bool true := hd 27 (by kernel_rfl)
            have e30 : f1 30 = .pointer (some ⟨w.heap.size, 3, none⟩) := hd 30 (by kernel_rfl)
            have hu2 := Ext.trans (Ext.drew w7) hu
            have q0 := ext_cell hu2 v3.out
            go_simp
            exact ⟨Ext.refl _, rfl⟩
          refine ⟨fun u hu hd => ?_, ?_⟩
          · simp only [Act.put, List.setIfInBounds_toArray, List.set_cons_zero, List.set_cons_succ]
            have e27 : f1 27 = .bool true := hd 27 (by kernel_rfl)
            have e29 : f1 29 = .int .i64 W.seq := hd 29 (by kernel_rfl)
            have e31 : f1 31 = .int .i64 V.seq := hd 31 (by kernel_rfl)
            have t := T4.out
            go_simp
            exact ⟨Ext.refl _, rfl⟩
          refine ⟨fun u hu hd => ?_, ?_⟩
          · simp only [Act.put, List.setIfInBounds_toArray, List.set_cons_zero, List.set_cons_succ]
            have e27 : f1 27 = .bool true := hd 27 (by kernel_rfl)
            have e32 : f1 32 = .bool true := hd 32 (by kernel_rfl)
            go_simp
            exact ⟨Ext.refl _, rfl⟩
          refine ⟨fun u hu hd => ?_, ?_⟩
          · simp only [Act.put, List.setIfInBounds_toArray, List.set_cons_zero, List.set_cons_succ]
            have e33 : f1 33 = .bool true := hd 33 (by kernel_rfl)
            go_simp
            exact ⟨Ext.refl _, rfl⟩
          refine ⟨fun u hu hd => ?_, ?_⟩
          · simp only [Act.put, List.setIfInBounds_toArray, List.set_cons_zero, List.set_cons_succ]
            have e34 : f1 34 = .bool true := hd 34 (by kernel_rfl)
            have hu2 := Ext.trans (Ext.drew w7) hu
            have q0 := ext_cell hu2 x0.out
            have q1 := ext_cell hu2 x1.out
            have q2 := ext_cell hu2 x2.out
            have q3 := ext_cell hu2 x3.out
            have q4 := ext_cell hu2 x4.out
            go_simp
            exact ⟨Ext.refl _, rfl⟩
          refine ⟨fun u hu hd => ?_, ?_⟩
          · simp only [Act.put, List.setIfInBounds_toArray, List.set_cons_zero, List.set_cons_succ]
            have e34 : f1 34 = .bool true := hd 34 (by kernel_rfl)
            have e35 : f1 35 = .agg #[.int .i64 W.next, .int .i64 W.log, .int .i64 W.index, .int .i64 W.seq, .slice A6 R.length c6] := hd 35 (by kernel_rfl)
            have HM := Lib.hid (HMAY.out u (Ext.trans (Ext.drew w7) hu))
            clear hd hu
            go_simp
            refine HM.out.mono ?_
            rintro e w9 ⟨rfl, hx9⟩
            exact ⟨_, rfl, hx9, rfl⟩
          refine ⟨fun u u' hu hd => ?_, ?_⟩
          · simp only [Act.put, List.setIfInBounds_toArray, List.set_cons_zero, List.set_cons_succ]
            have e34 : f1 34 = .bool true := hd 34 (by kernel_rfl)
            have e36 : f1 36 = .bool zm := hd 36 (by kernel_rfl)
            go_simp
            exact ⟨rfl, rfl⟩
          refine ⟨fun u hu hall => ?_, ?_⟩
          · simp only [Act.put, List.setIfInBounds_toArray, List.set_cons_zero, List.set_cons_succ]
            have e0 : f1 0 = .agg #[.int .i64 W.next, .int .i64 W.log, .int .i64 W.index, .int .i64 W.seq, .slice A6 R.length c6] := hall 0 (by decide) (by decide) (by show 0 < 40; decide)
            have hh := ext_heap (Ext.trans (Ext.drew w7) hu) HZ7.out
            have q0 := cell_of hh (k := 0) rfl
            have q1 := cell_of hh (k := 1) rfl
            have q2 := cell_of hh (k := 2) rfl
            have q3 := cell_of hh (k := 3) rfl
            have q4 := cell_of hh (k := 4) rfl
            have z0 := frozen_four hh (j := 0)
            have z1 := frozen_four hh (j := 1)
            have z2 := frozen_four hh (j := 2)
            have z3 := frozen_four hh (j := 3)
            have z4 := frozen_four hh (j := 4)
            have HH := Lib.hid hh
            clear hall hu hh
            go_simp
            exact ⟨fun k hk => five_far hk, set_five HH.out, chg_five.below (fun k hk => by rw [hk]; omega) (by have := (Array.getElem?_eq_some_iff.1 HH.out).1; omega)⟩
          refine ⟨fun u u' hu hd => ?_, ?_⟩
          · simp only [Act.put, List.setIfInBounds_toArray, List.set_cons_zero, List.set_cons_succ]
            have e37 : f1 37 = .bool zm := hd 37 (by kernel_rfl)
            clear hd hu
            go_simp
            exact ⟨rfl, rfl⟩
          trivial
        case fin16 =>
          intro g2 u1 u2 hu hg hS
          simp only [puts, Act.put, List.setIfInBounds_toArray, List.set_cons_zero, List.set_cons_succ]
          have h39 : g2 39 = .bool zm := hg 39 (by show 39 < 40; decide) (by decide)
          rw [h39]
          obtain ⟨hk, hc, hb⟩ := hS
          have HX1u : Hid (Ext w7 u1) := Ext.trans (Ext.drew w7) hu
          have HFIN := Lib.hid (And.intro hk (And.intro hc hb))
          clear hu hg h39 hk hc hb
          go_wp2_with fail
          refine ver_ret (p := 4) (q := 5) (by kernel_rfl) rfl rfl rfl HFIN.out.2.1 ⟨(show Below w.heap.size w u1 from Ext.trans HXW7.out HX1u.out).trans HFIN.out.2.2, A6, c6, R, _, HPM.out, HSD.out, ?_, rfl, ?_⟩
          · exact HZM.out.trans HOK.out.symm
          · exact ((HOR.out.below HX1u.out).keep fun b hb => HFIN.out.1 b fun e => by have := (ownT_lt HOR.out b hb).1; have := HZW.out; omega).base HBW.out
end Go.Proofs.Ytjlppjffkebejaa
