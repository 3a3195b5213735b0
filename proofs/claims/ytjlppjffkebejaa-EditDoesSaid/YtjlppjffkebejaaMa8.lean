/- Ersame Ektab Erless Erplace Ermay Emath, joined. -/
import Derived.Test.YtjlppjffkebejaaMa7
import Derived.BigQuiet

/- The reference's SameTables and Same. -/
namespace Go.Proofs.Ytjlppjffkebejaa
open Go.ChangeShapes Go.WideShapes Go.ChangeAt Go.RowKit

set_option maxRecDepth 100000 in
theorem five_far {u : World} {g k : Nat} {x y z t s : Value} (h : k ≠ g) : (((((u.setCell ⟨g, 0, none⟩ x).setCell ⟨g, 1, none⟩ y).setCell ⟨g, 2, none⟩ z).setCell ⟨g, 3, none⟩ t).setCell ⟨g, 4, none⟩ s).heap[k]? = u.heap[k]? := by
  rw [Below.heap_setCell _ _ _ _ h, Below.heap_setCell _ _ _ _ h, Below.heap_setCell _ _ _ _ h, Below.heap_setCell _ _ _ _ h, Below.heap_setCell _ _ _ _ h]
set_option maxRecDepth 100000 in
theorem below_drew {w u : World} (h : Below w.heap.size w u) : Ext w u := h
set_option maxRecDepth 100000 in
theorem conv_tx {w : World} {lo hi c : Nat} {A : Option Addr} {l : List Nat} (h : Bs w lo hi (.slice A l.length c) l) : (convert 30 9 (.slice A l.length c)).run Try.prog w = .ok (.string (tx l)) w := by
  obtain ⟨A', c', e, _, _, _, hy⟩ := h
  injection e with e1 _ e2
  subst e1 e2
  exact run_text (P := Try.prog) w 30 5 Try.underlying30 Try.underlying5 hy l.length c rfl 9 Try.underlying9

set_option maxRecDepth 100000 in
set_option maxHeartbeats 8000000 in
theorem rsametabs_any {w : World} {A A2 : Option Addr} {c c2 : Nat} {L R : List (Tab × TabH)} (h : tabs w 0 w.heap.size A L) (h2 : tabs w 0 w.heap.size A2 R) (hlen : L.length ≤ 1000000000) (hlen2 : R.length ≤ 1000000000) :
    Calls Try.prog 72 #[.slice A L.length c, .slice A2 R.length c2] w fun e w' => ∃ z : Bool, (z = true ↔ L.map Prod.fst = R.map Prod.fst) ∧ e = .returned (.bool z) ∧ Ext w w' := by
  have HE := Lib.hid h
  have HE2 := Lib.hid h2
  have HL := Lib.hid hlen
  have hlI : (L.length : Int) ≤ 1000000000 := by omega
  have hlI2 : (R.length : Int) ≤ 1000000000 := by omega
  clear h h2
  by_cases hne : L.length = R.length
  rotate_left
  · have d : ((L.length : Int) != (R.length : Int)) = true := by simp; omega
    have d2 : (L.length != R.length) = true := by simp; exact hne
    have HNE := Lib.hid hne
    clear hne hlen hlen2
    go_enter Try.func72, Try.ntmps72
    go_wp2_with fail
    go_ret
    exact ⟨false, ⟨fun h => (by cases h), fun h => by have := congrArg List.length h; rw [List.length_map, List.length_map] at this; exact absurd this HNE.out⟩, rfl, Ext.refl _⟩
  obtain ⟨n, hn⟩ : ∃ n, n = R.length := ⟨_, rfl⟩
  have hn2 : L.length = n := hne.trans hn.symm
  rw [← hn, hn2]
  rw [hn2] at hlI
  have HN := Lib.hid hn
  have HN2 := Lib.hid hn2
  have d : ((n : Int) != (n : Int)) = false := by simp
  clear hne hn hn2 hlen hlen2 hlI2
  go_enter Try.func72, Try.ntmps72
  go_wp2_with fail
  go_loopw [5] (fun a wr => ∃ i : Nat, a = .int .i64 (i : Int) ∧ i ≤ n ∧ Hid (∀ j p q, j < i → L[j]? = some p → R[j]? = some q → p.1 = q.1) ∧ Hid (Ext w wr)) (fun a _ => n - (intOf a).toNat)
  case atStart => exact ⟨0, rfl, by omega, fun j p q hj => by omega, Ext.refl _⟩
  case round =>
    obtain ⟨i, rfl, hm, HR, HX⟩ := hrel
    by_cases hlt : i < n
    · have e : decide ((i : Int) < (n : Int)) = true := by simp; omega
      have e2 : decide (i < n) = true := by simp; omega
      have hl1 : i < L.length := by have := HN2.out; omega
      have hl2 : i < R.length := by have := HN.out; omega
      obtain ⟨p, hp⟩ : ∃ p, L[i]? = some p := ⟨_, List.getElem?_eq_getElem hl1⟩
      obtain ⟨q, hq⟩ : ∃ q, R[i]? = some q := ⟨_, List.getElem?_eq_getElem hl2⟩
      obtain ⟨b, o, rfl, hbb, _⟩ := HE.out.base (by omega)
      obtain ⟨b2, o2, rfl, hbb', _⟩ := HE2.out.base (by omega)
      have HGP : Hid (∀ u, Ext wr u → u.cell? ⟨b, o + i * 5, none⟩ = some (.int .i64 p.1.num) ∧ u.cell? ⟨b, o + i * 5 + 1, none⟩ = some (.int .i64 p.1.lev) ∧ u.cell? ⟨b, o + i * 5 + 2, none⟩ = some (.slice p.2.fstA p.1.fst.length p.2.fstc) ∧ u.cell? ⟨b, o + i * 5 + 3, none⟩ = some (.slice p.2.lstA p.1.lst.length p.2.lstc) ∧ u.cell? ⟨b, o + i * 5 + 4, none⟩ = some (.int .i64 p.1.siz)) := fun u hu => (HE.out.below (Ext.trans HX.out hu) (Nat.le_refl _)).get hp
      have HGQ : Hid (∀ u, Ext wr u → u.cell? ⟨b2, o2 + i * 5, none⟩ = some (.int .i64 q.1.num) ∧ u.cell? ⟨b2, o2 + i * 5 + 1, none⟩ = some (.int .i64 q.1.lev) ∧ u.cell? ⟨b2, o2 + i * 5 + 2, none⟩ = some (.slice q.2.fstA q.1.fst.length q.2.fstc) ∧ u.cell? ⟨b2, o2 + i * 5 + 3, none⟩ = some (.slice q.2.lstA q.1.lst.length q.2.lstc) ∧ u.cell? ⟨b2, o2 + i * 5 + 4, none⟩ = some (.int .i64 q.1.siz)) := fun u hu => (HE2.out.below (Ext.trans HX.out hu) (Nat.le_refl _)).get hq
      have HTX : Hid (∀ u, Ext w u → ((convert 30 9 (.slice p.2.fstA p.1.fst.length p.2.fstc)).run Try.prog u = .ok (.string (tx p.1.fst)) u) ∧ ((convert 30 9 (.slice q.2.fstA q.1.fst.length q.2.fstc)).run Try.prog u = .ok (.string (tx q.1.fst)) u) ∧ ((convert 30 9 (.slice p.2.lstA p.1.lst.length p.2.lstc)).run Try.prog u = .ok (.string (tx p.1.lst)) u) ∧ ((convert 30 9 (.slice q.2.lstA q.1.lst.length q.2.lstc)).run Try.prog u = .ok (.string (tx q.1.lst)) u)) := fun u hu => by
        have hP := (HE.out.each p (List.mem_of_getElem? hp)).below hu (Nat.le_refl _)
        have hQ := (HE2.out.each q (List.mem_of_getElem? hq)).below hu (Nat.le_refl _)
        exact ⟨conv_tx hP.fst, conv_tx hQ.fst, conv_tx hP.lst, conv_tx hQ.lst⟩
      have HBF : Hid ((∀ x ∈ p.1.fst, x < 256) ∧ ∀ x ∈ q.1.fst, x < 256) := ⟨(HE.out.each p (List.mem_of_getElem? hp)).fstb, (HE2.out.each q (List.mem_of_getElem? hq)).fstb⟩
      have HBL : Hid ((∀ x ∈ p.1.lst, x < 256) ∧ ∀ x ∈ q.1.lst, x < 256) := ⟨(HE.out.each p (List.mem_of_getElem? hp)).lstb, (HE2.out.each q (List.mem_of_getElem? hq)).lstb⟩
      have HP1 := Lib.hid hp
      have HQ1 := Lib.hid hq
      have HNE : Hid (p.1 ≠ q.1 → (false = true ↔ L.map Prod.fst = R.map Prod.fst)) := fun hn => ⟨fun h => (by cases h), fun h => by
        have h1 := congrArg (fun l => l[i]?) h
        simp only [List.getElem?_map, HP1.out, HQ1.out, Option.map_some, Option.some.injEq] at h1
        exact absurd h1 hn⟩
      have hw2 : wrap64 ((i : Int) + 1) = ((i + 1 : Nat) : Int) := by unfold wrap64; omega
      have n3 : (0 : Int) ≤ (i : Int) := by omega
      have n4 : (i : Int) < (n : Int) := by omega
      have HLT := Lib.hid hlt
      clear hp hq hlt hm hl1 hl2
      go_upto_region 6 with (fail)
      refine Fi.flow (by kernel_rfl) (Bx.BoxC wr.heap.size wr 85 #[.int .i64 0, .int .i64 0, .slice none 0 0, .slice none 0 0, .int .i64 0] (fun j => if j = 8 then #[.int .i64 p.1.num, .int .i64 p.1.lev, .slice p.2.fstA p.1.fst.length p.2.fstc, .slice p.2.lstA p.1.lst.length p.2.lstc, .int .i64 p.1.siz] else #[.int .i64 q.1.num, .int .i64 q.1.lev, .slice q.2.fstA q.1.fst.length q.2.fstc, .slice q.2.lstA q.1.lst.length q.2.lstc, .int .i64 q.1.siz]) [(8, 10), (9, 11)] 8 (fun j => [.slice (some ⟨b, o, none⟩) n c, .int .i64 (i : Int), .pointer (some ⟨b, o + i * 5, none⟩), .agg #[.int .i64 p.1.num, .int .i64 p.1.lev, .slice p.2.fstA p.1.fst.length p.2.fstc, .slice p.2.lstA p.1.lst.length p.2.lstc, .int .i64 p.1.siz], .slice (some ⟨b2, o2, none⟩) n c2, .int .i64 (i : Int), .pointer (some ⟨b2, o2 + i * 5, none⟩), .agg #[.int .i64 q.1.num, .int .i64 q.1.lev, .slice q.2.fstA q.1.fst.length q.2.fstc, .slice q.2.lstA q.1.lst.length q.2.lstc, .int .i64 q.1.siz]].getD j undef)) (by kernel_rfl) (by kernel_rfl) (fun f => Bx.BoxC.start _ _) (fun f1 => ?obl) ?fin
      case obl =>
        refine ⟨fun sn u' hI hn hd => ?_, ?_⟩
        · have HI := Lib.hid hI
          clear hI hn hd
          go_simp
          exact HI.out.load (by kernel_rfl) (by decide)
        refine ⟨fun sn u' hI hn hd => ?_, ?_⟩
        · simp only [Act.put, List.setIfInBounds_toArray, List.set_cons_zero, List.set_cons_succ]
          have HI := Lib.hid hI
          clear hI hn hd
          go_simp
          exact HI.out.load (by kernel_rfl) (by decide)
        refine ⟨fun sn u' hI hn hd => ?_, ?_⟩
        · simp only [Act.put, List.setIfInBounds_toArray, List.set_cons_zero, List.set_cons_succ]
          have x0 : f1 0 = .slice (some ⟨b, o, none⟩) n c := hI.loads 0 (by decide) (hd 0 (by kernel_rfl))
          have x1 : f1 1 = .int .i64 (i : Int) := hI.loads 1 (by decide) (hd 1 (by kernel_rfl))
          have HI := Lib.hid hI
          clear hI hn hd
          go_simp
          exact HI.out.load (by kernel_rfl) (by decide)
        refine ⟨fun sn u' hI hn hd => ?_, ?_⟩
        · simp only [Act.put, List.setIfInBounds_toArray, List.set_cons_zero, List.set_cons_succ]
          have x2 : f1 2 = .pointer (some ⟨b, o + i * 5, none⟩) := hI.loads 2 (by decide) (hd 2 (by kernel_rfl))
          obtain ⟨q0, q1, q2, q3, q4⟩ := HGP.out u' (below_drew hI.below)
          have HI := Lib.hid hI
          clear hI hn hd
          go_simp
          exact HI.out.load (by kernel_rfl) (by decide)
        refine ⟨fun sn u' hI hn hd => ?_, ?_⟩
        · simp only [Act.put, List.setIfInBounds_toArray, List.set_cons_zero, List.set_cons_succ]
          have HI := Lib.hid hI
          clear hI hn hd
          go_simp
          exact HI.out.load (by kernel_rfl) (by decide)
        refine ⟨fun sn u' hI hn hd => ?_, ?_⟩
        · simp only [Act.put, List.setIfInBounds_toArray, List.set_cons_zero, List.set_cons_succ]
          have HI := Lib.hid hI
          clear hI hn hd
          go_simp
          exact HI.out.load (by kernel_rfl) (by decide)
        refine ⟨fun sn u' hI hn hd => ?_, ?_⟩
        · simp only [Act.put, List.setIfInBounds_toArray, List.set_cons_zero, List.set_cons_succ]
          have x4 : f1 4 = .slice (some ⟨b2, o2, none⟩) n c2 := hI.loads 4 (by decide) (hd 4 (by kernel_rfl))
          have x5 : f1 5 = .int .i64 (i : Int) := hI.loads 5 (by decide) (hd 5 (by kernel_rfl))
          have HI := Lib.hid hI
          clear hI hn hd
          go_simp
          exact HI.out.load (by kernel_rfl) (by decide)
        refine ⟨fun sn u' hI hn hd => ?_, ?_⟩
        · simp only [Act.put, List.setIfInBounds_toArray, List.set_cons_zero, List.set_cons_succ]
          have x6 : f1 6 = .pointer (some ⟨b2, o2 + i * 5, none⟩) := hI.loads 6 (by decide) (hd 6 (by kernel_rfl))
          obtain ⟨q0, q1, q2, q3, q4⟩ := HGQ.out u' (below_drew hI.below)
          have HI := Lib.hid hI
          clear hI hn hd
          go_simp
          exact HI.out.load (by kernel_rfl) (by decide)
        refine ⟨fun sn u' hI hn hd => ?_, ?_⟩
        · simp only [Act.put, List.setIfInBounds_toArray, List.set_cons_zero, List.set_cons_succ]
          have HI := Lib.hid hI
          have HN := Lib.hid hn
          clear hI hn hd
          go_simp
          exact HI.out.alloc (q0 := (8, 10)) (by kernel_rfl) (by decide) HN.out
        refine ⟨fun sn u' hI hn hd => ?_, ?_⟩
        · simp only [Act.put, List.setIfInBounds_toArray, List.set_cons_zero, List.set_cons_succ]
          have HI := Lib.hid hI
          have HN := Lib.hid hn
          clear hI hn hd
          go_simp
          exact HI.out.alloc (q0 := (9, 11)) (by kernel_rfl) (by decide) HN.out
        refine ⟨fun sn u' hI hn hd => ?_, ?_⟩
        · simp only [Act.put, List.setIfInBounds_toArray, List.set_cons_zero, List.set_cons_succ]
          obtain ⟨g, e4, hg, hh, hk⟩ := hI.store (q0 := (8, 10)) (by kernel_rfl) (by decide) (hd 8 (by kernel_rfl)) hn
          have e5 : f1 3 = .agg #[.int .i64 p.1.num, .int .i64 p.1.lev, .slice p.2.fstA p.1.fst.length p.2.fstc, .slice p.2.lstA p.1.lst.length p.2.lstc, .int .i64 p.1.siz] := hI.loads 3 (by decide) (hd 3 (by kernel_rfl))
          have e6 : f1 8 = .pointer (some ⟨g, 0, none⟩) := e4
          have q0 := cell_of hh (k := 0) rfl
          have q1 := cell_of hh (k := 1) rfl
          have q2 := cell_of hh (k := 2) rfl
          have q3 := cell_of hh (k := 3) rfl
          have q4 := cell_of hh (k := 4) rfl
          have z0 := frozen_four hh (j := 0)
          have z1 := frozen_four hh (j := 1)
          have z2 := frozen_four hh (j := 2)
          have z3 := frozen_four hh (j := 3)
          have z4 := frozen_four hh (j := 4)
          have HK := Lib.hid hk
          have HH := Lib.hid hh
          have HG := Lib.hid hg
          clear hI hn hd hk hh e4 hg
          go_simp
          exact HK.out _ _ (chg_five.below (fun k hk => by rw [hk]; exact HG.out) (Nat.le_trans HG.out (Nat.le_of_lt (Array.getElem?_eq_some_iff.1 HH.out).1))) (set_five HH.out) (fun k h => five_far h)
        refine ⟨fun sn u' hI hn hd => ?_, ?_⟩
        · simp only [Act.put, List.setIfInBounds_toArray, List.set_cons_zero, List.set_cons_succ]
          obtain ⟨g, e4, hg, hh, hk⟩ := hI.store (q0 := (9, 11)) (by kernel_rfl) (by decide) (hd 9 (by kernel_rfl)) hn
          have e5 : f1 7 = .agg #[.int .i64 q.1.num, .int .i64 q.1.lev, .slice q.2.fstA q.1.fst.length q.2.fstc, .slice q.2.lstA q.1.lst.length q.2.lstc, .int .i64 q.1.siz] := hI.loads 7 (by decide) (hd 7 (by kernel_rfl))
          have e6 : f1 9 = .pointer (some ⟨g, 0, none⟩) := e4
          have q0 := cell_of hh (k := 0) rfl
          have q1 := cell_of hh (k := 1) rfl
          have q2 := cell_of hh (k := 2) rfl
          have q3 := cell_of hh (k := 3) rfl
          have q4 := cell_of hh (k := 4) rfl
          have z0 := frozen_four hh (j := 0)
          have z1 := frozen_four hh (j := 1)
          have z2 := frozen_four hh (j := 2)
          have z3 := frozen_four hh (j := 3)
          have z4 := frozen_four hh (j := 4)
          have HK := Lib.hid hk
          have HH := Lib.hid hh
          have HG := Lib.hid hg
          clear hI hn hd hk hh e4 hg
          go_simp
          exact HK.out _ _ (chg_five.below (fun k hk => by rw [hk]; exact HG.out) (Nat.le_trans HG.out (Nat.le_of_lt (Array.getElem?_eq_some_iff.1 HH.out).1))) (set_five HH.out) (fun k h => five_far h)
        trivial
      case fin =>
        intro g1 sn u6 hall hI
        simp only [puts, Act.put, List.setIfInBounds_toArray, List.set_cons_zero, List.set_cons_succ]
        obtain ⟨gf, ef, hgf, hbf⟩ := hI.box (8, 10) (by decide) (hall 8 (by show 8 < 12; decide))
        rw [if_pos (hall 10 (by show 10 < 12; decide))] at hbf
        have hbf' : u6.heap[gf]? = some (.cells #[.int .i64 p.1.num, .int .i64 p.1.lev, .slice p.2.fstA p.1.fst.length p.2.fstc, .slice p.2.lstA p.1.lst.length p.2.lstc, .int .i64 p.1.siz] 85 (0, 0)) := hbf
        have ef' : g1 8 = .pointer (some ⟨gf, 0, none⟩) := ef
        obtain ⟨gg, eg, hgg, hbg⟩ := hI.box (9, 11) (by decide) (hall 9 (by show 9 < 12; decide))
        rw [if_pos (hall 11 (by show 11 < 12; decide))] at hbg
        have hbg' : u6.heap[gg]? = some (.cells #[.int .i64 q.1.num, .int .i64 q.1.lev, .slice q.2.fstA q.1.fst.length q.2.fstc, .slice q.2.lstA q.1.lst.length q.2.lstc, .int .i64 q.1.siz] 85 (0, 0)) := hbg
        have eg' : g1 9 = .pointer (some ⟨gg, 0, none⟩) := eg
        have HXU : Hid (Ext w u6) := Ext.trans HX.out (below_drew hI.below)
        rw [ef', eg']
        have k0 := cell_of hbf' (k := 0) rfl
        have k1 := cell_of hbf' (k := 1) rfl
        have k2 := cell_of hbf' (k := 2) rfl
        have k3 := cell_of hbf' (k := 3) rfl
        have k4 := cell_of hbf' (k := 4) rfl
        have m0 := cell_of hbg' (k := 0) rfl
        have m1 := cell_of hbg' (k := 1) rfl
        have m2 := cell_of hbg' (k := 2) rfl
        have m3 := cell_of hbg' (k := 3) rfl
        have m4 := cell_of hbg' (k := 4) rfl
        obtain ⟨t1, t2, t3, t4⟩ := HTX.out u6 HXU.out
        clear hI hall ef eg ef' eg' hbf hbg hbf' hbg' hgf hgg
        by_cases h0 : p.1.num = q.1.num
        rotate_left
        · have d0 : (p.1.num != q.1.num) = true := by simp [h0]
          have HE : Hid (p.1 ≠ q.1) := fun h => h0 (by rw [h])
          clear h0
          go_wp2_with fail
          go_ret
          exact ⟨false, HNE.out HE.out, rfl, HXU.out⟩
        have d0 : (p.1.num != q.1.num) = false := by simp [h0]
        by_cases h1 : p.1.lev = q.1.lev
        rotate_left
        · have d1 : (p.1.lev != q.1.lev) = true := by simp [h1]
          have HE : Hid (p.1 ≠ q.1) := fun h => h1 (by rw [h])
          clear h1 h0
          go_wp2_with fail
          go_ret
          exact ⟨false, HNE.out HE.out, rfl, HXU.out⟩
        have d1 : (p.1.lev != q.1.lev) = false := by simp [h1]
        by_cases h2 : p.1.fst = q.1.fst
        rotate_left
        · have d2 : ((tx p.1.fst).toList == (tx q.1.fst).toList) = false := by rw [tx_same HBF.out.1 HBF.out.2]; exact decide_eq_false h2
          have HE : Hid (p.1 ≠ q.1) := fun h => h2 (by rw [h])
          clear h2 h0 h1
          go_wp2_with fail
          go_ret
          exact ⟨false, HNE.out HE.out, rfl, HXU.out⟩
        have d2 : ((tx p.1.fst).toList == (tx q.1.fst).toList) = true := by rw [tx_same HBF.out.1 HBF.out.2]; exact decide_eq_true h2
        by_cases h3 : p.1.lst = q.1.lst
        rotate_left
        · have d3 : ((tx p.1.lst).toList == (tx q.1.lst).toList) = false := by rw [tx_same HBL.out.1 HBL.out.2]; exact decide_eq_false h3
          have HE : Hid (p.1 ≠ q.1) := fun h => h3 (by rw [h])
          clear h3 h0 h1 h2
          go_wp2_with fail
          go_ret
          exact ⟨false, HNE.out HE.out, rfl, HXU.out⟩
        have d3 : ((tx p.1.lst).toList == (tx q.1.lst).toList) = true := by rw [tx_same HBL.out.1 HBL.out.2]; exact decide_eq_true h3
        by_cases h4 : p.1.siz = q.1.siz
        rotate_left
        · have d4 : (p.1.siz != q.1.siz) = true := by simp [h4]
          have HE : Hid (p.1 ≠ q.1) := fun h => h4 (by rw [h])
          clear h4 h0 h1 h2 h3
          go_wp2_with fail
          go_ret
          exact ⟨false, HNE.out HE.out, rfl, HXU.out⟩
        have d4 : (p.1.siz != q.1.siz) = false := by simp [h4]
        have HE : Hid (p.1 = q.1) := Tab.eq_iff.2 ⟨h0, h1, h4, h2, h3⟩
        clear h0 h1 h2 h3 h4
        go_wp2_with fail
        refine ⟨⟨i + 1, rfl, HLT.out, fun j p' q' hj hp' hq' => ?_, HXU.out⟩, by have := HLT.out; simp [intOf]; omega⟩
        by_cases hji : j = i
        · rw [hji, HP1.out] at hp'
          rw [hji, HQ1.out] at hq'
          injection hp' with hp'
          injection hq' with hq'
          subst hp' hq'
          exact HE.out
        · exact HR.out j p' q' (by omega) hp' hq'
    · have e : decide ((i : Int) < (n : Int)) = false := by simp; omega
      have e2 : decide (i < n) = false := by simp; omega
      have hi2 : i = n := by omega
      have HALL : Hid (L.map Prod.fst = R.map Prod.fst) := by
        apply List.ext_getElem?
        intro j
        rw [List.getElem?_map, List.getElem?_map]
        have h1 := HN2.out
        have h2 := HN.out
        by_cases hj : j < n
        · have e1 : L[j]? = some L[j] := List.getElem?_eq_getElem (by omega)
          have e2 : R[j]? = some R[j] := List.getElem?_eq_getElem (by omega)
          rw [e1, e2]
          simp only [Option.map_some, Option.some.injEq]
          exact HR.out j _ _ (by omega) e1 e2
        · rw [List.getElem?_eq_none (by omega), List.getElem?_eq_none (by omega)]
      clear hi2 hlt hm
      go_wp2_with fail
      go_ret
      exact ⟨true, ⟨fun _ => HALL.out, fun _ => rfl⟩, rfl, HX.out⟩

set_option maxRecDepth 100000 in
set_option maxHeartbeats 4000000 in
theorem rsame_any {w : World} {A A2 : Option Addr} {c c2 : Nat} {L R : List (Tab × TabH)} (V W : Ver) (h : tabs w 0 w.heap.size A L) (h2 : tabs w 0 w.heap.size A2 R) (hlen : L.length ≤ 1000000000) (hlen2 : R.length ≤ 1000000000) :
    Calls Try.prog 26 #[.agg #[.int .i64 V.next, .int .i64 V.log, .int .i64 V.index, .int .i64 V.seq, .slice A L.length c], .agg #[.int .i64 W.next, .int .i64 W.log, .int .i64 W.index, .int .i64 W.seq, .slice A2 R.length c2]] w fun e w' => ∃ z : Bool, (z = true ↔ V = W ∧ L.map Prod.fst = R.map Prod.fst) ∧ e = .returned (.bool z) ∧ Ext w w' := by
  obtain ⟨w1, hw1⟩ : ∃ w1, w1 = (w.alloc (.cells #[.int .i64 V.next, .int .i64 V.log, .int .i64 V.index, .int .i64 V.seq, .slice A L.length c] 36)).alloc (.cells #[.int .i64 W.next, .int .i64 W.log, .int .i64 W.index, .int .i64 W.seq, .slice A2 R.length c2] 36) := ⟨_, rfl⟩
  have HX : Hid (Ext w w1) := by rw [hw1]; exact Ext.trans (ext_alloc _ _) (ext_alloc _ _)
  have HC := Lib.hid (rsametabs_any (c := c) (c2 := c2) (h.up HX.out) (h2.up HX.out) hlen hlen2)
  clear h h2 hlen hlen2
  have HNO : Hid (∀ (P : Prop), ¬ (V.next = W.next ∧ V.log = W.log ∧ V.index = W.index ∧ V.seq = W.seq) → (false = true ↔ V = W ∧ P)) := fun P hn => ⟨fun h => (by cases h), fun h => absurd (Ver.eq_iff.1 h.1) hn⟩
  by_cases n0 : V.next = W.next
  rotate_left
  · have d : (V.next != W.next) = true := by simp [n0]
    have HE : Hid (false = true ↔ V = W ∧ L.map Prod.fst = R.map Prod.fst) := HNO.out _ (fun h => n0 h.1)
    clear n0 HC
    go_enter Try.func26, Try.ntmps26
    go_wp2_with fail
    go_ret
    exact ⟨false, HE.out, rfl, by rw [hw1] at HX; exact HX.out⟩
  have d0 : (V.next != W.next) = false := by simp [n0]
  by_cases n1 : V.log = W.log
  rotate_left
  · have d : (V.log != W.log) = true := by simp [n1]
    have HE : Hid (false = true ↔ V = W ∧ L.map Prod.fst = R.map Prod.fst) := HNO.out _ (fun h => n1 h.2.1)
    clear n1 n0 HC
    go_enter Try.func26, Try.ntmps26
    go_wp2_with fail
    go_ret
    exact ⟨false, HE.out, rfl, by rw [hw1] at HX; exact HX.out⟩
  have d1 : (V.log != W.log) = false := by simp [n1]
  by_cases n2 : V.index = W.index
  rotate_left
  · have d : (V.index != W.index) = true := by simp [n2]
    have HE : Hid (false = true ↔ V = W ∧ L.map Prod.fst = R.map Prod.fst) := HNO.out _ (fun h => n2 h.2.2.1)
    clear n2 n0 n1 HC
    go_enter Try.func26, Try.ntmps26
    go_wp2_with fail
    go_ret
    exact ⟨false, HE.out, rfl, by rw [hw1] at HX; exact HX.out⟩
  have d2 : (V.index != W.index) = false := by simp [n2]
  by_cases n3 : V.seq = W.seq
  rotate_left
  · have d : (V.seq != W.seq) = true := by simp [n3]
    have HE : Hid (false = true ↔ V = W ∧ L.map Prod.fst = R.map Prod.fst) := HNO.out _ (fun h => n3 h.2.2.2)
    clear n3 n0 n1 n2 HC
    go_enter Try.func26, Try.ntmps26
    go_wp2_with fail
    go_ret
    exact ⟨false, HE.out, rfl, by rw [hw1] at HX; exact HX.out⟩
  have d3 : (V.seq != W.seq) = false := by simp [n3]
  have HN : Hid (V = W) := Ver.eq_iff.2 ⟨n0, n1, n2, n3⟩
  clear n0 n1 n2 n3
  go_enter Try.func26, Try.ntmps26
  rw [hw1] at HC HX
  go_wp2_with fail
  refine Calls.mono HC.out ?_
  rintro e w2 ⟨z, hz, rfl, hx2⟩
  have HZ := Lib.hid hz
  have HX2 := Lib.hid (Ext.trans HX.out hx2)
  clear hz hx2
  go_wp2_with fail
  go_ret
  exact ⟨z, ⟨fun h => ⟨HN.out, HZ.out.1 h⟩, fun h => HZ.out.2 h.2⟩, rfl, HX2.out⟩

end Go.Proofs.Ytjlppjffkebejaa

/- The law's table; what is known of small versions: plain mathematics. -/
namespace Go.Proofs.Ytjlppjffkebejaa
open Go.ChangeShapes Go.WideShapes Go.ChangeAt Go.RowKit

theorem tab_ret1 {fn : Func} {tmps : Array Value} {w : World} {g : Nat} {p : Tmp} {c : Array Value} {R : Ending → World → Prop} (hr : fn.results = #[.cell p 85]) (h2 : tmps.getD p undef = .pointer (some ⟨g, 0, none⟩))
    (hc : c.size = 5) (hg : w.heap[g]? = some (.cells c 85 (0, 0))) (h : R (.returned (.agg c)) w) : bodyPost Try.prog fn R .ret { tmps := tmps, defers := [] } w := by
  have hi : (Try.prog.info? 85).map (·.size) = some 5 := by kernel_rfl
  exact ⟨rfl, .agg c, results_cell_row hr _ _ _ _ _ _ _ h2 hg Try.underlying85 rfl (by rw [hc]; exact hi), h⟩
theorem own8_lit {u : World} {B : Nat} (x : Nat) (hB : B ≤ u.heap.size) : Own B [x] (.slice (some ⟨u.heap.size, 0, none⟩) 1 1) (u.alloc (.cells #[.int .u8 (x : Int)] 5)) :=
  ⟨rfl, .inr ⟨u.heap.size, 1, _, rfl, hB, heap_alloc_new u _, Nat.le_refl _, by simp [maxLen], rfl, rfl⟩⟩

set_option maxRecDepth 100000 in
set_option maxHeartbeats 2000000 in
/-- A place of keys of one byte. -/
theorem mktab_any {n lev : Int} {x y : Nat} {w : World} (hn : 0 ≤ n ∧ n ≤ 1000) (hl : 0 ≤ lev ∧ lev ≤ 1000) (hx : x < 256) (hy : y < 256) :
    Calls Try.prog 59 #[.int .i64 n, .int .i64 lev, .int .u8 (x : Int), .int .u8 (y : Int)] w fun e w' => ∃ q : TabH, e = .returned (.agg #[.int .i64 n, .int .i64 lev, .slice q.fstA 1 q.fstc, .slice q.lstA 1 q.lstc, .int .i64 1]) ∧ TMine w.heap.size (⟨n, lev, [x], [y], 1⟩, q) w' ∧ Ext w w' := by
  obtain ⟨u0, hu0⟩ : ∃ u, u = w.alloc (.cells #[.int .i64 n, .int .i64 lev, .slice (some ⟨w.heap.size + 1, 0, none⟩) 1 1, .slice (some ⟨w.heap.size + 1 + 1, 0, none⟩) 1 1, .int .i64 1] 85) := ⟨_, rfl⟩
  obtain ⟨u1, hu1⟩ : ∃ u, u = u0.alloc (.cells #[.int .u8 (x : Int)] 5) := ⟨_, rfl⟩
  obtain ⟨u, hu⟩ : ∃ u, u = u1.alloc (.cells #[.int .u8 (y : Int)] 5) := ⟨_, rfl⟩
  have HB : Hid (u.heap[w.heap.size]? = some (.cells #[.int .i64 n, .int .i64 lev, .slice (some ⟨w.heap.size + 1, 0, none⟩) 1 1, .slice (some ⟨w.heap.size + 1 + 1, 0, none⟩) 1 1, .int .i64 1] 85 (0, 0))) := by rw [hu, hu1]; exact ext_heap (Ext.trans (ext_alloc _ _) (ext_alloc _ _)) (by rw [hu0]; exact heap_at _ _ rfl)
  have HX : Hid (Ext w u) := by rw [hu, hu1, hu0]; exact Ext.trans (ext_alloc _ _) (Ext.trans (ext_alloc _ _) (ext_alloc _ _))
  have hs1 : u0.heap.size = w.heap.size + 1 := by rw [hu0]; exact Array.size_push _
  have hs2 : u1.heap.size = w.heap.size + 1 + 1 := by rw [hu1]; exact (Array.size_push _).trans (by rw [hs1])
  have HF : Hid (Own w.heap.size [x] (.slice (some ⟨w.heap.size + 1, 0, none⟩) 1 1) u) := by
    have h := own8_lit (u := u0) (B := w.heap.size) x (by rw [hs1]; exact Nat.le_succ _)
    rw [hs1, ← hu1] at h
    rw [hu]
    exact h.below (ext_alloc _ _)
  have HL : Hid (Own w.heap.size [y] (.slice (some ⟨w.heap.size + 1 + 1, 0, none⟩) 1 1) u) := by
    have h := own8_lit (u := u1) (B := w.heap.size) y (by rw [hs2]; omega)
    rw [hs2, ← hu] at h
    exact h
  have HN := Lib.hid (And.intro hn (And.intro hl (And.intro hx hy)))
  rw [hu1, hu0] at hu
  clear hs1 hs2 hn hl hx hy hu1 hu0
  go_enter Try.func59, Try.ntmps59
  go_wp2_with fail
  rw [← hu]
  refine tab_ret1 (p := 8) (by kernel_rfl) rfl rfl HB.out ⟨⟨some ⟨w.heap.size + 1, 0, none⟩, 1, some ⟨w.heap.size + 1 + 1, 0, none⟩, 1⟩, rfl, ⟨HF.out, HL.out, ?_, ?_, ?_⟩, HX.out⟩
  · obtain ⟨⟨a1, a2⟩, ⟨a3, a4⟩, _⟩ := HN.out
    dsimp only
    omega
  · intro z hz; rw [List.mem_singleton] at hz; rw [hz]; exact HN.out.2.2.1
  · intro z hz; rw [List.mem_singleton] at hz; rw [hz]; exact HN.out.2.2.2

/-- Sorted numbers are what sorting makes of them. -/
theorem up_is {L M : List Int} (h : M.Perm L) (hs : M.Pairwise (· ≤ ·)) : up L = M := by
  refine List.Perm.eq_of_pairwise (le := (· ≤ ·)) (fun a b _ _ h1 h2 => by omega) (up_sorted L) hs ((up_perm L).trans h.symm)
theorem Up.cons2 {a b : Int} {l : List Int} (h : a < b) (hl : Up (b :: l)) : Up (a :: b :: l) := by
  intro j x y hx hy
  cases j with
  | zero => simp at hx hy; omega
  | succ j => exact hl j x y (by simpa using hx) (by simpa using hy)
theorem Up.one (a : Int) : Up [a] := by intro j x y hx hy; simp at hy
theorem Up.none : Up [] := by intro j x y hx hy; simp at hy
theorem InO.cons2 {a b : Tab} {l : List Tab} (h : aheadT a b = true) (hl : InO (b :: l)) : InO (a :: b :: l) := by
  intro j x y hx hy
  cases j with
  | zero => simp at hx hy; rw [← hx, ← hy]; exact h
  | succ j => exact hl j x y (by simpa using hx) (by simpa using hy)
theorem InO.one (a : Tab) : InO [a] := by intro j x y hx hy; simp at hy
theorem InO.none : InO [] := by intro j x y hx hy; simp at hy
/-- The tables of the law's known versions. -/
def kt1 : Tab := ⟨1, 0, [97], [99], 1⟩
def kt2 : Tab := ⟨2, 1, [97], [98], 1⟩
def kt3 : Tab := ⟨3, 1, [99], [99], 1⟩
def kt4 : Tab := ⟨4, 1, [98], [100], 1⟩
theorem up2 {N M : List Int} {x : Int} (h : M.Perm (N ++ [x])) (hs : M.Pairwise (· ≤ ·)) : up (up N ++ [x]) = M := up_is (h.trans ((up_perm N).symm.append_right [x])) hs
theorem vmay_of {V : Ver} {T : List Tab} (M : List Int) (h : M.Perm (T.map Tab.num ++ [V.log])) (hs : M.Pairwise (· ≤ ·)) (hv : (0 ≤ V.next ∧ V.next ≤ 2147483647) ∧ (0 ≤ V.log ∧ V.log ≤ 2147483647) ∧ (0 ≤ V.index ∧ V.index ≤ 2147483647) ∧ (0 ≤ V.seq ∧ V.seq ≤ 2147483647)) (hu : Up (M ++ [V.next])) (hp : ∀ t ∈ T, placeM t = true) (ho : InO T) : VMay V T := by
  refine ⟨⟨fun n hn => ?_, by rw [up2 h hs]; exact hu⟩, hp, ho⟩
  simp only [List.mem_cons, List.not_mem_nil, or_false] at hn
  rcases hn with rfl | rfl | rfl | rfl
  · exact hv.1
  · exact hv.2.1
  · exact hv.2.2.1
  · exact hv.2.2.2
theorem known0 : VMay ⟨1, 0, 0, 0⟩ [] := vmay_of [0] (by decide) (by decide) (by decide) (.cons2 (by decide) (.one _)) (fun t ht => (by cases ht)) InO.none
theorem known1 : VMay ⟨2, 0, 0, 3⟩ [kt1] := vmay_of [0, 1] (by decide) (by decide) (by decide) (.cons2 (by decide) (.cons2 (by decide) (.one _))) (fun t ht => by rw [List.mem_singleton] at ht; rw [ht]; decide) (InO.one _)
theorem known2 : VMay ⟨4, 0, 0, 3⟩ [kt2, kt3] := vmay_of [0, 2, 3] (by decide) (by decide) (by decide) (.cons2 (by decide) (.cons2 (by decide) (.cons2 (by decide) (.one _)))) (fun t ht => by simp only [List.mem_cons, List.not_mem_nil, or_false] at ht; rcases ht with rfl | rfl <;> decide) (.cons2 (by decide) (.one _))
theorem known3 : ¬ VMay ⟨5, 0, 0, 3⟩ [kt2, kt4, kt3] := fun h => by
  have := h.2.2 0 kt2 kt4 rfl rfl
  revert this
  decide
theorem only1 {T : List Tab} (h : T.Perm [kt1]) : T = [kt1] := List.perm_singleton.1 h
theorem only2 {T : List Tab} (h : T.Perm [kt3, kt2]) (hs : T.Pairwise (fun a b => ¬ cmpT b a < 0)) : T = [kt2, kt3] := by
  refine List.Perm.eq_of_pairwise (le := fun a b => ¬ cmpT b a < 0) (fun a b ha hb h1 h2 => ?_) hs (by decide) (h.trans (by decide))
  have ha' := h.mem_iff.1 ha
  simp only [List.mem_cons, List.not_mem_nil, or_false] at ha' hb
  rcases ha' with rfl | rfl <;> rcases hb with rfl | rfl <;> first | rfl | (revert h1 h2; decide)
theorem only3 {T : List Tab} (h : T.Perm [kt2, kt3, kt4]) (hs : T.Pairwise (fun a b => ¬ cmpT b a < 0)) : T = [kt2, kt4, kt3] := by
  refine List.Perm.eq_of_pairwise (le := fun a b => ¬ cmpT b a < 0) (fun a b ha hb h1 h2 => ?_) hs (by decide) (h.trans (by decide))
  have ha' := h.mem_iff.1 ha
  simp only [List.mem_cons, List.not_mem_nil, or_false] at ha' hb
  rcases ha' with rfl | rfl | rfl <;> rcases hb with rfl | rfl | rfl <;> first | rfl | (revert h1 h2; decide)
theorem restT_nil (L : List (Tab × TabH)) : restT [] L = L := by simp [restT, keptT]
/-- What Do answers where the tables behind it are told. -/
theorem do_is {w w' : World} {V W : Ver} {l : List Int} {L E : List (Tab × TabH)} {e : Ending} (T0 : List Tab) (h : DoAns w V W l L E e w') (ha : argD V l L) (ho : okD V W l L = true) (hu : ∀ T : List Tab, T.Perm ((restT l L ++ E).map Prod.fst) → T.Pairwise (fun a b => ¬ cmpT b a < 0) → T = T0) (hm : VMay W T0) :
    Ext w w' ∧ ∃ (A : Option Addr) (c : Nat) (R : List (Tab × TabH)), R.map Prod.fst = T0 ∧ e = .returned (.tuple #[.agg #[.int .i64 W.next, .int .i64 W.log, .int .i64 W.index, .int .i64 W.seq, .slice A R.length c], .int .i64 0]) ∧ OwnT w.heap.size R (.slice A R.length c) w' ∧ ∀ q ∈ R, TMine w.heap.size q w' := by
  obtain ⟨hx, h⟩ := h
  refine ⟨hx, ?_⟩
  rcases h with ⟨h, _⟩ | ⟨_, ⟨h, _⟩ | ⟨_, T, h1, h2, h3⟩⟩
  · exact absurd ha h
  · rw [ho] at h; cases h
  · have := hu T h1 h2
    subst this
    rcases h3 with ⟨h3, _⟩ | ⟨_, h3⟩
    · exact absurd hm h3
    · exact h3
theorem do_no {w w' : World} {V W : Ver} {l : List Int} {L E : List (Tab × TabH)} {e : Ending} (T0 : List Tab) (h : DoAns w V W l L E e w') (ha : argD V l L) (hu : ∀ T : List Tab, T.Perm ((restT l L ++ E).map Prod.fst) → T.Pairwise (fun a b => ¬ cmpT b a < 0) → T = T0) (hm : ¬ VMay W T0) :
    Ext w w' ∧ e = .returned (.tuple #[noV, .int .i64 9]) := by
  obtain ⟨hx, h⟩ := h
  refine ⟨hx, ?_⟩
  rcases h with ⟨h, _⟩ | ⟨_, ⟨_, h⟩ | ⟨_, T, h1, h2, h3⟩⟩
  · exact absurd ha h
  · exact h
  · have := hu T h1 h2
    subst this
    rcases h3 with ⟨_, h3⟩ | ⟨h3, _⟩
    · exact h3
    · exact absurd h3 hm
theorem up_nil : up [] = [] := up_is (List.Perm.refl _) List.Pairwise.nil
theorem up_one : up [1] = [1] := up_is (List.Perm.refl _) (by decide)
theorem arg1 : argD ⟨1, 0, 0, 0⟩ [] [] := ⟨known0, by rw [up_nil]; exact Up.none⟩
theorem arg2 {L : List (Tab × TabH)} (h : L.map Prod.fst = [kt1]) : argD ⟨2, 0, 0, 3⟩ [1] L := ⟨by rw [h]; exact known1, by rw [up_one]; exact Up.one _⟩
theorem arg3 {L : List (Tab × TabH)} (h : L.map Prod.fst = [kt2, kt3]) : argD ⟨4, 0, 0, 3⟩ [] L := ⟨by rw [h]; exact known2, by rw [up_nil]; exact Up.none⟩
theorem one_row {L : List (Tab × TabH)} {t : Tab} (h : L.map Prod.fst = [t]) : ∃ q, L = [(t, q)] := by
  obtain ⟨p, rfl⟩ : ∃ p, L = [p] := List.length_eq_one_iff.1 (by simpa using congrArg List.length h)
  simp only [List.map_cons, List.map_nil, List.cons.injEq, and_true] at h
  exact ⟨p.2, by rw [← h]⟩
theorem two_row {L : List (Tab × TabH)} {t s : Tab} (h : L.map Prod.fst = [t, s]) : ∃ q r, L = [(t, q), (s, r)] := by
  obtain ⟨p, p2, rfl⟩ : ∃ p p2, L = [p, p2] := by
    rcases L with _ | ⟨p, _ | ⟨p2, _ | ⟨p3, L⟩⟩⟩
    · simp at h
    · simp at h
    · exact ⟨p, p2, rfl⟩
    · simp at h
  simp only [List.map_cons, List.map_nil, List.cons.injEq, and_true] at h
  exact ⟨p.2, p2.2, by rw [← h.1, ← h.2]⟩
theorem rest2 (q : TabH) : restT [1] [(kt1, q)] = [] := by simp [restT, keptT, kt1]
theorem lit_tabs {u : World} {Ps : List (Tab × TabH)} (h : ∀ p ∈ Ps, tabAt u 0 u.heap.size p) : tabs (u.alloc (.cells (tabrow Ps).toArray 85)) 0 (u.alloc (.cells (tabrow Ps).toArray 85)).heap.size (some ⟨u.heap.size, 0, none⟩) Ps :=
  ⟨.inr ⟨u.heap.size, 0, rfl, Nat.zero_le _, (Array.getElem?_eq_some_iff.1 (heap_alloc_new u _)).1, fun i x hx => by rw [Nat.zero_add]; exact cell_of (heap_alloc_new u _) (by simpa using hx)⟩, fun p hp => ((h p hp).below (ext_alloc u _) (Nat.le_refl _)).wide (Nat.le_refl _) (ext_alloc u _).size⟩
theorem TMine.wide {B : Nat} {p : Tab × TabH} {u : World} (h : TMine B p u) : tabAt u 0 u.heap.size p := h.at_.wide (Nat.zero_le _) (Nat.le_refl _)
theorem tabs_none (u : World) : tabs u 0 u.heap.size none [] := ⟨.inl rfl, fun p hp => (by cases hp)⟩
theorem own_tabs {B : Nat} {R : List (Tab × TabH)} {A : Option Addr} {c : Nat} {u : World} (h : OwnT B R (.slice A R.length c) u) (hm : ∀ q ∈ R, TMine B q u) : tabs u 0 u.heap.size A R := by
  obtain ⟨A1, c1, e, hs, _⟩ := h.sl
  injection e with e1 _ e2
  subst e1 e2
  exact ⟨hs.wide (Nat.zero_le _) (Nat.le_refl _), fun p hp => (hm p hp).wide⟩
end Go.Proofs.Ytjlppjffkebejaa

/- The reference's Less, Ahead, Apart and Place. -/
namespace Go.Proofs.Ytjlppjffkebejaa
open Go.ChangeShapes Go.WideShapes Go.ChangeAt Go.RowKit

theorem cmpL_nil (b : List Nat) : cmpK [] b = if b.length = 0 then 0 else -1 := by cases b <;> simp [cmpK]
theorem cmpL_nil2 (a : List Nat) : cmpK a [] = if a.length = 0 then 0 else 1 := by cases a <;> simp [cmpK]
theorem cmpL_take {a b : List Nat} : ∀ {k : Nat}, k ≤ a.length → k ≤ b.length → a.take k = b.take k → cmpK a b = cmpK (a.drop k) (b.drop k)
  | 0, _, _, _ => by simp
  | k + 1, ha, hb, h => by
    cases a with
    | nil => simp at ha
    | cons x l =>
      cases b with
      | nil => simp at hb
      | cons y r =>
        simp only [List.take_succ_cons, List.cons.injEq] at h
        obtain ⟨rfl, h⟩ := h
        simp only [List.drop_succ_cons, cmpK]
        rw [if_neg (by omega), if_neg (by omega)]
        exact cmpL_take (by simpa using ha) (by simpa using hb) h

set_option maxRecDepth 100000 in
set_option maxHeartbeats 4000000 in
theorem less_any {w : World} {lo hi lo2 hi2 : Nat} {u v : Value} {a b : List Nat} (hu : Bs w lo hi u a) (hv : Bs w lo2 hi2 v b) (h1 : hi ≤ w.heap.size) (h2 : hi2 ≤ w.heap.size) (hl1 : a.length ≤ 140737488351232) (hl2 : b.length ≤ 140737488351232) :
    Calls Try.prog 118 #[u, v] w fun e w' => e = .returned (.bool (decide (cmpK a b < 0))) ∧ Ext w w' := by
  obtain ⟨X, c, rfl, _, _, _, hy1⟩ := hu
  obtain ⟨Y, d, rfl, _, _, _, hy2⟩ := hv
  have H1 := Lib.hid hy1
  have H2 := Lib.hid hy2
  have HHI := Lib.hid (And.intro h1 h2)
  have HL := Lib.hid (And.intro hl1 hl2)
  obtain ⟨N, hN⟩ : ∃ N, N = a.length := ⟨_, rfl⟩
  obtain ⟨M, hM⟩ : ∃ M, M = b.length := ⟨_, rfl⟩
  rw [← hN, ← hM]
  have HN := Lib.hid (And.intro hN hM)
  obtain ⟨z, hz⟩ : ∃ z, z = decide (cmpK a b < 0) := ⟨_, rfl⟩
  rw [← hz]
  have HZ := Lib.hid hz
  have hlI : (N : Int) ≤ 140737488351232 := by omega
  clear hy1 hy2 h1 h2 hl1 hl2 hN hM hz
  go_enter Try.func118, Try.ntmps118
  go_wp2_with fail
  go_loopw [5] (fun x wr => ∃ k : Nat, x = .int .i64 (k : Int) ∧ Hid (k ≤ a.length ∧ k ≤ b.length ∧ a.take k = b.take k) ∧ Hid (Ext w wr)) (fun x _ => N - (intOf x).toNat)
  case atStart => exact ⟨0, rfl, ⟨Nat.zero_le _, Nat.zero_le _, by simp⟩, Ext.refl _⟩
  case round =>
    obtain ⟨k, rfl, HK, HX⟩ := hrel
    by_cases hk1 : k < N
    · have d1 : decide ((k : Int) < (N : Int)) = true := by simp; omega
      have d1n : decide (k < N) = true := by simp; omega
      by_cases hk2 : k < M
      · have d2 : decide ((k : Int) < (M : Int)) = true := by simp; omega
        have d2n : decide (k < M) = true := by simp; omega
        have ha' : k < a.length := by have := HN.out.1; omega
        have hb' : k < b.length := by have := HN.out.2; omega
        obtain ⟨b1, o1, rfl, _, hlt1, q1⟩ := By.at_ H1.out ha'
        obtain ⟨b2, o2, rfl, _, hlt2, q2⟩ := By.at_ H2.out hb'
        replace q1 := ext_cell HX.out q1
        replace q2 := ext_cell HX.out q2
        obtain ⟨x, hx⟩ : ∃ x, x = a[k] := ⟨_, rfl⟩
        obtain ⟨y, hy⟩ : ∃ y, y = b[k] := ⟨_, rfl⟩
        rw [← hx] at q1
        rw [← hy] at q2
        have HXY : Hid (cmpK a b = if x < y then -1 else if y < x then 1 else cmpK (a.drop (k + 1)) (b.drop (k + 1))) := by
          unfold Hid
          rw [cmpL_take HK.out.1 HK.out.2.1 HK.out.2.2, List.drop_eq_getElem_cons ha', List.drop_eq_getElem_cons hb', ← hx, ← hy]
          rfl
        have HE : Hid (x = y → a.take (k + 1) = b.take (k + 1)) := fun e => by
          rw [List.take_succ_eq_append_getElem ha', List.take_succ_eq_append_getElem hb', ← hx, ← hy, HK.out.2.2, e]
        have HKK := Lib.hid (And.intro ha' hb')
        have HK1 := Lib.hid hk1
        have n1 : (0 : Int) ≤ (k : Int) := by omega
        have n2 : (k : Int) < (N : Int) := by omega
        have n3 : (k : Int) < (M : Int) := by omega
        clear hlt1 hlt2 hk1 hk2
        by_cases hne : x = y
        rotate_left
        · have e1 : ((x : Int) != (y : Int)) = true := by simp; omega
          have e1n : (x != y) = true := by simp; omega
          have HC : Hid (decide ((x : Int) < (y : Int)) = z) := by
            unfold Hid
            rw [HZ.out, HXY.out]
            by_cases h : x < y
            · rw [if_pos h]; simp; omega
            · rw [if_neg h, if_pos (by omega)]; simp; omega
          have e2 := HC.out
          have e2n : decide (x < y) = z := by rw [← HC.out]; simp
          clear hx hy hne ha' hb'
          go_wp2_with fail
          go_quiet (fail)
          go_wp2_with fail
          go_quiet (fail)
          go_wp2_with fail
          go_ret
          exact ⟨rfl, below_drewN (below_drewN HX.out _) _⟩
        · have e1 : ((x : Int) != (y : Int)) = false := by simp; omega
          have e1n : (x != y) = false := by simp; omega
          have HEQ := Lib.hid (HE.out hne)
          clear hx hy hne ha' hb'
          go_wp2_with fail
          go_quiet (fail)
          go_wp2_with fail
          refine ⟨⟨k + 1, rfl, ⟨HKK.out.1, HKK.out.2, HEQ.out⟩, ?_⟩, ?_⟩
          · exact below_drewN HX.out _
          · have := HK1.out; simp [intOf]; omega
      · have d2 : decide ((k : Int) < (M : Int)) = false := by simp; omega
        have d2n : decide (k < M) = false := by simp; omega
        have HC : Hid (z = false) := by
          have hkm : k = b.length := by have := HN.out.2; have := HK.out.2.1; omega
          unfold Hid
          rw [HZ.out, cmpL_take HK.out.1 HK.out.2.1 HK.out.2.2, hkm, List.drop_length, cmpL_nil2, List.length_drop, if_neg (by have := HN.out; omega)]
          decide
        have e1 : decide ((N : Int) < (M : Int)) = false := by simp; have := HN.out; have := HK.out; omega
        have e1n : decide (N < M) = false := by simp; have := HN.out; have := HK.out; omega
        clear hk1 hk2
        go_wp2_with fail
        go_ret
        have := HC.out
        subst this
        exact ⟨rfl, HX.out⟩
    · have d1 : decide ((k : Int) < (N : Int)) = false := by simp; omega
      have d1n : decide (k < N) = false := by simp; omega
      have hkm : k = a.length := by have := HN.out.1; have := HK.out.1; omega
      have HC : Hid (decide ((N : Int) < (M : Int)) = z) := by
        unfold Hid
        rw [HZ.out, cmpL_take HK.out.1 HK.out.2.1 HK.out.2.2, hkm, List.drop_length, cmpL_nil, List.length_drop, HN.out.1, HN.out.2]
        have h1 := HK.out.2.1
        by_cases h : b.length = a.length
        · rw [if_pos (by omega)]; simp; omega
        · rw [if_neg (by omega)]; simp; omega
      have e1 := HC.out
      have e1n : decide (N < M) = z := by rw [← HC.out]; simp
      clear hk1 hkm
      go_wp2_with fail
      go_ret
      exact ⟨rfl, HX.out⟩
end Go.Proofs.Ytjlppjffkebejaa

/- The reference's Ahead, Apart and Place. -/
namespace Go.Proofs.Ytjlppjffkebejaa
open Go.ChangeShapes Go.WideShapes Go.ChangeAt Go.RowKit

set_option maxHeartbeats 4000000 in
theorem rahead_any {w : World} {lo hi lo2 hi2 : Nat} {p q : Tab × TabH} (m : tabAt w lo hi p) (m2 : tabAt w lo2 hi2 q) (h1 : hi ≤ w.heap.size) (h2 : hi2 ≤ w.heap.size) (b1 : p.1.fst.length ≤ 140737488351232) (b2 : q.1.fst.length ≤ 140737488351232) : Calls Try.prog 65 #[tabV p, tabV q] w
    fun e w' => e = .returned (.bool (decide (cmpT p.1 q.1 < 0))) ∧ Ext w w' := by
  have hx := box2_ext w p q
  have HX : Hid (Ext w (box2 w p q)) := hx
  have HF := Lib.hid (less_any (m.fst.below hx h1) (m2.fst.below hx h2) (Nat.le_trans h1 hx.size) (Nat.le_trans h2 hx.size) b1 b2)
  have HT : Hid (cmpT p.1 q.1 < 0 ↔ _) := cmpT_lt (a := p.1) (b := q.1)
  clear m m2 h1 h2 hx b1 b2
  obtain ⟨⟨num, lev, fst, lst, siz⟩, fA, fc, lA, lc⟩ := p
  obtain ⟨⟨num2, lev2, fst2, lst2, siz2⟩, fA2, fc2, lA2, lc2⟩ := q
  change Calls Try.prog _ #[.agg #[.int .i64 num, .int .i64 lev, .slice fA fst.length fc, .slice lA lst.length lc, .int .i64 siz], .agg #[.int .i64 num2, .int .i64 lev2, .slice fA2 fst2.length fc2, .slice lA2 lst2.length lc2, .int .i64 siz2]] w fun e w' => e = .returned (.bool (decide (cmpT ⟨num, lev, fst, lst, siz⟩ ⟨num2, lev2, fst2, lst2, siz2⟩ < 0))) ∧ Ext w w'
  change Hid (Calls Try.prog _ #[.slice fA fst.length fc, .slice fA2 fst2.length fc2] (box2 w _ _) fun e w' => e = .returned (.bool (decide (cmpK fst fst2 < 0))) ∧ Ext _ w') at HF
  change Hid (cmpT ⟨num, lev, fst, lst, siz⟩ ⟨num2, lev2, fst2, lst2, siz2⟩ < 0 ↔ lev < lev2 ∨ (lev = lev2 ∧ ((lev = 0 ∧ num2 < num) ∨ (lev ≠ 0 ∧ cmpK fst fst2 < 0)))) at HT
  obtain ⟨z, hz⟩ : ∃ z, z = decide (cmpT ⟨num, lev, fst, lst, siz⟩ ⟨num2, lev2, fst2, lst2, siz2⟩ < 0) := ⟨_, rfl⟩
  rw [← hz]
  obtain ⟨a, ha⟩ : ∃ a, a = decide (cmpK fst fst2 < 0) := ⟨_, rfl⟩
  rw [← ha] at HF
  have HZ : Hid (z = true ↔ lev < lev2 ∨ (lev = lev2 ∧ ((lev = 0 ∧ num2 < num) ∨ (lev ≠ 0 ∧ a = true)))) := by
    unfold Hid
    rw [hz, decide_eq_true_eq, ha, decide_eq_true_eq]; exact HT.out
  clear hz ha HT
  by_cases n0 : lev = lev2
  rotate_left
  · have d : (lev != lev2) = true := by simp [n0]
    have HE : Hid (decide (lev < lev2) = z) := by
      unfold Hid
      rw [Bool.eq_iff_iff, decide_eq_true_eq, HZ.out]
      exact ⟨fun h => .inl h, fun h => by rcases h with h | ⟨h, _⟩; exact h; exact absurd h n0⟩
    have d2 := HE.out
    clear n0 HF
    go_enter Try.func65, Try.ntmps65
    go_wp2_with fail
    go_ret
    exact ⟨rfl, HX.out⟩
  have d : (lev != lev2) = false := by simp [n0]
  by_cases n1 : lev = 0
  · have d1 : (lev == 0) = true := by simp [n1]
    have HE : Hid (decide (num2 < num) = z) := by
      unfold Hid
      rw [Bool.eq_iff_iff, decide_eq_true_eq, HZ.out]
      exact ⟨fun h => .inr ⟨n0, .inl ⟨n1, h⟩⟩, fun h => by rcases h with h | ⟨_, ⟨_, h⟩ | ⟨h, _⟩⟩; omega; exact h; exact absurd n1 h⟩
    have d2 := HE.out
    clear n0 n1 HF
    go_enter Try.func65, Try.ntmps65
    go_wp2_with fail
    go_ret
    exact ⟨rfl, HX.out⟩
  · have d1 : (lev == 0) = false := by simp [n1]
    have HE : Hid (a = z) := by
      unfold Hid
      rw [Bool.eq_iff_iff, HZ.out]
      exact ⟨fun h => .inr ⟨n0, .inr ⟨n1, h⟩⟩, fun h => by rcases h with h | ⟨_, ⟨h, _⟩ | ⟨_, h⟩⟩; omega; exact absurd h n1; exact h⟩
    clear n0 n1
    go_enter Try.func65, Try.ntmps65
    go_wp2_with fail
    refine Calls.mono HF.out ?_
    rintro e w' ⟨rfl, hx2⟩
    have HX2 : Hid (Ext w w') := Ext.trans HX.out hx2
    clear hx2
    go_wp2_with fail
    go_ret
    exact ⟨by rw [← HE.out]; rfl, HX2.out⟩

set_option maxHeartbeats 4000000 in
theorem rapart_any {w : World} {lo hi lo2 hi2 : Nat} {p q : Tab × TabH} (m : tabAt w lo hi p) (m2 : tabAt w lo2 hi2 q) (h1 : hi ≤ w.heap.size) (h2 : hi2 ≤ w.heap.size) (b1 : p.1.fst.length ≤ 140737488351232 ∧ p.1.lst.length ≤ 140737488351232) (b2 : q.1.fst.length ≤ 140737488351232 ∧ q.1.lst.length ≤ 140737488351232) : Calls Try.prog 66 #[tabV p, tabV q] w
    fun e w' => e = .returned (.bool (decide (cmpK p.1.lst q.1.fst < 0) || decide (cmpK q.1.lst p.1.fst < 0))) ∧ Ext w w' := by
  have hx := box2_ext w p q
  have HX : Hid (Ext w (box2 w p q)) := hx
  have HF := Lib.hid (less_any (m.lst.below hx h1) (m2.fst.below hx h2) (Nat.le_trans h1 hx.size) (Nat.le_trans h2 hx.size) b1.2 b2.1)
  have HG : Hid (∀ u, Ext w u → _) := fun u (hu : Ext w u) => less_any (m2.lst.below hu h2) (m.fst.below hu h1) (Nat.le_trans h2 hu.size) (Nat.le_trans h1 hu.size) b2.2 b1.1
  clear m m2 h1 h2 hx b1 b2
  obtain ⟨⟨num, lev, fst, lst, siz⟩, fA, fc, lA, lc⟩ := p
  obtain ⟨⟨num2, lev2, fst2, lst2, siz2⟩, fA2, fc2, lA2, lc2⟩ := q
  change Calls Try.prog _ #[.agg #[.int .i64 num, .int .i64 lev, .slice fA fst.length fc, .slice lA lst.length lc, .int .i64 siz], .agg #[.int .i64 num2, .int .i64 lev2, .slice fA2 fst2.length fc2, .slice lA2 lst2.length lc2, .int .i64 siz2]] w fun e w' => e = .returned (.bool (decide (cmpK lst fst2 < 0) || decide (cmpK lst2 fst < 0))) ∧ Ext w w'
  change Hid (Calls Try.prog _ #[.slice lA lst.length lc, .slice fA2 fst2.length fc2] (box2 w _ _) fun e w' => e = .returned (.bool (decide (cmpK lst fst2 < 0))) ∧ Ext _ w') at HF
  change Hid (∀ u, Ext w u → Calls Try.prog _ #[.slice lA2 lst2.length lc2, .slice fA fst.length fc] u fun e w' => e = .returned (.bool (decide (cmpK lst2 fst < 0))) ∧ Ext u w') at HG
  have Q3 : Hid ((box2 w (⟨num, lev, fst, lst, siz⟩, ⟨fA, fc, lA, lc⟩) (⟨num2, lev2, fst2, lst2, siz2⟩, ⟨fA2, fc2, lA2, lc2⟩)).cell? ⟨w.heap.size, 2, none⟩ = some (.slice fA fst.length fc)) := by unfold box2 Hid; exact cell_new (cell_of (heap_alloc_new w _) rfl) _
  have Q4 : Hid ((box2 w (⟨num, lev, fst, lst, siz⟩, ⟨fA, fc, lA, lc⟩) (⟨num2, lev2, fst2, lst2, siz2⟩, ⟨fA2, fc2, lA2, lc2⟩)).cell? ⟨w.heap.size + 1, 3, none⟩ = some (.slice lA2 lst2.length lc2)) := by unfold box2 Hid; exact cell_of (heap_at _ _ (by simp)) rfl
  obtain ⟨a, ha⟩ : ∃ a, a = decide (cmpK lst fst2 < 0) := ⟨_, rfl⟩
  obtain ⟨b, hb⟩ : ∃ b, b = decide (cmpK lst2 fst < 0) := ⟨_, rfl⟩
  rw [← ha] at HF ⊢
  rw [← hb] at HG ⊢
  clear ha hb
  go_enter Try.func66, Try.ntmps66
  go_wp2_with fail
  refine Calls.mono HF.out ?_
  rintro e w2 ⟨rfl, hx2⟩
  have HX2 : Hid (Ext w w2) := Ext.trans HX.out hx2
  have q3 := ext_cell hx2 Q3.out
  have q4 := ext_cell hx2 Q4.out
  clear hx2
  cases a
  · go_wp2_with fail
    refine (HG.out w2 HX2.out).mono ?_
    rintro e w3 ⟨rfl, hx3⟩
    have HX3 : Hid (Ext w w3) := Ext.trans HX2.out hx3
    clear hx3
    go_wp2_with fail
    go_ret
    exact ⟨rfl, HX3.out⟩
  · go_wp2_with fail
    go_ret
    exact ⟨rfl, HX2.out⟩

set_option maxHeartbeats 8000000 in
theorem rplace_any {w : World} {lo hi : Nat} {p : Tab × TabH} (m : tabAt w lo hi p) (h1 : hi ≤ w.heap.size) (b1 : p.1.fst.length ≤ 140737488351232 ∧ p.1.lst.length ≤ 140737488351232) : Calls Try.prog 64 #[tabV p] w
    fun e w' => e = .returned (.bool (placeM p.1)) ∧ Ext w w' := by
  obtain ⟨⟨num, lev, fst, lst, siz⟩, fA, fc, lA, lc⟩ := p
  change Calls Try.prog _ #[.agg #[.int .i64 num, .int .i64 lev, .slice fA fst.length fc, .slice lA lst.length lc, .int .i64 siz]] w _
  have mf : Bs w lo hi (.slice fA fst.length fc) fst := m.fst
  have ml : Bs w lo hi (.slice lA lst.length lc) lst := m.lst
  clear m
  have b2 : fst.length ≤ 140737488351232 := b1.1
  have b3 : lst.length ≤ 140737488351232 := b1.2
  change Calls Try.prog _ _ w fun e w' => e = .returned (.bool (placeM ⟨num, lev, fst, lst, siz⟩)) ∧ Ext w w'
  have HP : Hid (placeM ⟨num, lev, fst, lst, siz⟩ = true ↔ 1 ≤ num ∧ num ≤ 2147483647 ∧ 0 ≤ lev ∧ lev < 4 ∧ 1 ≤ siz ∧ siz ≤ 2147483647 ∧ (1 ≤ fst.length ∧ fst.length ≤ 32) ∧ (1 ≤ lst.length ∧ lst.length ≤ 32) ∧ ¬ cmpK lst fst < 0) := by
    unfold Hid
    rw [placeM_iff, keyM_iff, keyM_iff]
    have := cmpK_turn fst lst
    constructor
    · rintro ⟨a1, a2, a3, a4, a5, a6, a7, a8, a9⟩; exact ⟨a1, a2, a3, a4, a5, a6, a7, a8, by simp only at a9; omega⟩
    · rintro ⟨a1, a2, a3, a4, a5, a6, a7, a8, a9⟩; exact ⟨a1, a2, a3, a4, a5, a6, a7, a8, by simp only; omega⟩
  obtain ⟨z, hz⟩ : ∃ z, z = placeM ⟨num, lev, fst, lst, siz⟩ := ⟨_, rfl⟩
  rw [← hz] at HP ⊢
  obtain ⟨w1, hw1⟩ : ∃ w1, w1 = w.alloc (.cells #[.int .i64 num, .int .i64 lev, .slice fA fst.length fc, .slice lA lst.length lc, .int .i64 siz] 85) := ⟨_, rfl⟩
  have HX : Hid (Ext w w1) := by rw [hw1]; exact ext_alloc _ _
  have c4 : w1.cell? ⟨w.heap.size, 4, none⟩ = some (.int .i64 siz) := by rw [hw1]; exact cell_of (heap_at _ _ rfl) rfl
  have HL := Lib.hid (less_any (ml.below HX.out h1) (mf.below HX.out h1) (Nat.le_trans h1 HX.out.size) (Nat.le_trans h1 HX.out.size) b3 b2)
  obtain ⟨a, ha⟩ : ∃ a, a = decide (cmpK lst fst < 0) := ⟨_, rfl⟩
  rw [← ha] at HL
  have HPA : Hid (z = true ↔ 1 ≤ num ∧ num ≤ 2147483647 ∧ 0 ≤ lev ∧ lev < 4 ∧ 1 ≤ siz ∧ siz ≤ 2147483647 ∧ (1 ≤ fst.length ∧ fst.length ≤ 32) ∧ (1 ≤ lst.length ∧ lst.length ≤ 32) ∧ a = false) := by
    unfold Hid
    rw [HP.out, ha, decide_eq_false_iff_not]
  have HF : Hid (¬ (1 ≤ num ∧ num ≤ 2147483647 ∧ 0 ≤ lev ∧ lev < 4 ∧ 1 ≤ siz ∧ siz ≤ 2147483647 ∧ (1 ≤ fst.length ∧ fst.length ≤ 32) ∧ (1 ≤ lst.length ∧ lst.length ≤ 32) ∧ a = false) → z = false) := fun h => by rw [Bool.eq_false_iff]; exact fun hz => h (HPA.out.1 hz)
  clear mf ml h1 b1 b2 b3 hz ha HP
  by_cases f1 : 1 ≤ fst.length
  rotate_left
  · have HE : Hid (z = false) := HF.out (fun h => by omega)
    have d : decide ((1 : Int) ≤ (fst.length : Int)) = false := decide_eq_false (by omega)
    have dn : decide (1 ≤ fst.length) = false := decide_eq_false (by omega)
    clear f1 HL c4
    go_enter Try.func64, Try.ntmps64
    go_wp2_with fail
    go_ret
    exact ⟨by rw [HE.out]; rfl, by rw [hw1] at HX; exact HX.out⟩
  have df1 : decide ((1 : Int) ≤ (fst.length : Int)) = true := decide_eq_true (by omega)
  have dnf1 : decide (1 ≤ fst.length) = true := decide_eq_true f1
  by_cases f2 : fst.length ≤ 32
  rotate_left
  · have HE : Hid (z = false) := HF.out (fun h => by omega)
    have d : decide ((fst.length : Int) ≤ 32) = false := decide_eq_false (by omega)
    have dn : decide (fst.length ≤ 32) = false := decide_eq_false (by omega)
    clear f2 f1 HL c4
    go_enter Try.func64, Try.ntmps64
    go_wp2_with fail
    go_ret
    exact ⟨by rw [HE.out]; rfl, by rw [hw1] at HX; exact HX.out⟩
  have df2 : decide ((fst.length : Int) ≤ 32) = true := decide_eq_true (by omega)
  have dnf2 : decide (fst.length ≤ 32) = true := decide_eq_true f2
  by_cases l1 : 1 ≤ lst.length
  rotate_left
  · have HE : Hid (z = false) := HF.out (fun h => by omega)
    have d : decide ((1 : Int) ≤ (lst.length : Int)) = false := decide_eq_false (by omega)
    have dn : decide (1 ≤ lst.length) = false := decide_eq_false (by omega)
    clear l1 f1 f2 HL c4
    go_enter Try.func64, Try.ntmps64
    go_wp2_with fail
    go_ret
    exact ⟨by rw [HE.out]; rfl, by rw [hw1] at HX; exact HX.out⟩
  have dl1 : decide ((1 : Int) ≤ (lst.length : Int)) = true := decide_eq_true (by omega)
  have dnl1 : decide (1 ≤ lst.length) = true := decide_eq_true l1
  by_cases l2 : lst.length ≤ 32
  rotate_left
  · have HE : Hid (z = false) := HF.out (fun h => by omega)
    have d : decide ((lst.length : Int) ≤ 32) = false := decide_eq_false (by omega)
    have dn : decide (lst.length ≤ 32) = false := decide_eq_false (by omega)
    clear l2 f1 f2 l1 HL c4
    go_enter Try.func64, Try.ntmps64
    go_wp2_with fail
    go_ret
    exact ⟨by rw [HE.out]; rfl, by rw [hw1] at HX; exact HX.out⟩
  have dl2 : decide ((lst.length : Int) ≤ 32) = true := decide_eq_true (by omega)
  have dnl2 : decide (lst.length ≤ 32) = true := decide_eq_true l2
  by_cases n1 : 1 ≤ num
  rotate_left
  · have HE : Hid (z = false) := HF.out (fun h => by omega)
    have d : decide (1 ≤ num) = false := decide_eq_false (by omega)
    clear n1 f1 f2 l1 l2 HL c4
    go_enter Try.func64, Try.ntmps64
    go_wp2_with fail
    go_ret
    exact ⟨by rw [HE.out]; rfl, by rw [hw1] at HX; exact HX.out⟩
  have dn1 : decide (1 ≤ num) = true := decide_eq_true (by omega)
  by_cases n2 : num ≤ 2147483647
  rotate_left
  · have HE : Hid (z = false) := HF.out (fun h => by omega)
    have d : decide (num ≤ 2147483647) = false := decide_eq_false (by omega)
    clear n2 f1 f2 l1 l2 n1 HL c4
    go_enter Try.func64, Try.ntmps64
    go_wp2_with fail
    go_ret
    exact ⟨by rw [HE.out]; rfl, by rw [hw1] at HX; exact HX.out⟩
  have dn2 : decide (num ≤ 2147483647) = true := decide_eq_true (by omega)
  by_cases v1 : 0 ≤ lev
  rotate_left
  · have HE : Hid (z = false) := HF.out (fun h => by omega)
    have d : decide (0 ≤ lev) = false := decide_eq_false (by omega)
    clear v1 f1 f2 l1 l2 n1 n2 HL c4
    go_enter Try.func64, Try.ntmps64
    go_wp2_with fail
    go_ret
    exact ⟨by rw [HE.out]; rfl, by rw [hw1] at HX; exact HX.out⟩
  have dv1 : decide (0 ≤ lev) = true := decide_eq_true (by omega)
  by_cases v2 : lev < 4
  rotate_left
  · have HE : Hid (z = false) := HF.out (fun h => by omega)
    have d : decide (lev < 4) = false := decide_eq_false (by omega)
    clear v2 f1 f2 l1 l2 n1 n2 v1 HL c4
    go_enter Try.func64, Try.ntmps64
    go_wp2_with fail
    go_ret
    exact ⟨by rw [HE.out]; rfl, by rw [hw1] at HX; exact HX.out⟩
  have dv2 : decide (lev < 4) = true := decide_eq_true (by omega)
  have HALL : Hid (1 ≤ num ∧ num ≤ 2147483647 ∧ 0 ≤ lev ∧ lev < 4 ∧ (1 ≤ fst.length ∧ fst.length ≤ 32) ∧ (1 ≤ lst.length ∧ lst.length ≤ 32)) := ⟨n1, n2, v1, v2, ⟨f1, f2⟩, l1, l2⟩
  have HSZ : Hid (a = false → z = decide (1 ≤ siz ∧ siz ≤ 2147483647)) := fun h => by
    rw [Bool.eq_iff_iff, HPA.out, decide_eq_true_eq]
    exact ⟨fun h2 => ⟨h2.2.2.2.2.1, h2.2.2.2.2.2.1⟩, fun h2 => ⟨n1, n2, v1, v2, h2.1, h2.2, ⟨f1, f2⟩, ⟨l1, l2⟩, h⟩⟩
  clear n1 n2 v1 v2 f1 f2 l1 l2
  rw [hw1] at HL
  cases a
  rotate_left
  · have HE : Hid (z = false) := HF.out (fun h => by have := h.2.2.2.2.2.2.2.2; cases this)
    go_enter Try.func64, Try.ntmps64
    go_wp2_with fail
    refine Calls.mono HL.out ?_
    rintro e w2 ⟨rfl, hx2⟩
    rw [← hw1] at hx2
    have HX2 : Hid (Ext w w2) := Ext.trans HX.out hx2
    clear hx2 c4
    go_wp2_with fail
    go_ret
    exact ⟨by rw [HE.out]; rfl, HX2.out⟩
  have hsz := HSZ.out rfl
  by_cases s1 : 1 ≤ siz
  rotate_left
  · have HE : Hid (z = false) := HF.out (fun h => by omega)
    have d : decide (1 ≤ siz) = false := decide_eq_false s1
    clear s1 hsz
    go_enter Try.func64, Try.ntmps64
    go_wp2_with fail
    refine Calls.mono HL.out ?_
    rintro e w2 ⟨rfl, hx2⟩
    rw [← hw1] at hx2
    have HX2 : Hid (Ext w w2) := Ext.trans HX.out hx2
    have q4 := ext_cell hx2 c4
    clear hx2 c4
    go_wp2_with fail
    go_ret
    exact ⟨by rw [HE.out]; rfl, HX2.out⟩
  · have HE : Hid (decide (siz ≤ 2147483647) = z) := by unfold Hid; rw [hsz, Bool.eq_iff_iff, decide_eq_true_eq, decide_eq_true_eq]; exact ⟨fun h => ⟨s1, h⟩, fun h => h.2⟩
    have d : decide (1 ≤ siz) = true := decide_eq_true s1
    have d2 := HE.out
    clear s1 hsz
    go_enter Try.func64, Try.ntmps64
    go_wp2_with fail
    refine Calls.mono HL.out ?_
    rintro e w2 ⟨rfl, hx2⟩
    rw [← hw1] at hx2
    have HX2 : Hid (Ext w w2) := Ext.trans HX.out hx2
    have q4 := ext_cell hx2 c4
    clear hx2 c4
    go_wp2_with fail
    go_ret
    exact ⟨rfl, HX2.out⟩
end Go.Proofs.Ytjlppjffkebejaa

/- The reference's May. -/
namespace Go.Proofs.Ytjlppjffkebejaa
open Go.ChangeShapes Go.WideShapes Go.ChangeAt Go.RowKit

/-- May these two be in one version, in this order? -/
def pairR (a b : Tab) : Bool := !decide (a.num = b.num) && decide (cmpT a b < 0) && !(decide (a.lev = b.lev) && decide (0 < b.lev) && !(decide (cmpK a.lst b.fst < 0) || decide (cmpK b.lst a.fst < 0)))
def headR (V : Ver) : Prop := 1 ≤ V.next ∧ V.next ≤ 2147483647 ∧ 0 ≤ V.log ∧ V.log < V.next ∧ 0 ≤ V.index ∧ V.index ≤ 2147483647 ∧ 0 ≤ V.seq ∧ V.seq ≤ 2147483647
/-- Which versions may be, as the reference asks. -/
def RMay (V : Ver) (T : List Tab) : Prop := headR V ∧ ∀ (i : Nat) (t : Tab), T[i]? = some t → placeM t = true ∧ t.num < V.next ∧ t.num ≠ V.log ∧ ∀ (k : Nat) (o : Tab), k < i → T[k]? = some o → pairR o t = true

set_option maxRecDepth 100000 in
set_option maxHeartbeats 16000000 in
theorem rmay10_any {w : World} {A : Option Addr} {c : Nat} {L : List (Tab × TabH)} (V : Ver) (h : tabs w 0 w.heap.size A L) (hlen : L.length ≤ 1000000000) (hln : ∀ p ∈ L, p.1.fst.length ≤ 140737488351232 ∧ p.1.lst.length ≤ 140737488351232) :
    Calls Try.prog 21 #[.agg #[.int .i64 V.next, .int .i64 V.log, .int .i64 V.index, .int .i64 V.seq, .slice A L.length c]] w fun e w' => ∃ z : Bool, (z = true ↔ RMay V (L.map Prod.fst)) ∧ e = .returned (.bool z) ∧ Ext w w' := by
  obtain ⟨w1, hw1⟩ : ∃ w1, w1 = w.alloc (.cells #[.int .i64 V.next, .int .i64 V.log, .int .i64 V.index, .int .i64 V.seq, .slice A L.length c] 36) := ⟨_, rfl⟩
  have HX1 : Hid (Ext w w1) := by rw [hw1]; exact ext_alloc _ _
  have HV : Hid (w1.heap[w.heap.size]? = some (.cells #[.int .i64 V.next, .int .i64 V.log, .int .i64 V.index, .int .i64 V.seq, .slice A L.length c] 36 (0, 0))) := by rw [hw1]; exact heap_at _ _ rfl
  have HE := Lib.hid h
  have HL := Lib.hid hlen
  have HLN := Lib.hid hln
  have hlI : (L.length : Int) ≤ 1000000000 := by omega
  have HNO : Hid (¬ headR V → (false = true ↔ RMay V (L.map Prod.fst))) := fun hn => ⟨fun h => (by cases h), fun h => absurd h.1 hn⟩
  clear h hlen hln
  by_cases n1 : V.next < 1
  · have HF : Hid (false = true ↔ RMay V (L.map Prod.fst)) := HNO.out (fun h => by unfold headR at h; omega)
    have d : decide (V.next < 1) = true := decide_eq_true n1
    clear n1
    go_enter Try.func21, Try.ntmps21
    go_wp2_with fail
    go_ret
    exact ⟨false, HF.out, rfl, by rw [hw1] at HX1; exact HX1.out⟩
  have dn1 : decide (V.next < 1) = false := decide_eq_false n1
  by_cases n2 : 2147483647 < V.next
  · have HF : Hid (false = true ↔ RMay V (L.map Prod.fst)) := HNO.out (fun h => by unfold headR at h; omega)
    have d : decide (2147483647 < V.next) = true := decide_eq_true n2
    clear n2 n1
    go_enter Try.func21, Try.ntmps21
    go_wp2_with fail
    go_ret
    exact ⟨false, HF.out, rfl, by rw [hw1] at HX1; exact HX1.out⟩
  have dn2 : decide (2147483647 < V.next) = false := decide_eq_false n2
  by_cases g1 : V.log < 0
  · have HF : Hid (false = true ↔ RMay V (L.map Prod.fst)) := HNO.out (fun h => by unfold headR at h; omega)
    have d : decide (V.log < 0) = true := decide_eq_true g1
    clear g1 n1 n2
    go_enter Try.func21, Try.ntmps21
    go_wp2_with fail
    go_ret
    exact ⟨false, HF.out, rfl, by rw [hw1] at HX1; exact HX1.out⟩
  have dg1 : decide (V.log < 0) = false := decide_eq_false g1
  by_cases g2 : V.next ≤ V.log
  · have HF : Hid (false = true ↔ RMay V (L.map Prod.fst)) := HNO.out (fun h => by unfold headR at h; omega)
    have d : decide (V.next ≤ V.log) = true := decide_eq_true g2
    clear g2 n1 n2 g1
    go_enter Try.func21, Try.ntmps21
    go_wp2_with fail
    go_ret
    exact ⟨false, HF.out, rfl, by rw [hw1] at HX1; exact HX1.out⟩
  have dg2 : decide (V.next ≤ V.log) = false := decide_eq_false g2
  by_cases x1 : V.index < 0
  · have HF : Hid (false = true ↔ RMay V (L.map Prod.fst)) := HNO.out (fun h => by unfold headR at h; omega)
    have d : decide (V.index < 0) = true := decide_eq_true x1
    clear x1 n1 n2 g1 g2
    go_enter Try.func21, Try.ntmps21
    go_wp2_with fail
    go_ret
    exact ⟨false, HF.out, rfl, by rw [hw1] at HX1; exact HX1.out⟩
  have dx1 : decide (V.index < 0) = false := decide_eq_false x1
  by_cases x2 : 2147483647 < V.index
  · have HF : Hid (false = true ↔ RMay V (L.map Prod.fst)) := HNO.out (fun h => by unfold headR at h; omega)
    have d : decide (2147483647 < V.index) = true := decide_eq_true x2
    clear x2 n1 n2 g1 g2 x1
    go_enter Try.func21, Try.ntmps21
    go_wp2_with fail
    go_ret
    exact ⟨false, HF.out, rfl, by rw [hw1] at HX1; exact HX1.out⟩
  have dx2 : decide (2147483647 < V.index) = false := decide_eq_false x2
  by_cases s1 : V.seq < 0
  · have HF : Hid (false = true ↔ RMay V (L.map Prod.fst)) := HNO.out (fun h => by unfold headR at h; omega)
    have d : decide (V.seq < 0) = true := decide_eq_true s1
    clear s1 n1 n2 g1 g2 x1 x2
    go_enter Try.func21, Try.ntmps21
    go_wp2_with fail
    go_ret
    exact ⟨false, HF.out, rfl, by rw [hw1] at HX1; exact HX1.out⟩
  have ds1 : decide (V.seq < 0) = false := decide_eq_false s1
  by_cases s2 : 2147483647 < V.seq
  · have HF : Hid (false = true ↔ RMay V (L.map Prod.fst)) := HNO.out (fun h => by unfold headR at h; omega)
    have d : decide (2147483647 < V.seq) = true := decide_eq_true s2
    clear s2 n1 n2 g1 g2 x1 x2 s1
    go_enter Try.func21, Try.ntmps21
    go_wp2_with fail
    go_ret
    exact ⟨false, HF.out, rfl, by rw [hw1] at HX1; exact HX1.out⟩
  have ds2 : decide (2147483647 < V.seq) = false := decide_eq_false s2
  have HHD : Hid (headR V) := by unfold headR Hid; omega
  clear n1 n2 g1 g2 x1 x2 s1 s2
  have HNB : Hid (∀ (i : Nat) (p : Tab × TabH), L[i]? = some p → ¬ (placeM p.1 = true ∧ p.1.num < V.next ∧ p.1.num ≠ V.log ∧ ∀ (k : Nat) (o : Tab), k < i → (L.map Prod.fst)[k]? = some o → pairR o p.1 = true) → (false = true ↔ RMay V (L.map Prod.fst))) := fun i p hp hn => ⟨fun h => (by cases h), fun h => absurd (h.2 i p.1 (by rw [List.getElem?_map, hp]; rfl)) hn⟩
  go_enter Try.func21, Try.ntmps21
  go_wp2_with fail
  rw [← hw1]
  clear hw1 dn1 dn2 dg1 dg2 dx1 dx2 ds1 ds2 HNO
  go_loopw [3] (fun a wr => ∃ i : Nat, a = .int .i64 (i : Int) ∧ i ≤ L.length ∧ Hid (∀ (j : Nat) (p : Tab × TabH), j < i → L[j]? = some p → placeM p.1 = true ∧ p.1.num < V.next ∧ p.1.num ≠ V.log ∧ ∀ (k : Nat) (o : Tab), k < j → (L.map Prod.fst)[k]? = some o → pairR o p.1 = true) ∧ Hid (Ext w1 wr)) (fun a _ => L.length - (intOf a).toNat)
  case atStart => exact ⟨0, rfl, by omega, fun j p hj => by omega, Ext.refl _⟩
  case round =>
    obtain ⟨i, rfl, hm, HR, HX⟩ := hrel
    have hV := ext_heap HX.out HV.out
    have v4 := cell_of hV (k := 4) rfl
    by_cases hlt : i < L.length
    rotate_left
    · have d : decide ((i : Int) < (L.length : Int)) = false := by simp; omega
      have d2 : decide (i < L.length) = false := by simp; omega
      have HALL : Hid (RMay V (L.map Prod.fst)) := ⟨HHD.out, fun j t hj => by
        rw [List.getElem?_map] at hj
        obtain ⟨p, hp, rfl⟩ := Option.map_eq_some_iff.1 hj
        exact HR.out j p (by have := (List.getElem?_eq_some_iff.1 hp).1; omega) hp⟩
      clear hlt hm hV
      go_wp2_with fail
      go_ret
      exact ⟨true, ⟨fun _ => HALL.out, fun _ => rfl⟩, rfl, Ext.trans HX1.out HX.out⟩
    have d : decide ((i : Int) < (L.length : Int)) = true := by simp; omega
    have d2 : decide (i < L.length) = true := by simp; omega
    obtain ⟨p, hp⟩ : ∃ p, L[i]? = some p := ⟨_, List.getElem?_eq_getElem hlt⟩
    obtain ⟨b, o, rfl, hbb, _⟩ := HE.out.base (by omega)
    have HG : Hid (∀ u, Ext w u → ∀ (k : Nat) (q : Tab × TabH), L[k]? = some q → u.cell? ⟨b, o + k * 5, none⟩ = some (.int .i64 q.1.num) ∧ u.cell? ⟨b, o + k * 5 + 1, none⟩ = some (.int .i64 q.1.lev) ∧ u.cell? ⟨b, o + k * 5 + 2, none⟩ = some (.slice q.2.fstA q.1.fst.length q.2.fstc) ∧ u.cell? ⟨b, o + k * 5 + 3, none⟩ = some (.slice q.2.lstA q.1.lst.length q.2.lstc) ∧ u.cell? ⟨b, o + k * 5 + 4, none⟩ = some (.int .i64 q.1.siz)) := fun u hu k q hq => (HE.out.below hu (Nat.le_refl _)).get hq
    obtain ⟨c0, c1, c2', c3, c4⟩ := HG.out wr (Ext.trans HX1.out HX.out) i p hp
    obtain ⟨z, hz⟩ : ∃ z, z = placeM p.1 := ⟨_, rfl⟩
    have HCP : Hid (∀ u, Ext w u → Calls Try.prog 64 #[.agg #[.int .i64 p.1.num, .int .i64 p.1.lev, .slice p.2.fstA p.1.fst.length p.2.fstc, .slice p.2.lstA p.1.lst.length p.2.lstc, .int .i64 p.1.siz]] u fun e w' => e = .returned (.bool z) ∧ Ext u w') := by
      rw [hz]
      exact fun u hu => rplace_any ((HE.out.each p (List.mem_of_getElem? hp)).below hu (Nat.le_refl _)) hu.size (HLN.out p (List.mem_of_getElem? hp))
    have HP1 := Lib.hid hp
    have HZ := Lib.hid hz
    have hw2 : wrap64 ((i : Int) + 1) = ((i + 1 : Nat) : Int) := by unfold wrap64; omega
    have n3 : (0 : Int) ≤ (i : Int) := by omega
    have n4 : (i : Int) < (L.length : Int) := by omega
    have HLT := Lib.hid hlt
    have HNBI := Lib.hid (HNB.out i p hp)
    clear hp hlt hm hz hV
    go_wp2_with fail
    refine (HCP.out _ (Ext.trans (Ext.trans HX1.out HX.out) (ext_alloc _ _))).mono ?_
    rintro e w2 ⟨rfl, hx2⟩
    have HB2 : Hid (w2.heap[wr.heap.size]? = some (.cells #[.int .i64 p.1.num, .int .i64 p.1.lev, .slice p.2.fstA p.1.fst.length p.2.fstc, .slice p.2.lstA p.1.lst.length p.2.lstc, .int .i64 p.1.siz] 85 (0, 0))) := (hx2.block _ (by simp)).trans (heap_alloc_new wr _)
    have HX2 : Hid (Ext w1 w2) := Ext.trans HX.out (Ext.trans (ext_alloc _ _) hx2)
    have hV := ext_heap HX2.out HV.out
    have v0 := cell_of hV (k := 0) rfl
    have v1 := cell_of hV (k := 1) rfl
    have b0 := cell_of HB2.out (k := 0) rfl
    clear hx2 hV c0 c1 c2' c3 c4 v4
    cases z
    · have HF : Hid (false = true ↔ RMay V (L.map Prod.fst)) := HNBI.out (fun h => by have := HZ.out; rw [h.1] at this; cases this)
      go_wp2_with fail
      go_ret
      exact ⟨false, HF.out, rfl, Ext.trans HX1.out HX2.out⟩
    by_cases q1 : V.next ≤ p.1.num
    · have HF : Hid (false = true ↔ RMay V (L.map Prod.fst)) := HNBI.out (fun h => by have := h.2.1; omega)
      have d3 : decide (V.next ≤ p.1.num) = true := decide_eq_true q1
      clear q1
      go_wp2_with fail
      go_ret
      exact ⟨false, HF.out, rfl, Ext.trans HX1.out HX2.out⟩
    have d3 : decide (V.next ≤ p.1.num) = false := decide_eq_false q1
    by_cases q2 : p.1.num = V.log
    · have HF : Hid (false = true ↔ RMay V (L.map Prod.fst)) := HNBI.out (fun h => h.2.2.1 q2)
      have d4 : (p.1.num == V.log) = true := by simp [q2]
      clear q1 q2
      go_wp2_with fail
      go_ret
      exact ⟨false, HF.out, rfl, Ext.trans HX1.out HX2.out⟩
    have d4 : (p.1.num == V.log) = false := by simp [q2]
    have HQ : Hid (p.1.num < V.next ∧ p.1.num ≠ V.log) := ⟨by omega, q2⟩
    clear q1 q2
    go_wp2_with fail
    clear d3 d4 v0 v1 b0
    go_loopw [5] (fun a wr => ∃ k : Nat, a = .int .i64 (k : Int) ∧ k ≤ i ∧ Hid (∀ (j : Nat) (o : Tab), j < k → (L.map Prod.fst)[j]? = some o → pairR o p.1 = true) ∧ Hid (Ext w2 wr)) (fun a _ => i - (intOf a).toNat)
    case atStart => exact ⟨0, rfl, by omega, fun j o hj => by omega, Ext.refl _⟩
    case round =>
      obtain ⟨k, rfl, hk, HR2, HX3⟩ := hrel
      have HXS : Hid (Ext w wr) := Ext.trans HX1.out (Ext.trans HX2.out HX3.out)
      by_cases hki : k < i
      rotate_left
      · have f1 : decide ((k : Int) < (i : Int)) = false := by simp; omega
        have f2 : decide (k < i) = false := by simp; omega
        have hki2 : k = i := by omega
        have HDONE : Hid (∀ (j : Nat) (o : Tab), j < i → (L.map Prod.fst)[j]? = some o → pairR o p.1 = true) := by rw [← hki2]; exact HR2.out
        clear hki hk hki2
        go_wp2_with fail
        refine ⟨⟨i + 1, rfl, HLT.out, fun j q hj hq => ?_, Ext.trans HX2.out HX3.out⟩, by have := HLT.out; simp [intOf]; omega⟩
        by_cases hji : j = i
        · rw [hji, HP1.out] at hq
          injection hq with hq
          subst hq
          rw [hji]
          exact ⟨HZ.out.symm, HQ.out.1, HQ.out.2, HDONE.out⟩
        · exact HR.out j q (by omega) hq
      have f1 : decide ((k : Int) < (i : Int)) = true := by simp; omega
      have f2 : decide (k < i) = true := by simp; omega
      obtain ⟨q, hq⟩ : ∃ q, L[k]? = some q := ⟨_, List.getElem?_eq_getElem (by have := HLT.out; omega)⟩
      obtain ⟨c0, c1, c2', c3, c4⟩ := HG.out wr HXS.out k q hq
      have v4 := cell_of (ext_heap (Ext.trans HX2.out HX3.out) HV.out) (k := 4) rfl
      have hB3 : (wr.alloc (.cells #[.int .i64 q.1.num, .int .i64 q.1.lev, .slice q.2.fstA q.1.fst.length q.2.fstc, .slice q.2.lstA q.1.lst.length q.2.lstc, .int .i64 q.1.siz] 85)).heap[_]? = _ := ext_heap (Ext.trans HX3.out (ext_alloc wr (.cells #[.int .i64 q.1.num, .int .i64 q.1.lev, .slice q.2.fstA q.1.fst.length q.2.fstc, .slice q.2.lstA q.1.lst.length q.2.lstc, .int .i64 q.1.siz] 85))) HB2.out
      have b0 := cell_of hB3 (k := 0) rfl
      have b1 := cell_of hB3 (k := 1) rfl
      have b2 := cell_of hB3 (k := 2) rfl
      have b3 := cell_of hB3 (k := 3) rfl
      have b4 := cell_of hB3 (k := 4) rfl
      have HQ1 := Lib.hid hq
      have HNP : Hid (¬ pairR q.1 p.1 = true → (false = true ↔ RMay V (L.map Prod.fst))) := fun hn => HNBI.out (fun h => hn (h.2.2.2 k q.1 hki (by rw [List.getElem?_map, hq]; rfl)))
      obtain ⟨ah, hah⟩ : ∃ z, z = decide (cmpT q.1 p.1 < 0) := ⟨_, rfl⟩
      obtain ⟨ap, hap⟩ : ∃ z, z = (decide (cmpK q.1.lst p.1.fst < 0) || decide (cmpK p.1.lst q.1.fst < 0)) := ⟨_, rfl⟩
      have HPR : Hid (pairR q.1 p.1 = (!decide (q.1.num = p.1.num) && ah && !(decide (q.1.lev = p.1.lev) && decide (0 < p.1.lev) && !ap))) := by unfold pairR Hid; rw [hah, hap]
      have HAH : Hid (∀ u, Ext w u → Calls Try.prog 65 #[.agg #[.int .i64 q.1.num, .int .i64 q.1.lev, .slice q.2.fstA q.1.fst.length q.2.fstc, .slice q.2.lstA q.1.lst.length q.2.lstc, .int .i64 q.1.siz], .agg #[.int .i64 p.1.num, .int .i64 p.1.lev, .slice p.2.fstA p.1.fst.length p.2.fstc, .slice p.2.lstA p.1.lst.length p.2.lstc, .int .i64 p.1.siz]] u fun e w' => e = .returned (.bool ah) ∧ Ext u w') := by
        rw [hah]
        exact fun u hu => rahead_any ((HE.out.each q (List.mem_of_getElem? hq)).below hu (Nat.le_refl _)) ((HE.out.each p (List.mem_of_getElem? HP1.out)).below hu (Nat.le_refl _)) hu.size hu.size (HLN.out q (List.mem_of_getElem? hq)).1 (HLN.out p (List.mem_of_getElem? HP1.out)).1
      have HAP : Hid (∀ u, Ext w u → Calls Try.prog 66 #[.agg #[.int .i64 q.1.num, .int .i64 q.1.lev, .slice q.2.fstA q.1.fst.length q.2.fstc, .slice q.2.lstA q.1.lst.length q.2.lstc, .int .i64 q.1.siz], .agg #[.int .i64 p.1.num, .int .i64 p.1.lev, .slice p.2.fstA p.1.fst.length p.2.fstc, .slice p.2.lstA p.1.lst.length p.2.lstc, .int .i64 p.1.siz]] u fun e w' => e = .returned (.bool ap) ∧ Ext u w') := by
        rw [hap]
        exact fun u hu => rapart_any ((HE.out.each q (List.mem_of_getElem? hq)).below hu (Nat.le_refl _)) ((HE.out.each p (List.mem_of_getElem? HP1.out)).below hu (Nat.le_refl _)) hu.size hu.size (HLN.out q (List.mem_of_getElem? hq)) (HLN.out p (List.mem_of_getElem? HP1.out))
      have hw3 : wrap64 ((k : Int) + 1) = ((k + 1 : Nat) : Int) := by have := HLT.out; unfold wrap64; omega
      have n5 : (0 : Int) ≤ (k : Int) := by omega
      have n6 : (k : Int) < (L.length : Int) := by have := HLT.out; omega
      have HKI := Lib.hid hki
      have HXA : Hid (Ext w (wr.alloc (.cells #[.int .i64 q.1.num, .int .i64 q.1.lev, .slice q.2.fstA q.1.fst.length q.2.fstc, .slice q.2.lstA q.1.lst.length q.2.lstc, .int .i64 q.1.siz] 85))) := Ext.trans HXS.out (ext_alloc _ _)
      clear hq hki hk hah hap hB3
      by_cases t1 : q.1.num = p.1.num
      · have e1 : (q.1.num == p.1.num) = true := by simp [t1]
        have HF : Hid (false = true ↔ RMay V (L.map Prod.fst)) := HNP.out (by rw [HPR.out, decide_eq_true t1]; simp)
        clear t1
        go_wp2_with fail
        go_ret
        exact ⟨false, HF.out, rfl, HXA.out⟩
      have e1 : (q.1.num == p.1.num) = false := by simp [t1]
      have HT1 := Lib.hid t1
      clear t1
      go_wp2_with fail
      refine (HAH.out _ HXA.out).mono ?_
      rintro e w4 ⟨rfl, hx4⟩
      have HX4 : Hid (Ext w w4) := Ext.trans HXA.out hx4
      have hB6 : w4.heap[wr.heap.size]? = some (.cells #[.int .i64 q.1.num, .int .i64 q.1.lev, .slice q.2.fstA q.1.fst.length q.2.fstc, .slice q.2.lstA q.1.lst.length q.2.lstc, .int .i64 q.1.siz] 85 (0, 0)) := (hx4.block _ (by simp)).trans (heap_alloc_new wr _)
      have HX34 : Hid (Ext w2 w4) := Ext.trans HX3.out (Ext.trans (ext_alloc _ _) hx4)
      have hB4 := ext_heap HX34.out HB2.out
      have g0 := cell_of hB6 (k := 0) rfl
      have g1 := cell_of hB6 (k := 1) rfl
      have g2 := cell_of hB6 (k := 2) rfl
      have g3 := cell_of hB6 (k := 3) rfl
      have g4 := cell_of hB6 (k := 4) rfl
      have m0 := cell_of hB4 (k := 0) rfl
      have m1 := cell_of hB4 (k := 1) rfl
      have m2 := cell_of hB4 (k := 2) rfl
      have m3 := cell_of hB4 (k := 3) rfl
      have m4 := cell_of hB4 (k := 4) rfl
      clear hx4 hB6 hB4 c0 c1 c2' c3 c4 b0 b1 b2 b3 b4 v4
      cases ah
      · have HF : Hid (false = true ↔ RMay V (L.map Prod.fst)) := HNP.out (by rw [HPR.out]; simp)
        go_wp2_with fail
        go_ret
        exact ⟨false, HF.out, rfl, HX4.out⟩
      have HGOOD : Hid (∀ u, Ext w2 u → pairR q.1 p.1 = true → (∀ (j : Nat) (o : Tab), j < k + 1 → (L.map Prod.fst)[j]? = some o → pairR o p.1 = true)) := fun u _ hpr j o hj ho => by
        by_cases hjk : j = k
        · rw [hjk, List.getElem?_map, HQ1.out] at ho
          injection ho with ho
          rw [← ho]; exact hpr
        · exact HR2.out j o (by omega) ho
      by_cases t2 : q.1.lev = p.1.lev
      rotate_left
      · have e2 : (q.1.lev == p.1.lev) = false := by simp [t2]
        have HPT : Hid (pairR q.1 p.1 = true) := by unfold Hid; rw [HPR.out, decide_eq_false HT1.out, decide_eq_false t2]; rfl
        clear t2
        go_wp2_with fail
        exact ⟨⟨k + 1, rfl, HKI.out, HGOOD.out w4 HX34.out HPT.out, HX34.out⟩, by have := HKI.out; simp [intOf]; omega⟩
      have e2 : (q.1.lev == p.1.lev) = true := by simp [t2]
      by_cases t3 : 0 < p.1.lev
      rotate_left
      · have e3 : decide (0 < p.1.lev) = false := decide_eq_false t3
        have HPT : Hid (pairR q.1 p.1 = true) := by unfold Hid; rw [HPR.out, decide_eq_false HT1.out, decide_eq_false t3]; simp
        clear t2 t3
        go_wp2_with fail
        exact ⟨⟨k + 1, rfl, HKI.out, HGOOD.out w4 HX34.out HPT.out, HX34.out⟩, by have := HKI.out; simp [intOf]; omega⟩
      have e3 : decide (0 < p.1.lev) = true := decide_eq_true t3
      have HPA : Hid (pairR q.1 p.1 = ap) := by unfold Hid; rw [HPR.out, decide_eq_false HT1.out, decide_eq_true t2, decide_eq_true t3]; simp
      clear t2 t3
      go_wp2_with fail
      refine (HAP.out _ HX4.out).mono ?_
      rintro e w5 ⟨rfl, hx5⟩
      have HX5 : Hid (Ext w w5) := Ext.trans HX4.out hx5
      have HX35 : Hid (Ext w2 w5) := Ext.trans HX34.out hx5
      clear hx5 g0 g1 g2 g3 g4 m0 m1 m2 m3 m4
      cases ap
      · have HF : Hid (false = true ↔ RMay V (L.map Prod.fst)) := HNP.out (by rw [HPA.out]; simp)
        go_wp2_with fail
        go_ret
        exact ⟨false, HF.out, rfl, HX5.out⟩
      · go_wp2_with fail
        exact ⟨⟨k + 1, rfl, HKI.out, HGOOD.out w5 HX35.out HPA.out, HX35.out⟩, by have := HKI.out; simp [intOf]; omega⟩
end Go.Proofs.Ytjlppjffkebejaa

/- Mathematics: which versions may be, asked by the program and by the reference. -/
namespace Go.Proofs.Ytjlppjffkebejaa
open Go.ChangeShapes Go.WideShapes Go.ChangeAt Go.RowKit

theorem Up.tail {a : Int} {l : List Int} (h : Up (a :: l)) : Up l := fun j x y hx hy => h (j + 1) x y (by simpa using hx) (by simpa using hy)
theorem InO.tail {a : Tab} {l : List Tab} (h : InO (a :: l)) : InO l := fun j x y hx hy => h (j + 1) x y (by simpa using hx) (by simpa using hy)
theorem up_pair : ∀ {l : List Int}, Up l ↔ l.Pairwise (· < ·)
  | [] => ⟨fun _ => List.Pairwise.nil, fun _ => Up.none⟩
  | [a] => ⟨fun _ => by simp, fun _ => Up.one a⟩
  | a :: b :: l => by
    constructor
    · intro h
      have h2 := up_pair.1 h.tail
      have h3 : a < b := h 0 a b rfl rfl
      rw [List.pairwise_cons] at h2 ⊢
      refine ⟨fun x hx => ?_, List.pairwise_cons.2 h2⟩
      rcases List.mem_cons.1 hx with rfl | hx
      · exact h3
      · have := h2.1 x hx; omega
    · intro h
      rw [List.pairwise_cons] at h
      exact .cons2 (h.1 b (by simp)) (up_pair.2 h.2)
theorem aheadT_iff {a b : Tab} : aheadT a b = true ↔ if a.lev = b.lev ∧ 0 < a.lev then cmpK a.lst b.fst < 0 else cmpT a b < 0 := by
  unfold aheadT
  by_cases h : a.lev = b.lev ∧ 0 < a.lev
  · rw [if_pos h, if_pos h, decide_eq_true_eq]
  · rw [if_neg h, if_neg h, decide_eq_true_eq]
/-- One that stands just ahead stands ahead in the order, too. -/
theorem ahead_cmp {a b : Tab} (ha : placeM a = true) (h : aheadT a b = true) : cmpT a b < 0 := by
  rw [aheadT_iff] at h
  by_cases h1 : a.lev = b.lev ∧ 0 < a.lev
  · rw [if_pos h1] at h
    have h9 := (placeM_iff.1 ha).2.2.2.2.2.2.2.2
    rw [cmpT_lt]
    refine .inr ⟨h1.1, .inr ⟨by omega, ?_⟩⟩
    have r1 := cmpK_range a.fst a.lst
    by_cases e : cmpK a.fst a.lst = 0
    · rw [cmpK_zero e]; exact h
    · exact cmpK_ltt (by omega) h
  · rw [if_neg h1] at h; exact h
theorem ahead_trans {a b c : Tab} (ha : placeM a = true) (hb : placeM b = true) (h : aheadT a b = true) (k : aheadT b c = true) : aheadT a c = true := by
  have t := cmpT_trans (ahead_cmp ha h) (ahead_cmp hb k)
  rw [aheadT_iff]
  by_cases h1 : a.lev = c.lev ∧ 0 < a.lev
  · rw [if_pos h1]
    have l1 := ahead_cmp ha h
    have l2 := ahead_cmp hb k
    rw [cmpT_lt] at l1 l2
    have e1 : a.lev = b.lev := by omega
    rw [aheadT_iff, if_pos ⟨e1, h1.2⟩] at h
    rw [aheadT_iff, if_pos ⟨by omega, by omega⟩] at k
    have h9 := (placeM_iff.1 hb).2.2.2.2.2.2.2.2
    have r1 := cmpK_range b.fst b.lst
    by_cases e : cmpK b.fst b.lst = 0
    · rw [cmpK_zero e] at h; exact cmpK_ltt h k
    · exact cmpK_ltt h (cmpK_ltt (by omega) k)
  · rw [if_neg h1]; exact t
theorem ino_pair : ∀ {l : List Tab}, (∀ t ∈ l, placeM t = true) → (InO l ↔ l.Pairwise (fun a b => aheadT a b = true))
  | [], _ => ⟨fun _ => List.Pairwise.nil, fun _ => InO.none⟩
  | [a], _ => ⟨fun _ => by simp, fun _ => InO.one a⟩
  | a :: b :: l, hp => by
    have hp2 : ∀ t ∈ b :: l, placeM t = true := fun t ht => hp t (List.mem_cons_of_mem _ ht)
    constructor
    · intro h
      have h2 := (ino_pair hp2).1 h.tail
      have h3 : aheadT a b = true := h 0 a b rfl rfl
      rw [List.pairwise_cons] at h2 ⊢
      refine ⟨fun x hx => ?_, List.pairwise_cons.2 h2⟩
      rcases List.mem_cons.1 hx with rfl | hx
      · exact h3
      · exact ahead_trans (hp a (by simp)) (hp b (by simp)) h3 (h2.1 x hx)
    · intro h
      rw [List.pairwise_cons] at h
      exact .cons2 (h.1 b (by simp)) ((ino_pair hp2).2 h.2)
/-- The reference's question of two is the program's, and that their numbers are unlike. -/
theorem pairR_iff {a b : Tab} (ha : placeM a = true) (hb : placeM b = true) : pairR a b = true ↔ a.num ≠ b.num ∧ aheadT a b = true := by
  have a9 := (placeM_iff.1 ha).2.2.2.2.2.2.2.2
  have b9 := (placeM_iff.1 hb).2.2.2.2.2.2.2.2
  have e : pairR a b = true ↔ a.num ≠ b.num ∧ cmpT a b < 0 ∧ ¬ (a.lev = b.lev ∧ 0 < b.lev ∧ ¬ (cmpK a.lst b.fst < 0 ∨ cmpK b.lst a.fst < 0)) := by
    unfold pairR
    simp only [Bool.and_eq_true, Bool.not_eq_true', decide_eq_true_eq, decide_eq_false_iff_not, Bool.and_eq_false_iff, Bool.or_eq_true, Bool.not_eq_false', ne_eq, and_assoc, not_and, Decidable.not_not]
    constructor
    · rintro ⟨h1, h2, h3⟩
      refine ⟨h1, h2, fun e1 e2 => ?_⟩
      rcases h3 with (h3 | h3) | h3
      · exact absurd e1 h3
      · exact absurd e2 h3
      · exact h3
    · rintro ⟨h1, h2, h3⟩
      refine ⟨h1, h2, ?_⟩
      by_cases e1 : a.lev = b.lev
      · by_cases e2 : 0 < b.lev
        · exact .inr (h3 e1 e2)
        · exact .inl (.inr e2)
      · exact .inl (.inl e1)
  rw [e, aheadT_iff]
  refine and_congr_right fun _ => ?_
  by_cases h1 : a.lev = b.lev ∧ 0 < a.lev
  · rw [if_pos h1]
    constructor
    · rintro ⟨h2, h3⟩
      rw [cmpT_lt] at h2
      have h4 : cmpK a.fst b.fst < 0 := by
        rcases h2 with h2 | ⟨_, ⟨h2, _⟩ | ⟨_, h2⟩⟩
        · omega
        · omega
        · exact h2
      by_cases h5 : cmpK a.lst b.fst < 0
      · exact h5
      · exfalso
        refine h3 ⟨h1.1, by omega, ?_⟩
        rintro (h6 | h6)
        · exact h5 h6
        · have t := cmpK_lele (a := b.fst) (b := b.lst) (c := a.fst) b9 (by omega)
          have t2 := cmpK_turn a.fst b.fst
          omega
    · intro h2
      exact ⟨ahead_cmp ha (aheadT_iff.2 (by rw [if_pos h1]; exact h2)), fun h3 => h3.2.2 (.inl h2)⟩
  · rw [if_neg h1]
    exact ⟨fun h => h.1, fun h => ⟨h, fun h3 => h1 ⟨h3.1, by omega⟩⟩⟩
/-- The program's question of the numbers. -/
theorem nums_iff {N : List Int} {log next : Int} : Up (up (up N ++ [log]) ++ [next]) ↔ (N ++ [log]).Nodup ∧ ∀ x ∈ N ++ [log], x < next := by
  have hp : (up (up N ++ [log])).Perm (N ++ [log]) := (up_perm _).trans ((up_perm N).append_right _)
  have hs := up_sorted (up N ++ [log])
  rw [up_pair, List.pairwise_append]
  constructor
  · rintro ⟨h1, _, h2⟩
    exact ⟨hp.nodup_iff.1 (h1.imp fun h => by omega), fun x hx => h2 x (hp.mem_iff.2 hx) next (by simp)⟩
  · rintro ⟨h1, h2⟩
    refine ⟨?_, by simp, fun x hx y hy => ?_⟩
    · have hn : (up (up N ++ [log])).Nodup := hp.nodup_iff.2 h1
      exact (hs.and hn).imp fun h => by have := h.1; have := h.2; omega
    · rw [List.mem_singleton] at hy
      subst hy
      exact h2 x (hp.mem_iff.1 hx)
/-- The two ask the same. -/
theorem may_same (V : Ver) (T : List Tab) : VMay V T ↔ RMay V T := by
  unfold VMay NumsM RMay headR
  rw [nums_iff]
  constructor
  · rintro ⟨⟨h1, h2, h3⟩, hp, ho⟩
    have n1 := h1 V.next (by simp)
    have n2 := h1 V.log (by simp)
    have n3 := h1 V.index (by simp)
    have n4 := h1 V.seq (by simp)
    have n5 := h3 V.log (by simp)
    rw [List.nodup_append] at h2
    have hpw := (ino_pair hp).1 ho
    refine ⟨⟨by omega, n1.2, n2.1, n5, n3.1, n3.2, n4.1, n4.2⟩, fun i t ht => ?_⟩
    have hm := List.mem_of_getElem? ht
    refine ⟨hp t hm, h3 t.num (List.mem_append_left _ (List.mem_map_of_mem hm)), fun e => h2.2.2 t.num (List.mem_map_of_mem hm) V.log (by simp) e, fun k o hk hko => ?_⟩
    have hmo := List.mem_of_getElem? hko
    obtain ⟨hi, ei⟩ := List.getElem?_eq_some_iff.1 ht
    obtain ⟨hk2, ek⟩ := List.getElem?_eq_some_iff.1 hko
    refine (pairR_iff (hp o hmo) (hp t hm)).2 ⟨?_, ?_⟩
    · have := List.pairwise_iff_getElem.1 h2.1 k i (by simpa using hk2) (by simpa using hi) hk
      rw [List.getElem_map, List.getElem_map, ek, ei] at this
      exact this
    · have := List.pairwise_iff_getElem.1 hpw k i hk2 hi hk
      rw [ek, ei] at this
      exact this
  · rintro ⟨⟨g1, g2, g3, g4, g5, g6, g7, g8⟩, hT⟩
    have hp : ∀ t ∈ T, placeM t = true := fun t ht => by
      obtain ⟨i, hi⟩ := List.getElem?_of_mem ht
      exact (hT i t hi).1
    refine ⟨⟨fun n hn => ?_, ?_, fun x hx => ?_⟩, hp, (ino_pair hp).2 ?_⟩
    · simp only [List.mem_cons, List.not_mem_nil, or_false] at hn
      rcases hn with rfl | rfl | rfl | rfl <;> constructor <;> omega
    · rw [List.nodup_append]
      refine ⟨?_, by simp, fun a ha b hb => ?_⟩
      · refine List.pairwise_iff_getElem.2 fun i j hi hj hij => ?_
        have hi2 : i < T.length := by simpa using hi
        have hj2 : j < T.length := by simpa using hj
        rw [List.getElem_map, List.getElem_map]
        exact ((pairR_iff (hp _ (List.getElem_mem hi2)) (hp _ (List.getElem_mem hj2))).1 ((hT j _ (List.getElem?_eq_getElem hj2)).2.2.2 i _ hij (List.getElem?_eq_getElem hi2))).1
      · rw [List.mem_singleton] at hb
        subst hb
        obtain ⟨t, ht, rfl⟩ := List.mem_map.1 ha
        obtain ⟨i, hi⟩ := List.getElem?_of_mem ht
        exact (hT i t hi).2.2.1
    · rcases List.mem_append.1 hx with hx | hx
      · obtain ⟨t, ht, rfl⟩ := List.mem_map.1 hx
        obtain ⟨i, hi⟩ := List.getElem?_of_mem ht
        exact (hT i t hi).2.1
      · rw [List.mem_singleton] at hx; rw [hx]; exact g4
    · refine List.pairwise_iff_getElem.2 fun i j hi hj hij => ?_
      exact ((pairR_iff (hp _ (List.getElem_mem hi)) (hp _ (List.getElem_mem hj))).1 ((hT j _ (List.getElem?_eq_getElem hj)).2.2.2 i _ hij (List.getElem?_eq_getElem hi))).2
end Go.Proofs.Ytjlppjffkebejaa
