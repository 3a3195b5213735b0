/- Srput, joined. -/
import Derived.Test.YtepaaffebhinlaaDoorOa8
import Derived.Test.YtepaaffebhinlaaDoorOa9
import Derived.Test.YtepaaffebhinlaaDoorOa5
import Derived.Laws.OwnMore

/- The reference's Put. -/
namespace Go.Proofs.YtepaaffebhinlaaDoor
open Go.ChangeShapes Go.WideShapes Go.ChangeAt Go.RowKit

theorem Got.rs {B : Nat} {A : Option Addr} {c : Nat} {R : List (Ent × Hd)} {w : World} (h : Got B (.slice A R.length c) R w) : Es w 0 w.heap.size A R := by
  refine ⟨?_, fun p hp => (h.each p hp).em⟩
  rcases h.row.2 with ⟨h1, h2⟩ | ⟨g, cap, cur, hv, hg, hh, r⟩
  · injection h1 with e1 e2 _
    have : R = [] := List.eq_nil_of_length_eq_zero e2
    subst this; exact Sl.nil _ _ _ _
  · injection hv with e1 _ _
    subst e1
    refine .inr ⟨g, 0, rfl, Nat.zero_le _, (Array.getElem?_eq_some_iff.1 hh).1, fun i u hu => ?_⟩
    have := h.row.cells (g := g) rfl i u hu
    rwa [addr_add] at this
/-- Where a row of entries ends, so does what may be there. -/
theorem Got.capd {B : Nat} {A : Option Addr} {c : Nat} {R : List (Ent × Hd)} {w : World} (h : Got B (.slice A R.length c) R w) : R.length ≤ c ∧ (A = none → c = 0) := by
  rcases h.row.2 with ⟨he, hx⟩ | ⟨g, cap, cur, hv, _, hh, _, hcs⟩
  · injection he with e1 e2 e3; subst e1 e3; exact ⟨by omega, fun _ => rfl⟩
  · injection hv with e1 e2 e3; subst e1 e3; exact ⟨by omega, fun e => by cases e⟩
/-- 'append(l, m...)': entries to entries. -/
theorem wp_addents {o : Oper} {a : Act} {K : Act → World → Prop} {Q : Exit → Act → World → Prop} {u : World} (s x : Operand)
    (ho : o.op = .call { callee := .builtin .append, args := #[s, x], argTypes := #[22, 22] }) (C : Nat) (v : Value) (R : List (Ent × Hd)) (hs : a.eval s = v) (hrow : u.ownsRow C 28 4 v R.length (erow R))
    (lo hi : Nat) (A2 : Option Addr) (c2 : Nat) (L : List (Ent × Hd)) (hx : a.eval x = .slice A2 L.length c2) (hsl : Sl u lo hi A2 (erow L)) (hnil : A2 = none → c2 = 0 ∧ L = []) (hlen : R.length + L.length ≤ 1000000000000) (hB : C ≤ u.heap.size)
    (h : ∀ A' c' w', w'.ownsRow C 28 4 (.slice A' (R ++ L).length c') (R ++ L).length (erow (R ++ L)) → (∀ B p, Mine B p u → Mine B p w') → (∀ w0, Below C w0 u → Below C w0 w') → K (a.put o.dst (.slice A' (R ++ L).length c')) w') : o.wp Tryd.prog a u K Q := by
  obtain ⟨i0, hi0', ix0, ix1, ix2⟩ := info_parts einfo
  rcases A2 with _ | ad
  · obtain ⟨rfl, rfl⟩ := hnil rfl
    have hrun := run_append_owned_none (P := Tryd.prog) (w := u) C 22 o.type 28 i0 4 Tryd.underlying22 hi0' v R.length (erow R) hrow
    unfold Oper.wp execOp
    simp only [ho, resolve, invoke, builtin, Sem.run_bind, Sem.run_pure, Result.andThen_ok, List.map_toArray, List.map_cons, List.map_nil, hs, hx, List.length_nil, hrun]
    obtain ⟨A', c', rfl⟩ := rowN_slice hrow
    have h2 := h A' c' u (by simpa using hrow) (fun _ _ h => h) (fun _ hb => hb)
    simp only [List.append_nil] at h2
    exact h2
  · refine wp_append_own u s x 22 ho C 28 i0 _ 4 64 Tryd.underlying22 hi0' ix0 ix1 ix2 rfl (by decide) v R.length (erow R) hs hrow ad L.length c2 (erow L) hx (erow_length L) (fun j q hj => ?n1) (erow_one L) ?n3 ?n4 hB (fun v' w5 hO hgr _ => ?rest)
    case n1 =>
      rcases hsl with h0 | ⟨b, of, he, _, _, hc⟩
      · rw [h0] at hj; simp at hj
      · injection he with he; subst he; rw [addr_add]; exact hc j q hj
    case n3 => unfold maxLen; omega
    case n4 => omega
    case rest =>
      have hlt := rowN_lt hrow
      have hke : ∀ B (q : Ent × Hd), Mine B q u → Mine B q w5 := fun B q hq => by
        have hk : ∀ {l : List Nat} {y : Value}, Own B l y u → Own B l y w5 := fun hy => row_kept hy fun g' hg' => hgr.block g' (row_lt hy g' hg').2 (fun e => rows_apart hy hrow (by decide) hg' e.symm)
        exact ⟨hk hq.k, hk hq.v, hq.good⟩
      have hrow' : w5.ownsRow C 28 4 v' (R ++ L).length (erow (R ++ L)) := by rw [List.length_append, erow_append]; exact hO
      obtain ⟨A', c', rfl⟩ := rowN_slice hrow'
      exact h A' c' w5 hrow' hke (fun w0 hb => hb.grown hgr hB fun k hk => (hlt k hk).1)
theorem eslice_from (A : Option Addr) (n c k : Nat) (hkn : k ≤ n) (_hc : n ≤ c) (w : World) :
    (Instr.slice 22 (.slice A n c) (some (.int .i64 (k : Int))) none none).run Tryd.prog w = .ok (.slice (if c = k then A else A.map (·.add (k * 4))) (n - k) (c - k)) w := by
  have he : Tryd.prog.underlying 22 = some (.slice (Tryd.prog.elem 22)) := by kernel_rfl
  rw [run_slice_l w 22 A n c he .i64 (k : Int) (by omega) (by omega), esize w]
  simp [Result.andThen, sliced]

/-- The blocks of a row and of its entries. -/
def Blk (v : Value) (R : List (Ent × Hd)) (b : Nat) : Prop := v.ownBlock = some b ∨ ∃ p ∈ R, (Value.slice p.2.kA p.1.key.length p.2.kc).ownBlock = some b ∨ (Value.slice p.2.vA p.1.val.length p.2.vc).ownBlock = some b
theorem Got.blk {B : Nat} {v : Value} {R : List (Ent × Hd)} {w : World} (h : Got B v R w) {b : Nat} (hb : Blk v R b) : B ≤ b ∧ b < w.heap.size := by
  rcases hb with hb | ⟨p, hp, hb | hb⟩
  · exact ⟨(rowN_lt h.row b hb).1, (rowN_lt h.row b hb).2.1⟩
  · exact row_lt (h.each p hp).k b hb
  · exact row_lt (h.each p hp).v b hb
theorem Got.keepS {B : Nat} {v : Value} {R : List (Ent × Hd)} {w w' : World} {S : Nat → Prop} (h : Got B v R w) (hc : Chg S w w') (hS : ∀ b, Blk v R b → ¬ S b) : Got B v R w' :=
  ⟨rowN_kept h.row fun g hg => hc.block g (rowN_lt h.row g hg).2.1 (hS g (.inl hg)), fun p hp => ⟨row_kept (h.each p hp).k fun g hg => hc.block g (row_lt (h.each p hp).k g hg).2 (hS g (.inr ⟨p, hp, .inl hg⟩)),
    row_kept (h.each p hp).v fun g hg => hc.block g (row_lt (h.each p hp).v g hg).2 (hS g (.inr ⟨p, hp, .inr hg⟩)), (h.each p hp).good⟩⟩
/-- What Put answers. -/
def RPutAns (w : World) (B : Nat) (v : Value) (R : List (Ent × Hd)) (x : Ent) (e : Ending) (w' : World) : Prop :=
  ∃ (R' : List (Ent × Hd)) (A' : Option Addr) (c' : Nat) (k : Int), putE (R.map Prod.fst) x = (R'.map Prod.fst, k) ∧ e = .returned (.tuple #[.slice A' R'.length c', .int .i64 k]) ∧ Got B (.slice A' R'.length c') R' w' ∧ Ext w w' ∧ ∀ b, Blk (.slice A' R'.length c') R' b → Blk v R b ∨ w.heap.size ≤ b

set_option maxRecDepth 100000 in
set_option maxHeartbeats 8000000 in
theorem rput_any {w : World} {lo hi B c : Nat} {A : Option Addr} {R : List (Ent × Hd)} {x : Ent} {g : Hd} (h : Got B (.slice A R.length c) R w) (hm : Em w lo hi x g) (hhi : hi ≤ w.heap.size) (hB : B ≤ w.heap.size) (hasc : Asc (R.map Prod.fst)) (hmay : ∀ p ∈ R, p.1.may = true) (hlen : R.length ≤ 1000000) :
    Calls Tryd.prog 28 #[.slice A R.length c, x.at_ g] w (RPutAns w B (.slice A R.length c) R x) := by
  obtain ⟨w1, hw1⟩ : ∃ w1, w1 = w.alloc (.cells #[.slice g.kA x.key.length g.kc, .int .i64 x.seq, .int .i64 x.kind, .slice g.vA x.val.length g.vc] 28) := ⟨_, rfl⟩
  have HX1 : Hid (Ext w w1) := by rw [hw1]; exact ext_alloc _ _
  have HZ1 : Hid (w1.heap.size = w.heap.size + 1) := by rw [hw1]; simp [Hid]
  have HBX : Hid (w1.heap[w.heap.size]? = some (.cells #[.slice g.kA x.key.length g.kc, .int .i64 x.seq, .int .i64 x.kind, .slice g.vA x.val.length g.vc] 28 (0, 0))) := by rw [hw1]; exact heap_at _ _ rfl
  have HG := Lib.hid h
  have HM := Lib.hid hm
  have HHI := Lib.hid hhi
  have HB := Lib.hid hB
  have HASC := Lib.hid hasc
  have HMAY := Lib.hid hmay
  have HL := Lib.hid hlen
  have HCAP := Lib.hid h.capd
  have c0 := cell_of HBX.out (k := 0) rfl
  have c1 := cell_of HBX.out (k := 1) rfl
  have c2 := cell_of HBX.out (k := 2) rfl
  have c3 := cell_of HBX.out (k := 3) rfl
  have hlI : (R.length : Int) ≤ 1000000 := by omega
  clear h hm hhi hB hasc hmay
  obtain ⟨z, hz⟩ : ∃ z, z = mayN x.key.length x.seq x.kind x.val.length := ⟨_, rfl⟩
  have HZ := Lib.hid hz
  clear hz
  unfold Ent.at_
  go_enter Tryd.func28, Tryd.ntmps28
  go_upto_region 1 with (fail)
  rw [← hw1]
  clear hw1
  go_wp2_with fail
  refine Calls.mono (rmay_any _ _ _ _ _ _ _ _ w1) ?_
  rintro e w2 ⟨rfl, hx2⟩
  have HX2 : Hid (Ext w w2) := Ext.trans HX1.out hx2
  have HY2 : Hid (Ext w1 w2) := hx2
  clear hx2
  rw [← HZ.out]
  replace c0 := ext_cell HY2.out c0
  replace c1 := ext_cell HY2.out c1
  replace c2 := ext_cell HY2.out c2
  replace c3 := ext_cell HY2.out c3
  cases z with
  | false =>
    go_wp2_with fail
    go_ret2
    exact ⟨R, A, c, 2, putE_no HZ.out.symm, rfl, HG.out.below HX2.out, HX2.out, fun _ h => .inl h⟩
  | true =>
    have HXM : Hid (x.may = true) := HZ.out.symm
    have HKL : Hid (x.key.length ≤ 100000 ∧ x.val.length ≤ 100000 ∧ ∀ p ∈ R, p.1.key.length ≤ 140737488351232) := by
      have h1 := mayN_iff.1 HXM.out
      refine ⟨by omega, by omega, fun p hp => ?_⟩
      have h2 := mayN_iff.1 (HMAY.out p hp)
      omega
    go_upto_region 4 with (fail)
    go_loopw [6] (fun i wr => ∃ k : Nat, k ≤ R.length ∧ i = .int .i64 (k : Int) ∧ Hid (∀ j e, j < k → (R.map Prod.fst)[j]? = some e → aheadE x.key x.seq e = true) ∧ Hid (Ext w1 wr)) (fun i _ => R.length - (intOf i).toNat)
    case atStart => exact ⟨0, by omega, rfl, Lib.hid (fun j _ hj => by omega), HY2⟩
    case round =>
      obtain ⟨k, hk, rfl, HJ, HXR⟩ := hrel
      have HX : Hid (Ext w wr) := Ext.trans HX1.out HXR.out
      by_cases hlt : k < R.length
      · have d : decide ((k : Int) < (R.length : Int)) = true := decide_eq_true (by omega)
        have dn : decide (k < R.length) = true := decide_eq_true hlt
        have HE : Hid (Es w 0 w.heap.size A R) := HG.out.rs
        obtain ⟨b, o, hA⟩ := HE.out.base (by omega)
        subst hA
        obtain ⟨p, hp⟩ : ∃ p, R[k]? = some p := ⟨_, List.getElem?_eq_getElem hlt⟩
        obtain ⟨d0, d1, d2, d3⟩ := (HE.out.below HX.out (Nat.le_refl _)).get hp
        have HP := Lib.hid hp
        have n1 : (0 : Int) ≤ (k : Int) := by omega
        have n2 : (k : Int) < (R.length : Int) := by omega
        have HLT := Lib.hid hlt
        replace c0 := ext_cell HXR.out (cell_of HBX.out (k := 0) rfl)
        replace c1 := ext_cell HXR.out (cell_of HBX.out (k := 1) rfl)
        replace c2 := ext_cell HXR.out (cell_of HBX.out (k := 2) rfl)
        replace c3 := ext_cell HXR.out (cell_of HBX.out (k := 3) rfl)
        have HWW : Hid (∀ u, Ext wr u → Em u 0 w.heap.size p.1 p.2 ∧ Em u lo hi x g ∧ w.heap.size ≤ u.heap.size ∧ hi ≤ u.heap.size) := fun u hu => by
          have hx := Ext.trans HX.out hu
          exact ⟨(HE.out.below hx (Nat.le_refl _)).each p (List.mem_of_getElem? HP.out), HM.out.below hx HHI.out, hx.size, Nat.le_trans HHI.out hx.size⟩
        have HPL : Hid (p.1.key.length ≤ 140737488351232) := HKL.out.2.2 p (List.mem_of_getElem? hp)
        obtain ⟨s, hs⟩ : ∃ s, s = cmpE p.1 x := ⟨_, rfl⟩
        have HS := Lib.hid hs
        obtain ⟨y, hy⟩ : ∃ y, y = decide (s < 0) := ⟨_, rfl⟩
        have HY := Lib.hid hy
        clear hp hs hy
        go_upto_region 4 with (fail)
        refine flow (by kernel_rfl) [Is (.int .i64 (k : Int)), Is (.slice (some ⟨b, o, none⟩) R.length c), Is (.int .i64 (R.length : Int)), Is (.bool true), Is (.bool true), Is (.slice (some ⟨b, o, none⟩) R.length c), Is (.int .i64 (k : Int)), Is (.pointer (some ⟨b, o + k * 4, none⟩)), Is (.agg #[.slice p.2.kA p.1.key.length p.2.kc, .int .i64 p.1.seq, .int .i64 p.1.kind, .slice p.2.vA p.1.val.length p.2.vc]), Is (.agg #[.slice g.kA x.key.length g.kc, .int .i64 x.seq, .int .i64 x.kind, .slice g.vA x.val.length g.vc]), Is (.int .i64 s), Is (.bool y), Is (.bool y)] (by kernel_rfl) (by kernel_rfl) ?mono (fun f1 => ?obl) ?fin
        case mono =>
          simp only [List.forall_mem_cons, List.not_mem_nil, false_imp_iff, implies_true, and_true]
          exact ⟨.is _, .is _, .is _, .is _, .is _, .is _, .is _, .is _, .is _, .is _, .is _, .is _, .is _⟩
        case fin =>
          intro g1 w3 hu hg
          simp only [puts, Act.put, List.setIfInBounds_toArray, List.set_cons_zero, List.set_cons_succ]
          have h12 : g1 12 = .bool y := hg 12 (by decide)
          rw [h12]
          have HXU : Hid (Ext w1 w3) := Ext.trans HXR.out (Ext.trans (Ext.drew wr) hu)
          have HWU : Hid (Ext wr w3) := Ext.trans (Ext.drew wr) hu
          clear h12 hg hu c0 c1 c2 c3 d0 d1 d2 d3
          cases y with
          | true =>
            go_wp2_with fail
            go_roundw
            case rel =>
              refine ⟨k + 1, by omega, by go_num, Lib.hid (fun j e hj he => ?_), HXU⟩
              by_cases hjk : j = k
              · subst hjk
                rw [List.getElem?_map, HP.out] at he; injection he with he; subst he
                have h1 := of_decide_eq_true HY.out.symm
                rw [aheadE_cmp]; exact decide_eq_true (by have := HS.out; omega)
              · exact HJ.out j e (by omega) he
            case measure => have := HLT.out; simp [intOf]; omega
          | false =>
            have HCUT : Hid (cutOf (aheadE x.key x.seq) (R.map Prod.fst) = k) := cut_is (by rw [List.length_map]; omega) HJ.out (fun e he => by
              rw [List.getElem?_map, HP.out] at he; injection he with he; subst he
              rw [aheadE_cmp]; exact (by have := HS.out; rw [← this]; exact HY.out.symm))
            obtain ⟨y2, hy2⟩ : ∃ y2, y2 = decide (s = 0) := ⟨_, rfl⟩
            have HY2B := Lib.hid hy2
            obtain ⟨d0, d1, d2, d3⟩ := (HE.out.below (Ext.trans HX1.out HXU.out) (Nat.le_refl _)).get HP.out
            have c0 := ext_cell HXU.out (cell_of HBX.out (k := 0) rfl)
            have c1 := ext_cell HXU.out (cell_of HBX.out (k := 1) rfl)
            have c2 := ext_cell HXU.out (cell_of HBX.out (k := 2) rfl)
            have c3 := ext_cell HXU.out (cell_of HBX.out (k := 3) rfl)
            clear hy2
            go_upto_region 6 with (fail)
            refine flow (by kernel_rfl) [Is (.int .i64 (k : Int)), Is (.slice (some ⟨b, o, none⟩) R.length c), Is (.int .i64 (R.length : Int)), Is (.bool true), Is (.bool true), Is (.slice (some ⟨b, o, none⟩) R.length c), Is (.int .i64 (k : Int)), Is (.pointer (some ⟨b, o + k * 4, none⟩)), Is (.agg #[.slice p.2.kA p.1.key.length p.2.kc, .int .i64 p.1.seq, .int .i64 p.1.kind, .slice p.2.vA p.1.val.length p.2.vc]), Is (.agg #[.slice g.kA x.key.length g.kc, .int .i64 x.seq, .int .i64 x.kind, .slice g.vA x.val.length g.vc]), Is (.int .i64 s), Is (.bool y2), Is (.bool y2)] (by kernel_rfl) (by kernel_rfl) ?mono6 (fun f1 => ?obl6) ?fin6
            case mono6 =>
              simp only [List.forall_mem_cons, List.not_mem_nil, false_imp_iff, implies_true, and_true]
              exact ⟨.is _, .is _, .is _, .is _, .is _, .is _, .is _, .is _, .is _, .is _, .is _, .is _, .is _⟩
            case fin6 =>
              intro g1 w5 hu hg
              simp only [puts, Act.put, List.setIfInBounds_toArray, List.set_cons_zero, List.set_cons_succ]
              have h12 : g1 12 = .bool y2 := hg 12 (by decide)
              rw [h12]
              have HX5 : Hid (Ext w w5) := Ext.trans HX1.out (Ext.trans HXU.out (Ext.trans (Ext.drew w3) hu))
              have HY5 : Hid (Ext w1 w5) := Ext.trans HXU.out (Ext.trans (Ext.drew w3) hu)
              clear h12 hg hu c0 c1 c2 c3 d0 d1 d2 d3
              cases y2 with
              | true =>
                go_wp2_with fail
                go_ret2
                have h1 := of_decide_eq_true HY2B.out.symm
                exact ⟨R, _, c, 7, putE_there (e := p.1) HXM.out (by rw [HCUT.out, List.getElem?_map, HP.out]; rfl) (by rw [← HS.out]; exact h1), rfl, HG.out.below HX5.out, HX5.out, fun _ h => .inl h⟩
              | false =>
                have HNE : Hid (∀ e, (R.map Prod.fst)[cutOf (aheadE x.key x.seq) (R.map Prod.fst)]? = some e → cmpE e x ≠ 0) := fun e he => by
                  rw [HCUT.out, List.getElem?_map, HP.out] at he; injection he with he; subst he
                  have h1 := of_decide_eq_false HY2B.out.symm
                  rw [← HS.out]; exact h1
                have HKR : Hid (k ≤ R.length) := hk
                have HC5 : Hid (∀ u, Below (w.heap.size + 1) w5.drew u → u.cell? ⟨w.heap.size, 0, none⟩ = some (.slice g.kA x.key.length g.kc) ∧ u.cell? ⟨w.heap.size, 1, none⟩ = some (.int .i64 x.seq) ∧ u.cell? ⟨w.heap.size, 2, none⟩ = some (.int .i64 x.kind) ∧ u.cell? ⟨w.heap.size, 3, none⟩ = some (.slice g.vA x.val.length g.vc)) := fun u hu => by
                  have hq : ∀ {i : Nat} {v : Value}, w1.cell? ⟨w.heap.size, i, none⟩ = some v → u.cell? ⟨w.heap.size, i, none⟩ = some v := fun h => (hu.cell (by show w.heap.size < w.heap.size + 1; omega)).trans (ext_cell (Ext.trans HY5.out (Ext.drew w5)) h)
                  exact ⟨hq (cell_of HBX.out (k := 0) rfl), hq (cell_of HBX.out (k := 1) rfl), hq (cell_of HBX.out (k := 2) rfl), hq (cell_of HBX.out (k := 3) rfl)⟩
                have HS1 := Lib.hid (fun W => eslice_run0 (some ⟨b, o, none⟩) R.length c k HKR.out HCAP.out.1 W)
                obtain ⟨X, hX⟩ : ∃ X : Option Addr, X = if c = k then (some ⟨b, o, none⟩) else Option.map (fun q : Addr => q.add (k * 4)) (some ⟨b, o, none⟩) := ⟨_, rfl⟩
                have HS2 := Lib.hid (fun W => eslice_from (some ⟨b, o, none⟩) R.length c k HKR.out HCAP.out.1 W)
                rw [← hX] at HS2
                have HEX := Lib.hid hX
                clear hX
                have HXD : Hid (Ext w w5.drew) := Ext.trans HX5.out (Ext.drew w5)
                have HZ5 : Hid (w.heap.size + 1 ≤ w5.drew.heap.size) := by
                  have h1 := (Ext.trans HY5.out (Ext.drew w5)).size
                  have h2 := HZ1.out
                  unfold Hid; omega
                clear hk
                go_upto_region 8 with (fail)
                refine atB_start (B := w.heap.size + 1) (by kernel_rfl) (n := 14) rfl ?_
                generalize w5.drew = w6 at *
                (refine atB_read 0 (v := ?_) rfl (by kernel_rfl) (by kernel_rfl) (by kernel_rfl) (fun _ _ _ h => h) (.inl ⟨by rfl, fun u hu => ?_⟩) ?_; rotate_left; (focus (go_simp; try with_reducible rfl)); simp only [Act.put, List.setIfInBounds_toArray, List.set_cons_zero, List.set_cons_succ])
                (refine atB_read 1 (v := ?_) rfl (by kernel_rfl) (by kernel_rfl) (by kernel_rfl) (fun _ _ _ h => h) (.inl ⟨by rfl, fun u hu => ?_⟩) ?_; rotate_left; (focus (go_simp; try with_reducible rfl)); simp only [Act.put, List.setIfInBounds_toArray, List.set_cons_zero, List.set_cons_succ])
                (refine atB_read 2 (v := ?_) rfl (by kernel_rfl) (by kernel_rfl) (by kernel_rfl) (fun _ _ _ h => h) (.inl ⟨by rfl, fun u hu => ?_⟩) ?_; rotate_left; (focus (have q1 := HS1.out u; go_simp; try with_reducible rfl)); simp only [Act.put, List.setIfInBounds_toArray, List.set_cons_zero, List.set_cons_succ])
                (refine atB_read 4 (v := ?_) rfl (by kernel_rfl) (by kernel_rfl) (by kernel_rfl) (fun _ _ _ h => h) (.inl ⟨by rfl, fun u hu => ?_⟩) ?_; rotate_left; (focus (obtain ⟨q1, q2, q3, q4⟩ := HC5.out u hu; go_simp; try with_reducible rfl)); simp only [Act.put, List.setIfInBounds_toArray, List.set_cons_zero, List.set_cons_succ])
                (refine atB_read 8 (v := ?_) rfl (by kernel_rfl) (by kernel_rfl) (by kernel_rfl) (fun _ _ _ h => h) (.inl ⟨by rfl, fun u hu => ?_⟩) ?_; rotate_left; (focus (go_simp; try with_reducible rfl)); simp only [Act.put, List.setIfInBounds_toArray, List.set_cons_zero, List.set_cons_succ])
                (refine atB_read 9 (v := ?_) rfl (by kernel_rfl) (by kernel_rfl) (by kernel_rfl) (fun _ _ _ h => h) (.inl ⟨by rfl, fun u hu => ?_⟩) ?_; rotate_left; (focus (go_simp; try with_reducible rfl)); simp only [Act.put, List.setIfInBounds_toArray, List.set_cons_zero, List.set_cons_succ])
                (refine atB_read 10 (v := ?_) rfl (by kernel_rfl) (by kernel_rfl) (by kernel_rfl) (fun _ _ _ h => h) (.inl ⟨by rfl, fun u hu => ?_⟩) ?_; rotate_left; (focus (have q1 := HS2.out u; go_simp; try with_reducible rfl)); simp only [Act.put, List.setIfInBounds_toArray, List.set_cons_zero, List.set_cons_succ])
                refine atB_make 3 rfl (by kernel_rfl) (fun K hK => ?_)
                rw [if_pos (by rfl)]
                have hE6 : Es w6 0 w.heap.size (some ⟨b, o, none⟩) R := HE.out.below HXD.out (Nat.le_refl _)
                have hT : (R.take k).length = k := by rw [List.length_take, Nat.min_eq_left HKR.out]
                have hD : (R.drop k).length = R.length - k := List.length_drop ..
                refine wp_addents (.const (.slice none 0 0)) (.tmp 42) rfl (w.heap.size + 1) (.slice none 0 0) [] rfl (World.ownsRow_nil _ _ _ _) 0 w.heap.size (some ⟨b, o, none⟩) c (R.take k) (by rw [hT]; rfl) (hE6.take HKR.out).outer ?_ ?_ HZ5.out ?_
                · intro hA
                  have h1 := HCAP.out.2 hA
                  have h2 := HCAP.out.1
                  have h3 := HKR.out
                  exact ⟨h1, List.eq_nil_of_length_eq_zero (by rw [hT]; omega)⟩
                · rw [hT]; have := HKR.out; have := HL.out; simp; omega
                intro A3 c3' w7 hrow7 hmine7 hbel7
                have HX7 : Hid (Below (w.heap.size + 1) w6 w7) := hbel7 w6 (Below.refl _ _)
                have HR7 : Hid (w7.ownsRow (w.heap.size + 1) 28 4 (.slice A3 (R.take k).length c3') (R.take k).length (erow (R.take k))) := by unfold Hid; simpa using hrow7
                have HM7 : Hid (∀ p ∈ R, Mine B p w7) := fun p hp => hmine7 B p ((HG.out.each p hp).below HXD.out)
                refine hK _ _ HX7.out ?_
                clear hK K hrow7 hmine7 hbel7
                try simp only [Act.put, List.setIfInBounds_toArray, List.set_cons_zero, List.set_cons_succ]
                refine atB_make 5 rfl (by kernel_rfl) (fun K hK => ?_)
                go_simp
                have HY7 : Hid (Ext w w7) := (show Below w.heap.size w w6 from HXD.out).trans (HX7.out.mono (by omega))
                refine Calls.mono (rcopy_any (HM.out.below HY7.out HHI.out) (Nat.le_trans HHI.out HY7.out.size) (by have := HKL.out.1; omega) (by have := HKL.out.2.1; omega)) ?_
                rintro e w8 ⟨hx8, g8, rfl, hk8, hv8⟩
                have HZ7 : Hid (w.heap.size + 1 ≤ w7.heap.size) := Nat.le_trans HZ5.out HX7.out.size
                have HX8 : Hid (Ext w7 w8) := hx8
                have HF8 : Hid (∀ b, (Value.slice g8.kA x.key.length g8.kc).ownBlock = some b ∨ (Value.slice g8.vA x.val.length g8.vc).ownBlock = some b → w.heap.size ≤ b) := fun b hb => by
                  have h7 := HZ7.out
                  rcases hb with hb | hb
                  · have := (row_lt hk8 b hb).1; omega
                  · have := (row_lt hv8 b hb).1; omega
                have HE8 : Hid (Mine B (x, g8) w8) := ⟨hk8.base (by have := HB.out; have := HZ7.out; omega), hv8.base (by have := HB.out; have := HZ7.out; omega), HM.out.good⟩
                refine hK _ _ (HX8.out.mono HZ7.out) ?_
                clear hK K hx8 hk8 hv8
                try simp only [Act.put, List.setIfInBounds_toArray, List.set_cons_zero, List.set_cons_succ]
                refine atB_make 6 rfl (by kernel_rfl) (fun K hK => ?_)
                go_simp
                refine hK _ (w8.alloc (.cells #[.slice g8.kA x.key.length g8.kc, .int .i64 x.seq, .int .i64 x.kind, .slice g8.vA x.val.length g8.vc] 28)) ((ext_alloc w8 _).mono (Nat.le_trans HZ7.out HX8.out.size)) ?_
                clear hK K
                try simp only [Act.put, List.setIfInBounds_toArray, List.set_cons_zero, List.set_cons_succ]
                obtain ⟨w9, hw9⟩ : ∃ w9, w9 = w8.alloc (.cells #[.slice g8.kA x.key.length g8.kc, .int .i64 x.seq, .int .i64 x.kind, .slice g8.vA x.val.length g8.vc] 28) := ⟨_, rfl⟩
                have HX9 : Hid (Ext w8 w9) := by rw [hw9]; exact ext_alloc _ _
                have HB9 : Hid (w9.heap[w8.heap.size]? = some (.cells (ecells (x, g8)).toArray 28 (0, 0))) := by rw [hw9]; exact heap_at _ _ rfl
                rw [← hw9]
                clear hw9
                refine atB_make 7 rfl (by kernel_rfl) (fun K hK => ?_)
                rw [if_pos (by rfl)]
                have HZ9 : Hid (w.heap.size + 1 ≤ w9.heap.size) := Nat.le_trans HZ7.out (Nat.le_trans HX8.out.size HX9.out.size)
                refine wp_addents (.tmp 43) (.tmp 46) rfl (w.heap.size + 1) (.slice A3 (R.take k).length c3') (R.take k) (by rw [hT]; rfl) (rowN_kept HR7.out fun g' hg' => (Ext.trans HX8.out HX9.out).block g' (rowN_lt HR7.out g' hg').2.1) 0 (w8.heap.size + 1) (some ⟨w8.heap.size, 0, none⟩) 1 [(x, g8)] rfl (.inr ⟨w8.heap.size, 0, rfl, Nat.zero_le _, Nat.lt_succ_self _, fun i v hv => ?_⟩) (fun e => by cases e) ?_ HZ9.out ?_
                · rw [Nat.zero_add]; exact cell_of HB9.out (by simpa [erow] using hv)
                · have := HL.out; have h := List.length_take_le' k R; simp only [List.length_cons, List.length_nil]; omega
                intro A10 c10 w10 hrow10 hmine10 hbel10
                have HX10 : Hid (Below (w.heap.size + 1) w9 w10) := hbel10 w9 (Below.refl _ _)
                have HR10 := Lib.hid hrow10
                have HM10 : Hid ((∀ p ∈ R, Mine B p w10) ∧ Mine B (x, g8) w10) := ⟨fun p hp => hmine10 B p (((HM7.out p hp).below HX8.out).below HX9.out), hmine10 B _ (HE8.out.below HX9.out)⟩
                have HZ10 : Hid (w.heap.size + 1 ≤ w10.heap.size) := Nat.le_trans HZ9.out HX10.out.size
                have HXA : Hid (Below (w.heap.size + 1) w6 w10) := HX7.out.trans ((HX8.out.mono HZ7.out).trans ((HX9.out.mono (Nat.le_trans HZ7.out HX8.out.size)).trans HX10.out))
                refine hK _ _ HX10.out ?_
                clear hK K hrow10 hmine10 hbel10
                try simp only [Act.put, List.setIfInBounds_toArray, List.set_cons_zero, List.set_cons_succ]
                refine atB_make 11 rfl (by kernel_rfl) (fun K hK => ?_)
                rw [if_pos (by rfl)]
                have hD : (R.drop k).length = R.length - k := List.length_drop ..
                have hE10 : Es w10 0 w.heap.size (some ⟨b, o, none⟩) R := hE6.below (HXA.out.mono (Nat.le_succ _)) (Nat.le_refl _)
                refine wp_addents (.tmp 47) (.tmp 50) rfl (w.heap.size + 1) (.slice A10 (R.take k ++ [(x, g8)]).length c10) (R.take k ++ [(x, g8)]) rfl HR10.out 0 w.heap.size X (c - k) (R.drop k) (by rw [hD]; rfl) (by rw [HEX.out]; exact (hE10.drop HKR.out HCAP.out.1).outer) ?_ ?_ HZ10.out ?_
                · rw [HEX.out]
                  intro hA
                  have h1 := HCAP.out.2
                  have h2 := HCAP.out.1
                  have h3 := HKR.out
                  by_cases hck : c = k
                  · exact ⟨by omega, List.eq_nil_of_length_eq_zero (by rw [hD]; omega)⟩
                  · rw [if_neg hck] at hA
                    simp at hA
                · have := HL.out; have h := List.length_take_le' k R; have := HKR.out; rw [hD]; simp only [List.length_append, List.length_cons, List.length_nil, List.length_take]; omega
                intro A11 c11 w11 hrow11 hmine11 hbel11
                have HX11 : Hid (Below (w.heap.size + 1) w10 w11) := hbel11 w10 (Below.refl _ _)
                have HR11 := Lib.hid hrow11
                have HM11 : Hid ((∀ p ∈ R, Mine B p w11) ∧ Mine B (x, g8) w11) := ⟨fun p hp => hmine11 B p (HM10.out.1 p hp), hmine11 B _ HM10.out.2⟩
                refine hK _ _ HX11.out ?_
                clear hK K hrow11 hmine11 hbel11 hE10 hE6 hT hD
                try simp only [Act.put, List.setIfInBounds_toArray, List.set_cons_zero, List.set_cons_succ]
                obtain ⟨n12, hn12⟩ : ∃ n12, n12 = (R.take k ++ [(x, g8)] ++ R.drop k).length := ⟨_, rfl⟩
                have HN12 := Lib.hid hn12
                rw [← hn12]
                clear hn12
                (refine atB_read 12 (v := ?_) rfl (by kernel_rfl) (by kernel_rfl) (by kernel_rfl) (fun _ _ _ h => h) (.inl ⟨by rfl, fun u hu => ?_⟩) ?_; rotate_left; (focus (go_simp; try with_reducible rfl)); simp only [Act.put, List.setIfInBounds_toArray, List.set_cons_zero, List.set_cons_succ])
                (refine atB_read 13 (v := ?_) rfl (by kernel_rfl) (by kernel_rfl) (by kernel_rfl) (fun _ _ _ h => h) (.inl ⟨by rfl, fun u hu => ?_⟩) ?_; rotate_left; (focus (go_simp; try with_reducible rfl)); simp only [Act.put, List.setIfInBounds_toArray, List.set_cons_zero, List.set_cons_succ])
                refine atB_done (by kernel_rfl) ?_
                go_wp2_with fail
                go_ret2
                refine ⟨R.take k ++ [(x, g8)] ++ R.drop k, A11, c11, 0, ?_, by rw [← HN12.out]; rfl, ⟨rowN_base HR11.out (by have := HB.out; omega), fun p hp => ?_⟩, (show Below w.heap.size w w6 from HXD.out).trans ((HXA.out.trans HX11.out).mono (Nat.le_succ _)), fun b hb => ?_⟩
                · rw [putE_new HXM.out HNE.out, HCUT.out]
                  simp [List.map_take, List.map_drop]
                · rcases List.mem_append.1 hp with hp | hp
                  · rcases List.mem_append.1 hp with hp | hp
                    · exact HM11.out.1 p (List.mem_of_mem_take hp)
                    · rw [List.mem_singleton] at hp; subst hp; exact HM11.out.2
                  · exact HM11.out.1 p (List.mem_of_mem_drop hp)
                · rcases hb with hb | ⟨p, hp, hb⟩
                  · exact .inr (Nat.le_trans (Nat.le_succ _) (rowN_lt HR11.out b hb).1)
                  · rcases List.mem_append.1 hp with hp | hp
                    · rcases List.mem_append.1 hp with hp | hp
                      · exact .inl (.inr ⟨p, List.mem_of_mem_take hp, hb⟩)
                      · rw [List.mem_singleton] at hp; subst hp; exact .inr (HF8.out b hb)
                    · exact .inl (.inr ⟨p, List.mem_of_mem_drop hp, hb⟩)
            case obl6 =>
              refine ⟨fun u hu hd => ?_, ?_⟩
              · go_simp
                exact ⟨Ext.refl _, rfl⟩
              refine ⟨fun u hu hd => ?_, ?_⟩
              · simp only [Act.put, List.setIfInBounds_toArray, List.set_cons_zero, List.set_cons_succ]
                go_simp
                exact ⟨Ext.refl _, rfl⟩
              refine ⟨fun u hu hd => ?_, ?_⟩
              · simp only [Act.put, List.setIfInBounds_toArray, List.set_cons_zero, List.set_cons_succ]
                have e1 : f1 1 = .slice (some ⟨b, o, none⟩) R.length c := hd 1 (by kernel_rfl)
                go_simp
                exact ⟨Ext.refl _, rfl⟩
              refine ⟨fun u hu hd => ?_, ?_⟩
              · simp only [Act.put, List.setIfInBounds_toArray, List.set_cons_zero, List.set_cons_succ]
                have e0 : f1 0 = .int .i64 (k : Int) := hd 0 (by kernel_rfl)
                have e2 : f1 2 = .int .i64 (R.length : Int) := hd 2 (by kernel_rfl)
                go_simp
                exact ⟨Ext.refl _, rfl⟩
              refine ⟨fun u hu hd => ?_, ?_⟩
              · simp only [Act.put, List.setIfInBounds_toArray, List.set_cons_zero, List.set_cons_succ]
                have e3 : f1 3 = .bool true := hd 3 (by kernel_rfl)
                go_simp
                exact ⟨Ext.refl _, rfl⟩
              refine ⟨fun u hu hd => ?_, ?_⟩
              · simp only [Act.put, List.setIfInBounds_toArray, List.set_cons_zero, List.set_cons_succ]
                have e4 : f1 4 = .bool true := hd 4 (by kernel_rfl)
                go_simp
                exact ⟨Ext.refl _, rfl⟩
              refine ⟨fun u hu hd => ?_, ?_⟩
              · simp only [Act.put, List.setIfInBounds_toArray, List.set_cons_zero, List.set_cons_succ]
                have e4 : f1 4 = .bool true := hd 4 (by kernel_rfl)
                go_simp
                exact ⟨Ext.refl _, rfl⟩
              refine ⟨fun u hu hd => ?_, ?_⟩
              · simp only [Act.put, List.setIfInBounds_toArray, List.set_cons_zero, List.set_cons_succ]
                have e4 : f1 4 = .bool true := hd 4 (by kernel_rfl)
                have e5 : f1 5 = .slice (some ⟨b, o, none⟩) R.length c := hd 5 (by kernel_rfl)
                have e6 : f1 6 = .int .i64 (k : Int) := hd 6 (by kernel_rfl)
                go_simp
                exact ⟨Ext.refl _, rfl⟩
              refine ⟨fun u hu hd => ?_, ?_⟩
              · simp only [Act.put, List.setIfInBounds_toArray, List.set_cons_zero, List.set_cons_succ]
                have e4 : f1 4 = .bool true := hd 4 (by kernel_rfl)
                have e7 : f1 7 = .pointer (some ⟨b, o + k * 4, none⟩) := hd 7 (by kernel_rfl)
                have hu2 := Ext.trans (Ext.drew w3) hu
                have q0 := ext_cell hu2 d0
                have q1 := ext_cell hu2 d1
                have q2 := ext_cell hu2 d2
                have q3 := ext_cell hu2 d3
                go_simp
                exact ⟨Ext.refl _, rfl⟩
              refine ⟨fun u hu hd => ?_, ?_⟩
              · simp only [Act.put, List.setIfInBounds_toArray, List.set_cons_zero, List.set_cons_succ]
                have e4 : f1 4 = .bool true := hd 4 (by kernel_rfl)
                have hu2 := Ext.trans (Ext.drew w3) hu
                have q0 := ext_cell hu2 c0
                have q1 := ext_cell hu2 c1
                have q2 := ext_cell hu2 c2
                have q3 := ext_cell hu2 c3
                go_simp
                exact ⟨Ext.refl _, rfl⟩
              refine ⟨fun u hu hd => ?_, ?_⟩
              · simp only [Act.put, List.setIfInBounds_toArray, List.set_cons_zero, List.set_cons_succ]
                have e4 : f1 4 = .bool true := hd 4 (by kernel_rfl)
                have e8 : f1 8 = .agg #[.slice p.2.kA p.1.key.length p.2.kc, .int .i64 p.1.seq, .int .i64 p.1.kind, .slice p.2.vA p.1.val.length p.2.vc] := hd 8 (by kernel_rfl)
                have e9 : f1 9 = .agg #[.slice g.kA x.key.length g.kc, .int .i64 x.seq, .int .i64 x.kind, .slice g.vA x.val.length g.vc] := hd 9 (by kernel_rfl)
                have hu2 := Ext.trans (Ext.drew w3) hu
                obtain ⟨m1, m2, m3, m4⟩ := HWW.out u (Ext.trans HWU.out hu2)
                go_simp
                refine (rcompare_any m1 m2 m3 m4 HPL.out (by have := HKL.out.1; omega)).mono ?_
                rintro x9 w9 ⟨rfl, hx9⟩
                exact ⟨_, rfl, hx9, by rw [HS.out]; rfl⟩
              refine ⟨fun u hu hd => ?_, ?_⟩
              · simp only [Act.put, List.setIfInBounds_toArray, List.set_cons_zero, List.set_cons_succ]
                have e4 : f1 4 = .bool true := hd 4 (by kernel_rfl)
                have e10 : f1 10 = .int .i64 s := hd 10 (by kernel_rfl)
                have q1 : (s == 0) = y2 := by rw [HY2B.out]; rfl
                go_simp
                exact ⟨Ext.refl _, rfl⟩
              refine ⟨fun u hu hd => ?_, ?_⟩
              · simp only [Act.put, List.setIfInBounds_toArray, List.set_cons_zero, List.set_cons_succ]
                have e4 : f1 4 = .bool true := hd 4 (by kernel_rfl)
                have e11 : f1 11 = .bool y2 := hd 11 (by kernel_rfl)
                go_simp
                exact ⟨Ext.refl _, rfl⟩
              trivial
        case obl =>
          refine ⟨fun u hu hd => ?_, ?_⟩
          · go_simp
            exact ⟨Ext.refl _, rfl⟩
          refine ⟨fun u hu hd => ?_, ?_⟩
          · simp only [Act.put, List.setIfInBounds_toArray, List.set_cons_zero, List.set_cons_succ]
            go_simp
            exact ⟨Ext.refl _, rfl⟩
          refine ⟨fun u hu hd => ?_, ?_⟩
          · simp only [Act.put, List.setIfInBounds_toArray, List.set_cons_zero, List.set_cons_succ]
            have e1 : f1 1 = .slice (some ⟨b, o, none⟩) R.length c := hd 1 (by kernel_rfl)
            go_simp
            exact ⟨Ext.refl _, rfl⟩
          refine ⟨fun u hu hd => ?_, ?_⟩
          · simp only [Act.put, List.setIfInBounds_toArray, List.set_cons_zero, List.set_cons_succ]
            have e0 : f1 0 = .int .i64 (k : Int) := hd 0 (by kernel_rfl)
            have e2 : f1 2 = .int .i64 (R.length : Int) := hd 2 (by kernel_rfl)
            go_simp
            exact ⟨Ext.refl _, rfl⟩
          refine ⟨fun u hu hd => ?_, ?_⟩
          · simp only [Act.put, List.setIfInBounds_toArray, List.set_cons_zero, List.set_cons_succ]
            have e3 : f1 3 = .bool true := hd 3 (by kernel_rfl)
            go_simp
            exact ⟨Ext.refl _, rfl⟩
          refine ⟨fun u hu hd => ?_, ?_⟩
          · simp only [Act.put, List.setIfInBounds_toArray, List.set_cons_zero, List.set_cons_succ]
            have e4 : f1 4 = .bool true := hd 4 (by kernel_rfl)
            go_simp
            exact ⟨Ext.refl _, rfl⟩
          refine ⟨fun u hu hd => ?_, ?_⟩
          · simp only [Act.put, List.setIfInBounds_toArray, List.set_cons_zero, List.set_cons_succ]
            have e4 : f1 4 = .bool true := hd 4 (by kernel_rfl)
            go_simp
            exact ⟨Ext.refl _, rfl⟩
          refine ⟨fun u hu hd => ?_, ?_⟩
          · simp only [Act.put, List.setIfInBounds_toArray, List.set_cons_zero, List.set_cons_succ]
            have e4 : f1 4 = .bool true := hd 4 (by kernel_rfl)
            have e5 : f1 5 = .slice (some ⟨b, o, none⟩) R.length c := hd 5 (by kernel_rfl)
            have e6 : f1 6 = .int .i64 (k : Int) := hd 6 (by kernel_rfl)
            go_simp
            exact ⟨Ext.refl _, rfl⟩
          refine ⟨fun u hu hd => ?_, ?_⟩
          · simp only [Act.put, List.setIfInBounds_toArray, List.set_cons_zero, List.set_cons_succ]
            have e4 : f1 4 = .bool true := hd 4 (by kernel_rfl)
            have e7 : f1 7 = .pointer (some ⟨b, o + k * 4, none⟩) := hd 7 (by kernel_rfl)
            have hu2 := Ext.trans (Ext.drew wr) hu
            have q0 := ext_cell hu2 d0
            have q1 := ext_cell hu2 d1
            have q2 := ext_cell hu2 d2
            have q3 := ext_cell hu2 d3
            go_simp
            exact ⟨Ext.refl _, rfl⟩
          refine ⟨fun u hu hd => ?_, ?_⟩
          · simp only [Act.put, List.setIfInBounds_toArray, List.set_cons_zero, List.set_cons_succ]
            have e4 : f1 4 = .bool true := hd 4 (by kernel_rfl)
            have hu2 := Ext.trans (Ext.drew wr) hu
            have q0 := ext_cell hu2 c0
            have q1 := ext_cell hu2 c1
            have q2 := ext_cell hu2 c2
            have q3 := ext_cell hu2 c3
            go_simp
            exact ⟨Ext.refl _, rfl⟩
          refine ⟨fun u hu hd => ?_, ?_⟩
          · simp only [Act.put, List.setIfInBounds_toArray, List.set_cons_zero, List.set_cons_succ]
            have e4 : f1 4 = .bool true := hd 4 (by kernel_rfl)
            have e8 : f1 8 = .agg #[.slice p.2.kA p.1.key.length p.2.kc, .int .i64 p.1.seq, .int .i64 p.1.kind, .slice p.2.vA p.1.val.length p.2.vc] := hd 8 (by kernel_rfl)
            have e9 : f1 9 = .agg #[.slice g.kA x.key.length g.kc, .int .i64 x.seq, .int .i64 x.kind, .slice g.vA x.val.length g.vc] := hd 9 (by kernel_rfl)
            have hu2 := Ext.trans (Ext.drew wr) hu
            obtain ⟨m1, m2, m3, m4⟩ := HWW.out u hu2
            go_simp
            refine (rcompare_any m1 m2 m3 m4 HPL.out (by have := HKL.out.1; omega)).mono ?_
            rintro x9 w9 ⟨rfl, hx9⟩
            exact ⟨_, rfl, hx9, by rw [HS.out]; rfl⟩
          refine ⟨fun u hu hd => ?_, ?_⟩
          · simp only [Act.put, List.setIfInBounds_toArray, List.set_cons_zero, List.set_cons_succ]
            have e4 : f1 4 = .bool true := hd 4 (by kernel_rfl)
            have e10 : f1 10 = .int .i64 s := hd 10 (by kernel_rfl)
            have q1 := HY.out.symm
            go_simp
            exact ⟨Ext.refl _, rfl⟩
          refine ⟨fun u hu hd => ?_, ?_⟩
          · simp only [Act.put, List.setIfInBounds_toArray, List.set_cons_zero, List.set_cons_succ]
            have e4 : f1 4 = .bool true := hd 4 (by kernel_rfl)
            have e11 : f1 11 = .bool y := hd 11 (by kernel_rfl)
            go_simp
            exact ⟨Ext.refl _, rfl⟩
          trivial
      · have d : decide ((k : Int) < (R.length : Int)) = false := decide_eq_false (by omega)
        have dn : decide (k < R.length) = false := decide_eq_false hlt
        have HKE : Hid (k = R.length) := by unfold Hid; omega
        go_upto_region 4 with (fail)
        refine flow (by kernel_rfl) [Is (.int .i64 (k : Int)), Is (.slice A R.length c), Is (.int .i64 (R.length : Int)), Is (.bool false), Is (.bool false), Is undef, Is undef, Is undef, Is undef, Is undef, Is undef, Is undef, Is (.bool false)] (by kernel_rfl) (by kernel_rfl) ?mono (fun f1 => ?obl) ?fin
        case mono =>
          simp only [List.forall_mem_cons, List.not_mem_nil, false_imp_iff, implies_true, and_true]
          exact ⟨.is _, .is _, .is _, .is _, .is _, .is _, .is _, .is _, .is _, .is _, .is _, .is _, .is _⟩
        case fin =>
          intro g1 w3 hu hg
          simp only [puts, Act.put, List.setIfInBounds_toArray, List.set_cons_zero, List.set_cons_succ]
          have h12 : g1 12 = .bool false := hg 12 (by decide)
          rw [h12]
          have HXU : Hid (Ext w1 w3) := Ext.trans HXR.out (Ext.trans (Ext.drew wr) hu)
          clear h12 hg hu
          have HCUT : Hid (cutOf (aheadE x.key x.seq) (R.map Prod.fst) = k) := cut_is (by rw [List.length_map]; omega) HJ.out (fun e he => by
            rw [List.getElem?_eq_none (by rw [List.length_map]; exact Nat.le_of_eq HKE.out.symm)] at he; cases he)
          go_upto_region 6 with (fail)
          refine flow (by kernel_rfl) [Is (.int .i64 (k : Int)), Is (.slice A R.length c), Is (.int .i64 (R.length : Int)), Is (.bool false), Is (.bool false), Is undef, Is undef, Is undef, Is undef, Is undef, Is undef, Is undef, Is (.bool false)] (by kernel_rfl) (by kernel_rfl) ?mono6 (fun f1 => ?obl6) ?fin6
          case mono6 =>
            simp only [List.forall_mem_cons, List.not_mem_nil, false_imp_iff, implies_true, and_true]
            exact ⟨.is _, .is _, .is _, .is _, .is _, .is _, .is _, .is _, .is _, .is _, .is _, .is _, .is _⟩
          case fin6 =>
            intro g1 w5 hu hg
            simp only [puts, Act.put, List.setIfInBounds_toArray, List.set_cons_zero, List.set_cons_succ]
            have h12 : g1 12 = .bool false := hg 12 (by decide)
            rw [h12]
            have HX5 : Hid (Ext w w5) := Ext.trans HX1.out (Ext.trans HXU.out (Ext.trans (Ext.drew w3) hu))
            have HY5 : Hid (Ext w1 w5) := Ext.trans HXU.out (Ext.trans (Ext.drew w3) hu)
            clear h12 hg hu
            have HNE : Hid (∀ e, (R.map Prod.fst)[cutOf (aheadE x.key x.seq) (R.map Prod.fst)]? = some e → cmpE e x ≠ 0) := fun e he => by
              rw [HCUT.out, List.getElem?_eq_none (by rw [List.length_map]; exact Nat.le_of_eq HKE.out.symm)] at he; cases he
            have HE : Hid (Es w 0 w.heap.size A R) := HG.out.rs
            have HKR : Hid (k ≤ R.length) := hk
            have HC5 : Hid (∀ u, Below (w.heap.size + 1) w5.drew u → u.cell? ⟨w.heap.size, 0, none⟩ = some (.slice g.kA x.key.length g.kc) ∧ u.cell? ⟨w.heap.size, 1, none⟩ = some (.int .i64 x.seq) ∧ u.cell? ⟨w.heap.size, 2, none⟩ = some (.int .i64 x.kind) ∧ u.cell? ⟨w.heap.size, 3, none⟩ = some (.slice g.vA x.val.length g.vc)) := fun u hu => by
              have hq : ∀ {i : Nat} {v : Value}, w1.cell? ⟨w.heap.size, i, none⟩ = some v → u.cell? ⟨w.heap.size, i, none⟩ = some v := fun h => (hu.cell (by show w.heap.size < w.heap.size + 1; omega)).trans (ext_cell (Ext.trans HY5.out (Ext.drew w5)) h)
              exact ⟨hq (cell_of HBX.out (k := 0) rfl), hq (cell_of HBX.out (k := 1) rfl), hq (cell_of HBX.out (k := 2) rfl), hq (cell_of HBX.out (k := 3) rfl)⟩
            have HS1 := Lib.hid (fun W => eslice_run0 A R.length c k HKR.out HCAP.out.1 W)
            obtain ⟨X, hX⟩ : ∃ X : Option Addr, X = if c = k then A else Option.map (fun q : Addr => q.add (k * 4)) A := ⟨_, rfl⟩
            have HS2 := Lib.hid (fun W => eslice_from A R.length c k HKR.out HCAP.out.1 W)
            rw [← hX] at HS2
            have HEX := Lib.hid hX
            clear hX
            have HXD : Hid (Ext w w5.drew) := Ext.trans HX5.out (Ext.drew w5)
            have HZ5 : Hid (w.heap.size + 1 ≤ w5.drew.heap.size) := by
              have h1 := (Ext.trans HY5.out (Ext.drew w5)).size
              have h2 := HZ1.out
              unfold Hid; omega
            clear hk
            go_upto_region 8 with (fail)
            refine atB_start (B := w.heap.size + 1) (by kernel_rfl) (n := 14) rfl ?_
            generalize w5.drew = w6 at *
            (refine atB_read 0 (v := ?_) rfl (by kernel_rfl) (by kernel_rfl) (by kernel_rfl) (fun _ _ _ h => h) (.inl ⟨by rfl, fun u hu => ?_⟩) ?_; rotate_left; (focus (go_simp; try with_reducible rfl)); simp only [Act.put, List.setIfInBounds_toArray, List.set_cons_zero, List.set_cons_succ])
            (refine atB_read 1 (v := ?_) rfl (by kernel_rfl) (by kernel_rfl) (by kernel_rfl) (fun _ _ _ h => h) (.inl ⟨by rfl, fun u hu => ?_⟩) ?_; rotate_left; (focus (go_simp; try with_reducible rfl)); simp only [Act.put, List.setIfInBounds_toArray, List.set_cons_zero, List.set_cons_succ])
            (refine atB_read 2 (v := ?_) rfl (by kernel_rfl) (by kernel_rfl) (by kernel_rfl) (fun _ _ _ h => h) (.inl ⟨by rfl, fun u hu => ?_⟩) ?_; rotate_left; (focus (have q1 := HS1.out u; go_simp; try with_reducible rfl)); simp only [Act.put, List.setIfInBounds_toArray, List.set_cons_zero, List.set_cons_succ])
            (refine atB_read 4 (v := ?_) rfl (by kernel_rfl) (by kernel_rfl) (by kernel_rfl) (fun _ _ _ h => h) (.inl ⟨by rfl, fun u hu => ?_⟩) ?_; rotate_left; (focus (obtain ⟨q1, q2, q3, q4⟩ := HC5.out u hu; go_simp; try with_reducible rfl)); simp only [Act.put, List.setIfInBounds_toArray, List.set_cons_zero, List.set_cons_succ])
            (refine atB_read 8 (v := ?_) rfl (by kernel_rfl) (by kernel_rfl) (by kernel_rfl) (fun _ _ _ h => h) (.inl ⟨by rfl, fun u hu => ?_⟩) ?_; rotate_left; (focus (go_simp; try with_reducible rfl)); simp only [Act.put, List.setIfInBounds_toArray, List.set_cons_zero, List.set_cons_succ])
            (refine atB_read 9 (v := ?_) rfl (by kernel_rfl) (by kernel_rfl) (by kernel_rfl) (fun _ _ _ h => h) (.inl ⟨by rfl, fun u hu => ?_⟩) ?_; rotate_left; (focus (go_simp; try with_reducible rfl)); simp only [Act.put, List.setIfInBounds_toArray, List.set_cons_zero, List.set_cons_succ])
            (refine atB_read 10 (v := ?_) rfl (by kernel_rfl) (by kernel_rfl) (by kernel_rfl) (fun _ _ _ h => h) (.inl ⟨by rfl, fun u hu => ?_⟩) ?_; rotate_left; (focus (have q1 := HS2.out u; go_simp; try with_reducible rfl)); simp only [Act.put, List.setIfInBounds_toArray, List.set_cons_zero, List.set_cons_succ])
            refine atB_make 3 rfl (by kernel_rfl) (fun K hK => ?_)
            rw [if_pos (by rfl)]
            have hE6 : Es w6 0 w.heap.size A R := HE.out.below HXD.out (Nat.le_refl _)
            have hT : (R.take k).length = k := by rw [List.length_take, Nat.min_eq_left HKR.out]
            have hD : (R.drop k).length = R.length - k := List.length_drop ..
            refine wp_addents (.const (.slice none 0 0)) (.tmp 42) rfl (w.heap.size + 1) (.slice none 0 0) [] rfl (World.ownsRow_nil _ _ _ _) 0 w.heap.size A c (R.take k) (by rw [hT]; rfl) (hE6.take HKR.out).outer ?_ ?_ HZ5.out ?_
            · intro hA
              have h1 := HCAP.out.2 hA
              have h2 := HCAP.out.1
              have h3 := HKR.out
              exact ⟨h1, List.eq_nil_of_length_eq_zero (by rw [hT]; omega)⟩
            · rw [hT]; have := HKR.out; have := HL.out; simp; omega
            intro A3 c3' w7 hrow7 hmine7 hbel7
            have HX7 : Hid (Below (w.heap.size + 1) w6 w7) := hbel7 w6 (Below.refl _ _)
            have HR7 : Hid (w7.ownsRow (w.heap.size + 1) 28 4 (.slice A3 (R.take k).length c3') (R.take k).length (erow (R.take k))) := by unfold Hid; simpa using hrow7
            have HM7 : Hid (∀ p ∈ R, Mine B p w7) := fun p hp => hmine7 B p ((HG.out.each p hp).below HXD.out)
            refine hK _ _ HX7.out ?_
            clear hK K hrow7 hmine7 hbel7
            try simp only [Act.put, List.setIfInBounds_toArray, List.set_cons_zero, List.set_cons_succ]
            refine atB_make 5 rfl (by kernel_rfl) (fun K hK => ?_)
            go_simp
            have HY7 : Hid (Ext w w7) := (show Below w.heap.size w w6 from HXD.out).trans (HX7.out.mono (by omega))
            refine Calls.mono (rcopy_any (HM.out.below HY7.out HHI.out) (Nat.le_trans HHI.out HY7.out.size) (by have := HKL.out.1; omega) (by have := HKL.out.2.1; omega)) ?_
            rintro e w8 ⟨hx8, g8, rfl, hk8, hv8⟩
            have HZ7 : Hid (w.heap.size + 1 ≤ w7.heap.size) := Nat.le_trans HZ5.out HX7.out.size
            have HX8 : Hid (Ext w7 w8) := hx8
            have HF8 : Hid (∀ b, (Value.slice g8.kA x.key.length g8.kc).ownBlock = some b ∨ (Value.slice g8.vA x.val.length g8.vc).ownBlock = some b → w.heap.size ≤ b) := fun b hb => by
              have h7 := HZ7.out
              rcases hb with hb | hb
              · have := (row_lt hk8 b hb).1; omega
              · have := (row_lt hv8 b hb).1; omega
            have HE8 : Hid (Mine B (x, g8) w8) := ⟨hk8.base (by have := HB.out; have := HZ7.out; omega), hv8.base (by have := HB.out; have := HZ7.out; omega), HM.out.good⟩
            refine hK _ _ (HX8.out.mono HZ7.out) ?_
            clear hK K hx8 hk8 hv8
            try simp only [Act.put, List.setIfInBounds_toArray, List.set_cons_zero, List.set_cons_succ]
            refine atB_make 6 rfl (by kernel_rfl) (fun K hK => ?_)
            go_simp
            refine hK _ (w8.alloc (.cells #[.slice g8.kA x.key.length g8.kc, .int .i64 x.seq, .int .i64 x.kind, .slice g8.vA x.val.length g8.vc] 28)) ((ext_alloc w8 _).mono (Nat.le_trans HZ7.out HX8.out.size)) ?_
            clear hK K
            try simp only [Act.put, List.setIfInBounds_toArray, List.set_cons_zero, List.set_cons_succ]
            obtain ⟨w9, hw9⟩ : ∃ w9, w9 = w8.alloc (.cells #[.slice g8.kA x.key.length g8.kc, .int .i64 x.seq, .int .i64 x.kind, .slice g8.vA x.val.length g8.vc] 28) := ⟨_, rfl⟩
            have HX9 : Hid (Ext w8 w9) := by rw [hw9]; exact ext_alloc _ _
            have HB9 : Hid (w9.heap[w8.heap.size]? = some (.cells (ecells (x, g8)).toArray 28 (0, 0))) := by rw [hw9]; exact heap_at _ _ rfl
            rw [← hw9]
            clear hw9
            refine atB_make 7 rfl (by kernel_rfl) (fun K hK => ?_)
            rw [if_pos (by rfl)]
            have HZ9 : Hid (w.heap.size + 1 ≤ w9.heap.size) := Nat.le_trans HZ7.out (Nat.le_trans HX8.out.size HX9.out.size)
            refine wp_addents (.tmp 43) (.tmp 46) rfl (w.heap.size + 1) (.slice A3 (R.take k).length c3') (R.take k) (by rw [hT]; rfl) (rowN_kept HR7.out fun g' hg' => (Ext.trans HX8.out HX9.out).block g' (rowN_lt HR7.out g' hg').2.1) 0 (w8.heap.size + 1) (some ⟨w8.heap.size, 0, none⟩) 1 [(x, g8)] rfl (.inr ⟨w8.heap.size, 0, rfl, Nat.zero_le _, Nat.lt_succ_self _, fun i v hv => ?_⟩) (fun e => by cases e) ?_ HZ9.out ?_
            · rw [Nat.zero_add]; exact cell_of HB9.out (by simpa [erow] using hv)
            · have := HL.out; have h := List.length_take_le' k R; simp only [List.length_cons, List.length_nil]; omega
            intro A10 c10 w10 hrow10 hmine10 hbel10
            have HX10 : Hid (Below (w.heap.size + 1) w9 w10) := hbel10 w9 (Below.refl _ _)
            have HR10 := Lib.hid hrow10
            have HM10 : Hid ((∀ p ∈ R, Mine B p w10) ∧ Mine B (x, g8) w10) := ⟨fun p hp => hmine10 B p (((HM7.out p hp).below HX8.out).below HX9.out), hmine10 B _ (HE8.out.below HX9.out)⟩
            have HZ10 : Hid (w.heap.size + 1 ≤ w10.heap.size) := Nat.le_trans HZ9.out HX10.out.size
            have HXA : Hid (Below (w.heap.size + 1) w6 w10) := HX7.out.trans ((HX8.out.mono HZ7.out).trans ((HX9.out.mono (Nat.le_trans HZ7.out HX8.out.size)).trans HX10.out))
            refine hK _ _ HX10.out ?_
            clear hK K hrow10 hmine10 hbel10
            try simp only [Act.put, List.setIfInBounds_toArray, List.set_cons_zero, List.set_cons_succ]
            refine atB_make 11 rfl (by kernel_rfl) (fun K hK => ?_)
            rw [if_pos (by rfl)]
            have hD : (R.drop k).length = R.length - k := List.length_drop ..
            have hE10 : Es w10 0 w.heap.size A R := hE6.below (HXA.out.mono (Nat.le_succ _)) (Nat.le_refl _)
            refine wp_addents (.tmp 47) (.tmp 50) rfl (w.heap.size + 1) (.slice A10 (R.take k ++ [(x, g8)]).length c10) (R.take k ++ [(x, g8)]) rfl HR10.out 0 w.heap.size X (c - k) (R.drop k) (by rw [hD]; rfl) (by rw [HEX.out]; exact (hE10.drop HKR.out HCAP.out.1).outer) ?_ ?_ HZ10.out ?_
            · rw [HEX.out]
              intro hA
              have h1 := HCAP.out.2
              have h2 := HCAP.out.1
              have h3 := HKR.out
              by_cases hck : c = k
              · exact ⟨by omega, List.eq_nil_of_length_eq_zero (by rw [hD]; omega)⟩
              · rw [if_neg hck] at hA
                cases A with
                | none => have := h1 rfl; omega
                | some a => simp at hA
            · have := HL.out; have h := List.length_take_le' k R; have := HKR.out; rw [hD]; simp only [List.length_append, List.length_cons, List.length_nil, List.length_take]; omega
            intro A11 c11 w11 hrow11 hmine11 hbel11
            have HX11 : Hid (Below (w.heap.size + 1) w10 w11) := hbel11 w10 (Below.refl _ _)
            have HR11 := Lib.hid hrow11
            have HM11 : Hid ((∀ p ∈ R, Mine B p w11) ∧ Mine B (x, g8) w11) := ⟨fun p hp => hmine11 B p (HM10.out.1 p hp), hmine11 B _ HM10.out.2⟩
            refine hK _ _ HX11.out ?_
            clear hK K hrow11 hmine11 hbel11 hE10 hE6 hT hD
            try simp only [Act.put, List.setIfInBounds_toArray, List.set_cons_zero, List.set_cons_succ]
            obtain ⟨n12, hn12⟩ : ∃ n12, n12 = (R.take k ++ [(x, g8)] ++ R.drop k).length := ⟨_, rfl⟩
            have HN12 := Lib.hid hn12
            rw [← hn12]
            clear hn12
            (refine atB_read 12 (v := ?_) rfl (by kernel_rfl) (by kernel_rfl) (by kernel_rfl) (fun _ _ _ h => h) (.inl ⟨by rfl, fun u hu => ?_⟩) ?_; rotate_left; (focus (go_simp; try with_reducible rfl)); simp only [Act.put, List.setIfInBounds_toArray, List.set_cons_zero, List.set_cons_succ])
            (refine atB_read 13 (v := ?_) rfl (by kernel_rfl) (by kernel_rfl) (by kernel_rfl) (fun _ _ _ h => h) (.inl ⟨by rfl, fun u hu => ?_⟩) ?_; rotate_left; (focus (go_simp; try with_reducible rfl)); simp only [Act.put, List.setIfInBounds_toArray, List.set_cons_zero, List.set_cons_succ])
            refine atB_done (by kernel_rfl) ?_
            go_wp2_with fail
            go_ret2
            refine ⟨R.take k ++ [(x, g8)] ++ R.drop k, A11, c11, 0, ?_, by rw [← HN12.out]; rfl, ⟨rowN_base HR11.out (by have := HB.out; omega), fun p hp => ?_⟩, (show Below w.heap.size w w6 from HXD.out).trans ((HXA.out.trans HX11.out).mono (Nat.le_succ _)), fun b hb => ?_⟩
            · rw [putE_new HXM.out HNE.out, HCUT.out]
              simp [List.map_take, List.map_drop]
            · rcases List.mem_append.1 hp with hp | hp
              · rcases List.mem_append.1 hp with hp | hp
                · exact HM11.out.1 p (List.mem_of_mem_take hp)
                · rw [List.mem_singleton] at hp; subst hp; exact HM11.out.2
              · exact HM11.out.1 p (List.mem_of_mem_drop hp)
            · rcases hb with hb | ⟨p, hp, hb⟩
              · exact .inr (Nat.le_trans (Nat.le_succ _) (rowN_lt HR11.out b hb).1)
              · rcases List.mem_append.1 hp with hp | hp
                · rcases List.mem_append.1 hp with hp | hp
                  · exact .inl (.inr ⟨p, List.mem_of_mem_take hp, hb⟩)
                  · rw [List.mem_singleton] at hp; subst hp; exact .inr (HF8.out b hb)
                · exact .inl (.inr ⟨p, List.mem_of_mem_drop hp, hb⟩)
          case obl6 =>
            refine ⟨fun u hu hd => ?_, ?_⟩
            · go_simp
              exact ⟨Ext.refl _, rfl⟩
            refine ⟨fun u hu hd => ?_, ?_⟩
            · simp only [Act.put, List.setIfInBounds_toArray, List.set_cons_zero, List.set_cons_succ]
              go_simp
              exact ⟨Ext.refl _, rfl⟩
            refine ⟨fun u hu hd => ?_, ?_⟩
            · simp only [Act.put, List.setIfInBounds_toArray, List.set_cons_zero, List.set_cons_succ]
              have e1 : f1 1 = .slice A R.length c := hd 1 (by kernel_rfl)
              go_simp
              exact ⟨Ext.refl _, rfl⟩
            refine ⟨fun u hu hd => ?_, ?_⟩
            · simp only [Act.put, List.setIfInBounds_toArray, List.set_cons_zero, List.set_cons_succ]
              have e0 : f1 0 = .int .i64 (k : Int) := hd 0 (by kernel_rfl)
              have e2 : f1 2 = .int .i64 (R.length : Int) := hd 2 (by kernel_rfl)
              go_simp
              exact ⟨Ext.refl _, rfl⟩
            refine ⟨fun u hu hd => ?_, ?_⟩
            · simp only [Act.put, List.setIfInBounds_toArray, List.set_cons_zero, List.set_cons_succ]
              have e3 : f1 3 = .bool false := hd 3 (by kernel_rfl)
              go_simp
              exact ⟨Ext.refl _, rfl⟩
            refine ⟨fun u hu hd => ?_, ?_⟩
            · simp only [Act.put, List.setIfInBounds_toArray, List.set_cons_zero, List.set_cons_succ]
              have e4 : f1 4 = .bool false := hd 4 (by kernel_rfl)
              go_simp
              rfl
            refine ⟨fun u hu hd => ?_, ?_⟩
            · simp only [Act.put, List.setIfInBounds_toArray, List.set_cons_zero, List.set_cons_succ]
              have e4 : f1 4 = .bool false := hd 4 (by kernel_rfl)
              go_simp
              rfl
            refine ⟨fun u hu hd => ?_, ?_⟩
            · simp only [Act.put, List.setIfInBounds_toArray, List.set_cons_zero, List.set_cons_succ]
              have e4 : f1 4 = .bool false := hd 4 (by kernel_rfl)
              go_simp
              rfl
            refine ⟨fun u hu hd => ?_, ?_⟩
            · simp only [Act.put, List.setIfInBounds_toArray, List.set_cons_zero, List.set_cons_succ]
              have e4 : f1 4 = .bool false := hd 4 (by kernel_rfl)
              go_simp
              rfl
            refine ⟨fun u hu hd => ?_, ?_⟩
            · simp only [Act.put, List.setIfInBounds_toArray, List.set_cons_zero, List.set_cons_succ]
              have e4 : f1 4 = .bool false := hd 4 (by kernel_rfl)
              go_simp
              rfl
            refine ⟨fun u hu hd => ?_, ?_⟩
            · simp only [Act.put, List.setIfInBounds_toArray, List.set_cons_zero, List.set_cons_succ]
              have e4 : f1 4 = .bool false := hd 4 (by kernel_rfl)
              go_simp
              rfl
            refine ⟨fun u hu hd => ?_, ?_⟩
            · simp only [Act.put, List.setIfInBounds_toArray, List.set_cons_zero, List.set_cons_succ]
              have e4 : f1 4 = .bool false := hd 4 (by kernel_rfl)
              go_simp
              rfl
            refine ⟨fun u hu hd => ?_, ?_⟩
            · simp only [Act.put, List.setIfInBounds_toArray, List.set_cons_zero, List.set_cons_succ]
              have e4 : f1 4 = .bool false := hd 4 (by kernel_rfl)
              go_simp
              exact ⟨Ext.refl _, rfl⟩
            trivial
        case obl =>
          refine ⟨fun u hu hd => ?_, ?_⟩
          · go_simp
            exact ⟨Ext.refl _, rfl⟩
          refine ⟨fun u hu hd => ?_, ?_⟩
          · simp only [Act.put, List.setIfInBounds_toArray, List.set_cons_zero, List.set_cons_succ]
            go_simp
            exact ⟨Ext.refl _, rfl⟩
          refine ⟨fun u hu hd => ?_, ?_⟩
          · simp only [Act.put, List.setIfInBounds_toArray, List.set_cons_zero, List.set_cons_succ]
            have e1 : f1 1 = .slice A R.length c := hd 1 (by kernel_rfl)
            go_simp
            exact ⟨Ext.refl _, rfl⟩
          refine ⟨fun u hu hd => ?_, ?_⟩
          · simp only [Act.put, List.setIfInBounds_toArray, List.set_cons_zero, List.set_cons_succ]
            have e0 : f1 0 = .int .i64 (k : Int) := hd 0 (by kernel_rfl)
            have e2 : f1 2 = .int .i64 (R.length : Int) := hd 2 (by kernel_rfl)
            go_simp
            exact ⟨Ext.refl _, rfl⟩
          refine ⟨fun u hu hd => ?_, ?_⟩
          · simp only [Act.put, List.setIfInBounds_toArray, List.set_cons_zero, List.set_cons_succ]
            have e3 : f1 3 = .bool false := hd 3 (by kernel_rfl)
            go_simp
            exact ⟨Ext.refl _, rfl⟩
          refine ⟨fun u hu hd => ?_, ?_⟩
          · simp only [Act.put, List.setIfInBounds_toArray, List.set_cons_zero, List.set_cons_succ]
            have e4 : f1 4 = .bool false := hd 4 (by kernel_rfl)
            go_simp
            rfl
          refine ⟨fun u hu hd => ?_, ?_⟩
          · simp only [Act.put, List.setIfInBounds_toArray, List.set_cons_zero, List.set_cons_succ]
            have e4 : f1 4 = .bool false := hd 4 (by kernel_rfl)
            go_simp
            rfl
          refine ⟨fun u hu hd => ?_, ?_⟩
          · simp only [Act.put, List.setIfInBounds_toArray, List.set_cons_zero, List.set_cons_succ]
            have e4 : f1 4 = .bool false := hd 4 (by kernel_rfl)
            go_simp
            rfl
          refine ⟨fun u hu hd => ?_, ?_⟩
          · simp only [Act.put, List.setIfInBounds_toArray, List.set_cons_zero, List.set_cons_succ]
            have e4 : f1 4 = .bool false := hd 4 (by kernel_rfl)
            go_simp
            rfl
          refine ⟨fun u hu hd => ?_, ?_⟩
          · simp only [Act.put, List.setIfInBounds_toArray, List.set_cons_zero, List.set_cons_succ]
            have e4 : f1 4 = .bool false := hd 4 (by kernel_rfl)
            go_simp
            rfl
          refine ⟨fun u hu hd => ?_, ?_⟩
          · simp only [Act.put, List.setIfInBounds_toArray, List.set_cons_zero, List.set_cons_succ]
            have e4 : f1 4 = .bool false := hd 4 (by kernel_rfl)
            go_simp
            rfl
          refine ⟨fun u hu hd => ?_, ?_⟩
          · simp only [Act.put, List.setIfInBounds_toArray, List.set_cons_zero, List.set_cons_succ]
            have e4 : f1 4 = .bool false := hd 4 (by kernel_rfl)
            go_simp
            rfl
          refine ⟨fun u hu hd => ?_, ?_⟩
          · simp only [Act.put, List.setIfInBounds_toArray, List.set_cons_zero, List.set_cons_succ]
            have e4 : f1 4 = .bool false := hd 4 (by kernel_rfl)
            go_simp
            exact ⟨Ext.refl _, rfl⟩
          trivial
end Go.Proofs.YtepaaffebhinlaaDoor
