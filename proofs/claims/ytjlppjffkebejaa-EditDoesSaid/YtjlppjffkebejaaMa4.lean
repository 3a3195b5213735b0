/- Iread Tail Icopy Ilit Ilist Iargs Etab Eplain, joined. -/
import Derived.Test.YtjlppjffkebejaaMa3
import Derived.Laws.ResultCell
import Derived.Laws.Rows
import Derived.Lib.ConvBytes
import Derived.Laws.AppendOwn
import Derived.LoopTactic
import Derived.Laws.OwnMore
import Derived.Lib.SmallJoins
import Derived.SizedLaws
import Derived.Deep.Slices

/- ikey's Read. -/
namespace Go.Proofs.Ytjlppjffkebejaa
open Go.ChangeShapes Go.WideShapes Go.ChangeAt Go.RowKit

theorem Own.nil (B : Nat) (w : World) : Own B [] (.slice none 0 0) w := World.ownsRow_nil _ _ _ _
theorem Own.grown {B r : Nat} {l : List Nat} {v : Value} {w w' : World} (h : Own B l v w) (hg : w.grownBy w' (some r)) (hr : r < B) : Own B l v w' := own_grown h hg hr
theorem Bytes_own {r lo hi : Nat} {l : List Nat} {w : World} (h : Rd w r lo hi l) (hl : l.length ≤ 1000000000000) {most : Int} (hm1 : -9223372036854775808 ≤ most) (hm2 : most ≤ 9223372036854775807) :
    Calls Try.prog 103 #[.pointer (some ⟨r, 0, none⟩), .int .i64 most] w fun e w' => ∃ (A : Option Addr) (c : Nat) (bs : List Nat) (k : Int) (rest : List Nat), OutText most l bs k rest ∧ Own w.heap.size bs (.slice A bs.length c) w' ∧ e = .returned (.tuple #[.slice A bs.length c, .int .i64 k]) ∧ Rd w' r lo hi rest ∧ w.grownBy w' (some r) := by
  refine (Bytes_any most hm1 hm2 r lo hi l w h hl).mono ?_
  rintro e w' (⟨v, rest, ⟨bs, h1, h2, h3, h4⟩, rfl, hr, hg⟩ | ⟨k, he, hk, rfl, hr, hg⟩)
  · have h5 : Own w.heap.size bs v w' := h4
    obtain ⟨A, c, rfl⟩ := h5.slice
    exact ⟨A, c, bs, 0, rest, .inl ⟨rfl, h1, h2, h3⟩, h5, rfl, hr, hg⟩
  · exact ⟨none, 0, [], k, l, .inr ⟨hk, he, rfl, rfl⟩, Own.nil _ _, rfl, hr, hg⟩

theorem OutText.len {most : Int} {l bs rest : List Nat} {k : Int} (h : OutText most l bs k rest) : bs.length ≤ l.length ∧ rest.length ≤ l.length ∧ (∀ x ∈ bs, x ∈ l) := by
  rcases h with ⟨_, _, _, rfl⟩ | ⟨_, _, rfl, rfl⟩
  · refine ⟨?_, ?_, fun x hx => ?_⟩
    · unfold bytesForm; simp only [List.length_append]; omega
    · simp only [List.length_append]; omega
    · unfold bytesForm; simp [hx]
  · simp
theorem OutNum.len {l rest : List Nat} {n : Nat} {k : Int} (h : OutNum l n k rest) : rest.length ≤ l.length ∧ U64 n := by
  rcases h with ⟨_, hb⟩ | ⟨_, _, rfl, rfl⟩
  · refine ⟨?_, hb.n64⟩
    rw [hb.eq, List.length_append]; omega
  · exact ⟨Nat.le_refl _, ⟨by omega⟩⟩

/-- What is read in a row, where an entry stands. -/
theorem read_is {b kb vb r1 r2 r3 r4 : List Nat} {n d : Nat} {k1 k2 k3 k4 : Int} (h1 : OutText 32 b kb k1 r1) (h2 : OutNum r1 n k2 r2) (h3 : OutNum r2 d k3 r3) (h4 : OutText 65536 r3 vb k4 r4) {e : Ent} (he : IsE b e) :
    e = ⟨kb, n, d, vb⟩ ∧ k1 = 0 ∧ k2 = 0 ∧ k3 = 0 ∧ (e.kind = 1 → k4 = 0) ∧ (e.kind = 2 → r3 = []) ∧ r4 = [] := by
  obtain ⟨hm, rfl⟩ := he
  obtain ⟨u1, u2, u3, u4⟩ := Ent.may_u64 hm
  obtain ⟨a1, a2, a3, a4, a5⟩ := mayN_iff.1 hm
  unfold Ent.form at h1
  obtain ⟨rfl, rfl, rfl⟩ := h1.same (.inl ⟨rfl, by omega, u1, rfl⟩)
  obtain ⟨rfl, rfl, rfl⟩ := h2.same (.inl ⟨rfl, u2, rfl⟩)
  obtain ⟨rfl, rfl, rfl⟩ := h3.same (.inl ⟨rfl, u3, rfl⟩)
  have e1 : ((e.seq.toNat : Nat) : Int) = e.seq := by omega
  have e2 : ((e.kind.toNat : Nat) : Int) = e.kind := by omega
  rcases a5 with ⟨a5, a6⟩ | ⟨a5, a6⟩
  · rw [if_pos a5] at h4
    obtain ⟨rfl, rfl, rfl⟩ := h4.same (.inl ⟨rfl, by omega, u4, (List.append_nil _).symm⟩)
    refine ⟨Ent.ext rfl e1.symm e2.symm rfl, rfl, rfl, rfl, fun _ => rfl, fun h => by omega, rfl⟩
  · rw [if_neg (by omega)] at h4
    have hv : vb = [] ∧ r4 = [] := by
      rcases h4 with ⟨_, _, _, h⟩ | ⟨_, _, rfl, rfl⟩
      · have h5 := congrArg List.length h
        have h6 := (bytesForm_len (l := vb) ⟨by omega⟩)
        simp only [List.length_append, List.length_nil] at h5
        omega
      · exact ⟨rfl, rfl⟩
    obtain ⟨rfl, rfl⟩ := hv
    refine ⟨Ent.ext rfl e1.symm e2.symm (List.eq_nil_of_length_eq_zero a6), rfl, rfl, rfl, fun h => by omega, fun _ => by rw [if_neg (by omega)], rfl⟩

/-- An entry of nothing. -/
def noE : Value := .agg #[.slice none 0 0, .int .i64 0, .int .i64 0, .slice none 0 0]
/-- What Read answers. -/
def ReadAns (w : World) (b : List Nat) (x : Ending) (w' : World) : Prop :=
  Ext w w' ∧ ((∃ (e : Ent) (g : Hd), IsE b e ∧ x = .returned (.tuple #[e.at_ g, .int .i64 0]) ∧ Own w.heap.size e.key (.slice g.kA e.key.length g.kc) w' ∧ Own w.heap.size e.val (.slice g.vA e.val.length g.vc) w') ∨
    ((∀ e, ¬ IsE b e) ∧ x = .returned (.tuple #[noE, .int .i64 4])))

theorem entry_ret {fn : Func} {tmps : Array Value} {w : World} {g : Nat} {p q : Tmp} {c : Array Value} {k : Value} {R : Ending → World → Prop} (hr : fn.results = #[.cell p 33, .tmp q]) (h2 : tmps.getD p undef = .pointer (some ⟨g, 0, none⟩)) (h3 : tmps.getD q undef = k)
    (hc : c.size = 4) (hg : w.heap[g]? = some (.cells c 33 (0, 0))) (h : R (.returned (.tuple #[.agg c, k])) w) : bodyPost Try.prog fn R .ret { tmps := tmps, defers := [] } w := by
  refine ⟨rfl, .tuple #[.agg c, k], ?_, h⟩
  have hi : (Try.prog.info? 33).map (·.size) = some 4 := by kernel_rfl
  have hl := run_loadVar_row (P := Try.prog) w g 33 33 c (0, 0) _ hg Try.underlying33 rfl (by rw [hc]; exact hi)
  have ha : (asAddr (.pointer (some ⟨g, 0, none⟩))).run Try.prog w = .ok ⟨g, 0, none⟩ w := rfl
  rw [results_cell_tmp hr, h2, h3, ha, Result.andThen_ok, hl, Result.andThen_ok]
/-- Four cells of a block, set. -/
theorem set_four {u : World} {g : Nat} {a b c d x y z t : Value} {ty : TypeId} (h : u.heap[g]? = some (.cells #[a, b, c, d] ty (0, 0))) :
    ((((u.setCell ⟨g, 0, none⟩ x).setCell ⟨g, 1, none⟩ y).setCell ⟨g, 2, none⟩ z).setCell ⟨g, 3, none⟩ t).heap[g]? = some (.cells #[x, y, z, t] ty (0, 0)) := by
  have h1 := heap_setCell_same u g 0 _ _ x h
  have h2 := heap_setCell_same (u.setCell ⟨g, 0, none⟩ x) g 1 _ _ y h1
  have h3 := heap_setCell_same ((u.setCell ⟨g, 0, none⟩ x).setCell ⟨g, 1, none⟩ y) g 2 _ _ z h2
  have h4 := heap_setCell_same (((u.setCell ⟨g, 0, none⟩ x).setCell ⟨g, 1, none⟩ y).setCell ⟨g, 2, none⟩ z) g 3 _ _ t h3
  rw [h4]; rfl
theorem frozen_four {u : World} {g j : Nat} {c : Array Value} {ty : TypeId} (h : u.heap[g]? = some (.cells c ty (0, 0))) : u.frozen? ⟨g, j, none⟩ = false := by simp [World.frozen?, h]

set_option maxRecDepth 100000 in
set_option maxHeartbeats 4000000 in
theorem read_any {w : World} {lo hi : Nat} {v : Value} {b : List Nat} (hv : Bs w lo hi v b) (hhi : hi ≤ w.heap.size) (hb : ∀ x ∈ b, x < 256) (hl : b.length ≤ 1000000000000) : Calls Try.prog 46 #[v] w (ReadAns w b) := by
  obtain ⟨w1, hw1⟩ : ∃ w1, w1 = w.alloc (.cells #[.slice none 0 0, .int .i64 0, .int .i64 0, .slice none 0 0] 33) := ⟨_, rfl⟩
  have HX1 : Hid (Ext w w1) := by rw [hw1]; exact ext_alloc _ _
  have HZ1 : Hid (w1.heap.size = w.heap.size + 1) := by rw [hw1]; simp [Hid]
  have HR1 : Hid (w1.heap[w.heap.size]? = some (.cells #[.slice none 0 0, .int .i64 0, .int .i64 0, .slice none 0 0] 33 (0, 0))) := by rw [hw1]; exact heap_at _ _ rfl
  have HV := Lib.hid hv
  have HO := Lib.hid (open_any v lo hi b w1 (hv.below HX1.out hhi) (Nat.le_trans hhi HX1.out.size) hl hb)
  have HHI := Lib.hid hhi
  have HL := Lib.hid hl
  have HBY := Lib.hid hb
  obtain ⟨A, c, rfl, _, _, _, _⟩ := hv
  clear hhi hb hl
  go_enter Try.func46, Try.ntmps46
  go_wp2_with fail
  rw [← hw1]
  refine Calls.mono HO.out ?_
  rintro x w2 ⟨r, rlo, rhi, rfl, hrd, hr, hlo, hb2⟩
  have HRD := Lib.hid hrd
  have HR := Lib.hid hr
  have HX2 : Hid (Below w1.heap.size w1 w2) := hb2
  clear hrd hr hlo hb2 HO
  go_wp2_with fail
  refine (Bytes_own HRD.out HL.out (by decide) (by decide)).mono ?_
  rintro x w3 ⟨kA, kc, kb, k1, r1, ho1, hown, rfl, hrd, hg⟩
  have HO1 := Lib.hid ho1
  have HK3 := Lib.hid hown
  have HX3 : Hid (Below w1.heap.size w1 w3) := HX2.out.grown hg HX2.out.size (fun k hk => by injection hk with hk; have := HR.out; omega)
  have HRD3 := Lib.hid hrd
  have HRL : Hid (r < w2.heap.size) := HRD.out.lt
  clear ho1 hown hrd hg HRD
  go_wp2_with fail
  refine (Number_out HRD3.out).mono ?_
  rintro x w4 ⟨n, k2, r2, ho2, rfl, hrd, hg⟩
  have HO2 := Lib.hid ho2
  have HK4 := Lib.hid (HK3.out.grown hg HRL.out)
  have HX4 : Hid (Below w1.heap.size w1 w4) := HX3.out.grown hg HX3.out.size (fun k hk => by injection hk with hk; have := HR.out; omega)
  have HRD4 := Lib.hid hrd
  clear ho2 hrd hg HRD3
  go_wp2_with fail
  refine (Number_out HRD4.out).mono ?_
  rintro x w5 ⟨d, k3, r3, ho3, rfl, hrd, hg⟩
  have HO3 := Lib.hid ho3
  have HK5 := Lib.hid (HK4.out.grown hg HRL.out)
  have HX5 : Hid (Below w1.heap.size w1 w5) := HX4.out.grown hg HX4.out.size (fun k hk => by injection hk with hk; have := HR.out; omega)
  have HRD5 := Lib.hid hrd
  clear ho3 hrd hg HRD4
  have HL3 : Hid (r3.length ≤ 1000000000000) := by
    have a1 := HO1.out.len.2.1; have a2 := HO2.out.len.1; have a3 := HO3.out.len.1; have a4 := HL.out
    unfold Hid; omega
  go_wp2_with fail
  refine (Bytes_own HRD5.out HL3.out (by decide) (by decide)).mono ?_
  rintro x w6 ⟨vA, vc, vb, k4, r4, ho4, hown, rfl, hrd, hg⟩
  have HO4 := Lib.hid ho4
  have HV6 : Hid (Own w1.heap.size vb (.slice vA vb.length vc) w6) := hown.base HX5.out.size
  have HK6 := Lib.hid (HK5.out.grown hg HRL.out)
  have HX6 : Hid (Below w1.heap.size w1 w6) := HX5.out.grown hg HX5.out.size (fun k hk => by injection hk with hk; have := HR.out; omega)
  clear ho4 hrd hg hown HRD5
  go_wp2_with fail
  obtain ⟨s, hs⟩ : ∃ s, s = wrap64 (n : Int) := ⟨_, rfl⟩
  obtain ⟨t, ht⟩ : ∃ t, t = wrap64 (d : Int) := ⟨_, rfl⟩
  rw [← hs, ← ht]
  have HS := Lib.hid (And.intro hs ht)
  clear hs ht
  obtain ⟨e, he⟩ : ∃ e : Ent, e = ⟨kb, s, t, vb⟩ := ⟨_, rfl⟩
  obtain ⟨g, hg⟩ : ∃ g : Hd, g = ⟨kA, kc, vA, vc⟩ := ⟨_, rfl⟩
  have HONE : Hid (∀ e', IsE b e' → e' = e) := fun e' h => by
    have h1 := (read_is HO1.out HO2.out HO3.out HO4.out h).1
    have h2 := mayN_iff.1 h.1
    rw [h1] at h2 ⊢
    dsimp only at h2
    rw [he, HS.out.1, HS.out.2]
    unfold wrap64
    refine Ent.ext rfl ?_ ?_ rfl <;> dsimp only <;> omega
  obtain ⟨w7, hw7⟩ : ∃ w7, w7 = w6.alloc (.cells #[.slice kA kb.length kc, .int .i64 s, .int .i64 t, .slice vA vb.length vc] 33) := ⟨_, rfl⟩
  have HX67 : Hid (Ext w6 w7) := by rw [hw7]; exact ext_alloc _ _
  have HX7 : Hid (Below w1.heap.size w1 w7) := HX6.out.trans (HX67.out.mono HX6.out.size)
  have HE7 : Hid (w7.heap[w6.heap.size]? = some (.cells #[.slice kA kb.length kc, .int .i64 s, .int .i64 t, .slice vA vb.length vc] 33 (0, 0))) := by rw [hw7]; exact heap_at _ _ rfl
  have HL6 : Hid (w1.heap.size ≤ w6.heap.size) := HX6.out.size
  have HK7 : Hid (Own w1.heap.size kb (.slice kA kb.length kc) w7) := (HK6.out.base HX2.out.size).below HX67.out
  have HV7 : Hid (Own w1.heap.size vb (.slice vA vb.length vc) w7) := HV6.out.below HX67.out
  have HM7 : Hid (Em w7 0 w7.heap.size e g) := by
    have b1 : ∀ x ∈ kb, x < 256 := fun x hx => HBY.out x (HO1.out.len.2.2 x hx)
    rw [he, hg]
    refine ⟨HK7.out.bs, HV7.out.bs, b1, fun x hx => ?_, ?_, ?_, ?_, ?_⟩
    · have h3 := HO4.out.len.2.2 x hx
      have sub2 : ∀ y ∈ r1, y ∈ b := fun y hy => by
        rcases HO1.out with ⟨_, _, _, h⟩ | ⟨_, _, h, _⟩
        · rw [h]; simp [hy]
        · rw [h] at hy; exact hy
      have sub3 : ∀ y ∈ r2, y ∈ r1 := fun y hy => by
        rcases HO2.out with ⟨_, h⟩ | ⟨_, _, h, _⟩
        · rw [h.eq]; simp [hy]
        · rw [h] at hy; exact hy
      have sub4 : ∀ y ∈ r3, y ∈ r2 := fun y hy => by
        rcases HO3.out with ⟨_, h⟩ | ⟨_, _, h, _⟩
        · rw [h.eq]; simp [hy]
        · rw [h] at hy; exact hy
      exact HBY.out x (sub2 x (sub3 x (sub4 x h3)))
    all_goals dsimp only; first | rw [HS.out.1] | rw [HS.out.2]
    all_goals unfold wrap64; omega
  rw [← hw7]
  have HW : Hid (w7.heap.size = w6.heap.size + 1) := by rw [hw7]; simp [Hid]
  have hv : (.agg #[.slice kA kb.length kc, .int .i64 s, .int .i64 t, .slice vA vb.length vc] : Value) = e.at_ g := by rw [he, hg]; rfl
  clear hw7
  have HB := Lib.hid (ebytes_any HM7.out (Nat.le_refl _))
  rw [← hv] at HB
  have HE := Lib.hid he
  have HG := Lib.hid hg
  have HVE := Lib.hid hv
  clear he hg hv
  refine Calls.mono HB.out ?_
  rintro x w8 ⟨hx8, (⟨hmay, A', c', rfl, ho8⟩ | ⟨hmay, rfl⟩)⟩
  · have HX8 : Hid (Below w1.heap.size w1 w8) := HX7.out.trans (hx8.mono HX7.out.size)
    have HXX := Lib.hid hx8
    have HMAY := Lib.hid hmay
    have HF8 := Lib.hid (equal_any ho8.bs (HV.out.below (Ext.trans HX1.out HX8.out) HHI.out) (Ent.form_lt HM7.out.bk HM7.out.bv) HBY.out)
    have hblk := HX8.out.block w.heap.size (by have := HZ1.out; omega)
    rw [HR1.out] at hblk
    have q0 := cell_of hblk (k := 0) rfl
    have q1 := cell_of hblk (k := 1) rfl
    have q2 := cell_of hblk (k := 2) rfl
    have q3 := cell_of hblk (k := 3) rfl
    have z0 := frozen_four hblk (j := 0)
    have z1 := frozen_four hblk (j := 1)
    have z2 := frozen_four hblk (j := 2)
    have z3 := frozen_four hblk (j := 3)
    have HBLK := Lib.hid hblk
    have hblk2 := (ext_heap hx8 HE7.out)
    have y0 := cell_of hblk2 (k := 0) rfl
    have y1 := cell_of hblk2 (k := 1) rfl
    have y2 := cell_of hblk2 (k := 2) rfl
    have y3 := cell_of hblk2 (k := 3) rfl
    obtain ⟨z, hz⟩ : ∃ z, z = decide (e.form = b) := ⟨_, rfl⟩
    rw [← hz] at HF8
    have HZ := Lib.hid hz
    clear hx8 hmay ho8 hblk hblk2 hz
    go_wp2_with fail
    refine Calls.mono HF8.out ?_
    rintro x w9 ⟨rfl, rfl⟩
    have HEXT : Hid (Ext w w9) := Ext.trans HX1.out HX8.out
    cases z
    · go_wp2_with fail
      refine entry_ret (p := 2) (q := 3) (by kernel_rfl) rfl rfl rfl (set_four HBLK.out) ?_
      refine ⟨Below.setCell (Below.setCell (Below.setCell (Below.setCell HEXT.out (Nat.le_refl _) _) (Nat.le_refl _) _) (Nat.le_refl _) _) (Nat.le_refl _) _, .inr ⟨fun e' h => ?_, rfl⟩⟩
      have h1 := HONE.out e' h
      subst h1
      exact absurd h.2 (of_decide_eq_false HZ.out.symm)
    · go_wp2_with fail
      refine entry_ret (p := 2) (q := 3) (by kernel_rfl) rfl rfl rfl (set_four HBLK.out) ?_
      refine ⟨Below.setCell (Below.setCell (Below.setCell (Below.setCell HEXT.out (Nat.le_refl _) _) (Nat.le_refl _) _) (Nat.le_refl _) _) (Nat.le_refl _) _, .inl ⟨e, g, ⟨HMAY.out, of_decide_eq_true HZ.out.symm⟩, by rw [← HVE.out]; rfl, ?_, ?_⟩⟩
      · rw [HE.out, HG.out]
        refine row_kept (HK7.out.below HXX.out |>.base HX1.out.size) (fun q hq => ?_)
        have := (row_lt (HK7.out.below HXX.out) q hq).1
        have := HZ1.out
        iterate 4 rw [Below.heap_setCell _ _ _ _ (by show q ≠ w.heap.size; omega)]
      · rw [HE.out, HG.out]
        refine row_kept (HV7.out.below HXX.out |>.base HX1.out.size) (fun q hq => ?_)
        have := (row_lt (HV7.out.below HXX.out) q hq).1
        have := HZ1.out
        iterate 4 rw [Below.heap_setCell _ _ _ _ (by show q ≠ w.heap.size; omega)]
  · have HX8 : Hid (Below w1.heap.size w1 w8) := HX7.out.trans (hx8.mono HX7.out.size)
    have HMAY := Lib.hid hmay
    have hblk := HX8.out.block w.heap.size (by have := HZ1.out; omega)
    rw [HR1.out] at hblk
    have q0 := cell_of hblk (k := 0) rfl
    have q1 := cell_of hblk (k := 1) rfl
    have q2 := cell_of hblk (k := 2) rfl
    have q3 := cell_of hblk (k := 3) rfl
    have z0 := frozen_four hblk (j := 0)
    have z1 := frozen_four hblk (j := 1)
    have z2 := frozen_four hblk (j := 2)
    have z3 := frozen_four hblk (j := 3)
    have HBLK := Lib.hid hblk
    have HEXT : Hid (Ext w w8) := Ext.trans HX1.out HX8.out
    clear hx8 hmay hblk
    go_wp2_with fail
    refine entry_ret (p := 2) (q := 3) (by kernel_rfl) rfl rfl rfl (set_four HBLK.out) ?_
    refine ⟨Below.setCell (Below.setCell (Below.setCell (Below.setCell HEXT.out (Nat.le_refl _) _) (Nat.le_refl _) _) (Nat.le_refl _) _) (Nat.le_refl _) _, .inr ⟨fun e' h => ?_, rfl⟩⟩
    have h1 := HONE.out e' h
    subst h1
    have h2 := h.1
    rw [HMAY.out] at h2
    cases h2
end Go.Proofs.Ytjlppjffkebejaa

/- A region that draws its order, by facts, up to an operation from which on each one waits for all ahead of it: from there on it is walked in the order of the text (no function of the program). -/
namespace Go.Proofs.Ytjlppjffkebejaa
open Go.RowKit

/-- Operation i waits for the j-th, by way of others. -/
def reachB (ops : Array Oper) : Nat → Nat → Nat → Bool
  | 0, _, _ => false
  | f + 1, i, j => match ops[i]? with | some o => aft o j || (List.range i).any (fun k => aft o k && reachB ops f k j) | none => false
/-- From the m-th operation on, each waits for the one ahead of it, and for all of the first m. -/
def tailOk (ops : Array Oper) (m : Nat) : Bool := (List.range ops.size).all fun i => decide (i < m) || ((decide (i = m) || match ops[i]? with | some o => aft o (i - 1) | none => false) && (List.range m).all (reachB ops ops.size i))

section
variable {P : Program} {ops : Array Oper} {Q : Exit → Act → World → Prop} {φ : List (Value → World → Prop)} {a0 : Act} {w0 : World} {m : Nat}

theorem tail_prev (h : tailOk ops m = true) {i : Nat} {o : Oper} (hi : ops[i]? = some o) (hm : m < i) : aft o (i - 1) = true := by
  have hlt := (Array.getElem?_eq_some_iff.1 hi).1
  have h1 := (List.all_eq_true.1 h) i (List.mem_range.2 hlt)
  simp only [hi, Bool.or_eq_true, Bool.and_eq_true, decide_eq_true_eq] at h1
  rcases h1 with h1 | ⟨h1 | h1, _⟩
  · omega
  · omega
  · exact h1
theorem tail_reach (h : tailOk ops m = true) {i : Nat} {o : Oper} (hi : ops[i]? = some o) (hm : m ≤ i) : ∀ j, j < m → reachB ops ops.size i j = true := by
  intro j hj
  have hlt := (Array.getElem?_eq_some_iff.1 hi).1
  have h1 := (List.all_eq_true.1 h) i (List.mem_range.2 hlt)
  simp only [hi, Bool.or_eq_true, Bool.and_eq_true, decide_eq_true_eq] at h1
  rcases h1 with h1 | ⟨_, h1⟩
  · omega
  · exact (List.all_eq_true.1 h1) j (List.mem_range.2 hj)
theorem reach_seen {seen : Array Bool} {a : Act} {u : World} (hI : Inv ops φ a0 w0 seen a u) : ∀ (f k j : Nat), seen.getD k false = true → reachB ops f k j = true → seen.getD j false = true := by
  intro f
  induction f with
  | zero => intro k j _ h; cases h
  | succ f ih =>
    intro k j hk h
    simp only [reachB] at h
    split at h
    · rename_i o ho
      rcases Bool.or_eq_true_iff.1 h with h | h
      · exact hI.closed k o ho hk j h
      · obtain ⟨k', _, h2⟩ := List.any_eq_true.1 h
        simp only [Bool.and_eq_true] at h2
        exact ih k' j (hI.closed k o ho hk k' h2.1) h2.2
    · cases h
theorem aft_seen {seen : Array Bool} {o : Oper} (hed : ∀ e ∈ o.after, Region.binds .any e = true → seen.getD e.on false = true) {j : Nat} (h : aft o j = true) : seen.getD j false = true := by
  unfold aft at h
  obtain ⟨e, he, hb⟩ := Array.any_eq_true'.1 h
  simp only [Bool.and_eq_true, beq_iff_eq] at hb
  rw [← hb.2]
  exact hed e he hb.1
theorem ready_seen {seen : Array Bool} {a : Act} {u : World} (hI : Inv ops φ a0 w0 seen a u) {i : Nat} {o : Oper} (hi : ops[i]? = some o) (hed : ∀ e ∈ o.after, Region.binds .any e = true → seen.getD e.on false = true) {f j : Nat} (h : reachB ops f i j = true) : seen.getD j false = true := by
  cases f with
  | zero => cases h
  | succ f =>
    simp only [reachB, hi] at h
    rcases Bool.or_eq_true_iff.1 h with h | h
    · exact aft_seen hed h
    · obtain ⟨k', _, h2⟩ := List.any_eq_true.1 h
      simp only [Bool.and_eq_true] at h2
      exact reach_seen hI f k' j (aft_seen hed h2.1) h2.2

theorem done_getD {n k j : Nat} (b : Bool) (hj : j < n) : (Done n k).getD j b = decide (j < k) := by simp [Done, Array.getD, hj]
theorem done_size (n k : Nat) : (Done n k).size = n := by simp [Done]

theorem seq_tail {size : Nat} (hok : flowOk ops size = true) (ht : tailOk ops m = true) : ∀ (r k : Nat) (a : Act) (u : World), k + r = ops.size → m ≤ k → wpList P ops Q (ops.toList.drop k) a u → wpAny P .any ops Q r (Done ops.size k) a u := by
  intro r
  induction r with
  | zero =>
    intro k a u hk hm h
    have hk' : k = ops.size := by omega
    subst hk'
    rw [List.drop_of_length_le (by simp)] at h
    refine ⟨List.eq_nil_iff_forall_not_mem.2 fun i hi => ?_, h⟩
    obtain ⟨hun, oi, hio, _⟩ := mem_ready.1 hi
    have hlt := (Array.getElem?_eq_some_iff.1 hio).1
    rw [done_getD true hlt] at hun
    simp at hun; omega
  | succ r ih =>
    intro k a u hk hm h
    have hlt : k < ops.size := by omega
    have ho : ops[k]? = some ops[k] := Array.getElem?_eq_getElem hlt
    rw [List.drop_eq_getElem_cons (by simpa using hlt)] at h
    have hready : k ∈ Region.ready .any ops (Done ops.size k) := mem_ready.2 ⟨by rw [done_getD true hlt]; simp, ops[k], ho, fun e he hb => by
      have h1 := (flowOk_at hok ho).1 e he hb
      rw [done_getD false (by omega)]; simpa using h1⟩
    refine ⟨fun h0 => absurd hready (by rw [h0]; simp), fun i hi => ?_⟩
    have hik : i = k := by
      obtain ⟨hun, oi, hio, hed⟩ := mem_ready.1 hi
      have hil := (Array.getElem?_eq_some_iff.1 hio).1
      rw [done_getD true hil] at hun
      have hge : k ≤ i := by simpa using hun
      rcases Nat.lt_or_ge k i with hki | hki
      · have h2 := aft_seen hed (tail_prev ht hio (by omega))
        rw [done_getD false (by omega)] at h2
        simp at h2; omega
      · omega
    subst hik
    have hnext : ∀ a u, wpList P ops Q (ops.toList.drop (i + 1)) a u → wpAny P .any ops Q r ((Done ops.size i).setIfInBounds i true) a u := fun a u h => by
      rw [Done.succ hlt]
      exact ih (i + 1) a u (by omega) (by omega) h
    unfold wpOp
    simp only [ho]
    unfold wpList at h
    rw [Array.getElem_toList] at h
    split
    · rename_i hw
      rw [if_pos hw] at h
      rcases h with h | h
      · exact .inl (Oper.wp_mono (fun a u h => hnext a u h) h)
      · exact .inr h
    · rename_i hw
      rw [if_neg hw] at h
      exact hnext _ _ h

theorem act_tail {seen : Array Bool} {a : Act} {u : World} (hok : flowOk ops a0.tmps.size = true) (hI : Inv ops φ a0 w0 seen a u) (hn : ∀ j, m ≤ j → seen.getD j false = false) : a = puts (held ops a) 0 (ops.toList.take m) a0 := by
  have hd : a.defers = (puts (held ops a) 0 (ops.toList.take m) a0).defers := by rw [puts_defers]; exact hI.defs
  have conv : ∀ (j : Nat) (o : Oper), (ops.toList.take m)[j]? = some o → j < m ∧ ops[j]? = some o := fun j o h => by
    rw [List.getElem?_take] at h
    split at h
    · rename_i hj; exact ⟨hj, by rw [← Array.getElem?_toList]; exact h⟩
    · cases h
  have ht : a.tmps = (puts (held ops a) 0 (ops.toList.take m) a0).tmps := by
    apply Array.ext_getElem?
    intro t
    by_cases hsz : t < a0.tmps.size
    · have huniq : ∀ (x y : Nat) (ox oy : Oper), (ops.toList.take m)[x]? = some ox → (ops.toList.take m)[y]? = some oy → ox.dst = some t → oy.dst = some t → x = y := fun x y ox oy hx hy h1 h2 => by
        rcases Nat.decEq x y with hne | he
        · exact absurd h1 (((flowOk_at hok (conv x ox hx).2).2.2.2 y oy t (conv y oy hy).2 h2).1 (fun e => hne e.symm))
        · exact he
      obtain ⟨h1, h2⟩ := puts_get (held ops a) (ops.toList.take m) 0 a0 t hsz huniq
      by_cases hex : ∃ (j : Nat) (oj : Oper), (ops.toList.take m)[j]? = some oj ∧ oj.dst = some t
      · obtain ⟨j, oj, hj, hd⟩ := hex
        rw [h2 j oj hj hd, Nat.zero_add]
        simp only [held, (conv j oj hj).2, slot, hd]
        have hts : t < a.tmps.size := by rw [hI.tsz]; exact hsz
        simp [Array.getD, hts]
      · have hex' : ∀ (j : Nat) (o : Oper), (ops.toList.take m)[j]? = some o → o.dst ≠ some t := fun j o hj hd => hex ⟨j, o, hj, hd⟩
        rw [h1 hex']
        refine hI.old t fun j oj hj hs => ?_
        have hjm : j < m := by
          rcases Nat.lt_or_ge j m with h | h
          · exact h
          · rw [hn j h] at hs; cases hs
        exact hex' j oj (by rw [List.getElem?_take, if_pos hjm, Array.getElem?_toList]; exact hj)
    · rw [Array.getElem?_eq_none (by rw [hI.tsz]; omega), Array.getElem?_eq_none (by rw [puts_size]; omega)]
  have ext : ∀ x y : Act, x.tmps = y.tmps → x.defers = y.defers → x = y := by rintro ⟨_, _⟩ ⟨_, _⟩ rfl rfl; rfl
  exact ext _ _ ht hd

theorem flow_tail_any (hok : flowOk ops a0.tmps.size = true) (hsel : Region.noSelect ops = true) (hmn : m ≤ ops.size) (htl : tailOk ops m = true) (hmono : ∀ p ∈ φ, Mono p)
    (hobl : ∀ f, Obls P ops φ w0 f 0 (ops.toList.take m) a0)
    (hfin : ∀ (g : Nat → Value) u, Ext w0 u → (∀ j, j < m → fact φ j (g j) u) → wpList P ops Q (ops.toList.drop m) (puts g 0 (ops.toList.take m) a0) u) :
    ∀ (n : Nat) (seen : Array Bool) (a : Act) (u : World), Inv ops φ a0 w0 seen a u → (∀ j, m ≤ j → seen.getD j false = false) → left ops seen = n → wpAny P .any ops Q n seen a u := by
  have whole : ∀ (n : Nat) (seen : Array Bool) (a : Act) (u : World), Inv ops φ a0 w0 seen a u → (∀ j, m ≤ j → seen.getD j false = false) → left ops seen = n → (∀ j, j < m → seen.getD j false = true) → wpAny P .any ops Q n seen a u := fun n seen a u hI hn hl hall => by
    have hseen : seen = Done ops.size m := by
      apply Array.ext
      · rw [hI.size, done_size]
      · intro i h1 h2
        have e1 : seen[i] = seen.getD i false := by simp [Array.getD, h1]
        have e2 : (Done ops.size m)[i] = (Done ops.size m).getD i false := by simp [Array.getD, h2]
        rw [e1, e2, done_getD false (by rw [← hI.size]; exact h1)]
        rcases Nat.lt_or_ge i m with h | h
        · rw [hall i h]; simp [h]
        · rw [hn i h]; simp; omega
    have hleft : left ops seen = ops.size - m := by
      unfold left
      have : (List.range ops.size).countP (fun i => !seen.getD i false) = (List.range ops.size).countP (fun i => decide (m ≤ i)) := by
        apply List.countP_congr
        intro j hj
        rcases Nat.lt_or_ge j m with h | h
        · rw [hall j h]; simp; omega
        · rw [hn j h]; simp; omega
      rw [this]
      have cnt : ∀ N, (List.range N).countP (fun i => decide (m ≤ i)) = N - m := by
        intro N
        induction N with
        | zero => simp
        | succ N ih =>
          rw [List.range_succ, List.countP_append, ih, List.countP_singleton]
          by_cases h : m ≤ N
          · simp [h]; omega
          · simp [h]; omega
      exact cnt _
    have hA := act_tail hok hI hn
    have hF := hfin (held ops a) u hI.ext fun j hj => by
      have hoj : ops[j]? = some ops[j] := Array.getElem?_eq_getElem (by omega)
      simp only [held, hoj]
      exact hI.facts j _ hoj (hall j hj)
    rw [← hA] at hF
    rw [← hl, hleft, hseen]
    exact seq_tail hok htl _ _ _ _ (by omega) (Nat.le_refl _) hF
  intro n
  induction n with
  | zero =>
    intro seen a u hI hn hl
    refine whole 0 seen a u hI hn hl fun j hj => ?_
    have := List.countP_eq_zero.1 hl j (List.mem_range.2 (by omega))
    simpa using this
  | succ n ih =>
    intro seen a u hI hn hl
    by_cases hall : ∀ j, j < m → seen.getD j false = true
    · exact whole _ seen a u hI hn hl hall
    · have hread : Region.ready .any ops seen = [] → False := fun hr => hall fun j hj => by
        exact all_seen hok hI hr j (by omega)
      refine ⟨fun hr => (hread hr).elim, fun i hi => ?_⟩
      obtain ⟨hun, oi, hio, hed⟩ := mem_ready.1 hi
      have hlt := (Array.getElem?_eq_some_iff.1 hio).1
      rw [getD_both seen (by rw [hI.size]; exact hlt)] at hun
      have hleft := left_next hI.size hlt hun
      have him : i < m := by
        rcases Nat.lt_or_ge i m with h | h
        · exact h
        · exfalso
          refine hall fun j hj => ?_
          exact ready_seen hI hio hed (tail_reach htl hio h j hj)
      refine wpOp_mono (fun b u' hb => ih _ b u' hb ?_ (by omega)) (flow_step hok hsel hmono hobl hI him hi)
      intro j hj
      rw [set_getD, if_neg (fun h => by have := h.1; omega)]; exact hn j hj

/-- A region that draws its order, whose last operations are done one behind the other. -/
theorem flow_tail {id : Nat} {w : World} (hm0 : P.follows .mixedOrders = true) (φ : List (Value → World → Prop)) (m : Nat) (hok : flowOk ops a0.tmps.size = true) (hsel : Region.noSelect ops = true) (hmn : decide (m ≤ ops.size) = true) (htl : tailOk ops m = true) (hmono : ∀ p ∈ φ, Mono p)
    (hobl : ∀ f, Obls P ops φ w.drew f 0 (ops.toList.take m) a0)
    (hfin : ∀ (g : Nat → Value) u, Ext w.drew u → (∀ j, j < m → fact φ j (g j) u) → wpList P ops Q (ops.toList.drop m) (puts g 0 (ops.toList.take m) a0) u) :
    (Code.region id ops true).wp P Q a0 w := by
  refine wp_region_any hm0 (flow_tail_any hok hsel (of_decide_eq_true hmn) htl hmono hobl hfin ops.size _ a0 w.drew inv_start (fun j _ => ?_) left_start)
  rw [Array.getD_eq_getD_getElem?]
  by_cases hj : j < ops.size
  · simp [hj]
  · simp [hj]
end
end Go.Proofs.Ytjlppjffkebejaa

/- ikey's Copy; the law's put and del. -/
namespace Go.Proofs.Ytjlppjffkebejaa
open Go.ChangeShapes Go.WideShapes Go.ChangeAt Go.RowKit

theorem entry_ret1 {fn : Func} {tmps : Array Value} {w : World} {g : Nat} {p : Tmp} {c : Array Value} {R : Ending → World → Prop} (hr : fn.results = #[.cell p 33]) (h2 : tmps.getD p undef = .pointer (some ⟨g, 0, none⟩))
    (hc : c.size = 4) (hg : w.heap[g]? = some (.cells c 33 (0, 0))) (h : R (.returned (.agg c)) w) : bodyPost Try.prog fn R .ret { tmps := tmps, defers := [] } w := by
  have hi : (Try.prog.info? 33).map (·.size) = some 4 := by kernel_rfl
  exact ⟨rfl, .agg c, results_cell_row hr _ _ _ _ _ _ _ h2 hg Try.underlying33 rfl (by rw [hc]; exact hi), h⟩

theorem Own.far {B : Nat} {l : List Nat} {v x : Value} {u : World} {p : Addr} (h : Own B l v u) (hp : p.block < B) : Own B l v (u.setCell p x) :=
  row_kept h (fun g hg => Below.heap_setCell _ _ _ _ (by have := (row_lt h g hg).1; omega))
/-- What Copy answers. -/
def CopyAns (w : World) (e : Ent) (x : Ending) (w' : World) : Prop :=
  Ext w w' ∧ ∃ g : Hd, x = .returned (e.at_ g) ∧ Own w.heap.size e.key (.slice g.kA e.key.length g.kc) w' ∧ Own w.heap.size e.val (.slice g.vA e.val.length g.vc) w'

set_option maxRecDepth 100000 in
set_option maxHeartbeats 4000000 in
theorem copy_any {w : World} {lo hi : Nat} {e : Ent} {g : Hd} (hm : Em w lo hi e g) (hhi : hi ≤ w.heap.size) (hk : e.key.length ≤ 1099511627776) (hv : e.val.length ≤ 1099511627776) : Calls Try.prog 51 #[e.at_ g] w (CopyAns w e) := by
  obtain ⟨w1, hw1⟩ : ∃ w1, w1 = (w.alloc (.cells #[.slice g.kA e.key.length g.kc, .int .i64 e.seq, .int .i64 e.kind, .slice g.vA e.val.length g.vc] 33)).alloc (.cells #[.slice none 0 0, .int .i64 0, .int .i64 0, .slice none 0 0] 33) := ⟨_, rfl⟩
  have HX : Hid (Ext w w1) := by rw [hw1]; exact Ext.trans (ext_alloc _ _) (ext_alloc _ _)
  have HZ1 : Hid (w1.heap.size = w.heap.size + 2) := by rw [hw1]; simp [Hid]
  have HBX : Hid (w1.heap[w.heap.size]? = some (.cells #[.slice g.kA e.key.length g.kc, .int .i64 e.seq, .int .i64 e.kind, .slice g.vA e.val.length g.vc] 33 (0, 0))) := by rw [hw1]; exact ext_heap (ext_alloc _ _) (heap_at _ _ rfl)
  have HRX : Hid (w1.heap[w.heap.size + 1]? = some (.cells #[.slice none 0 0, .int .i64 0, .int .i64 0, .slice none 0 0] 33 (0, 0))) := by rw [hw1]; exact heap_at _ _ (by simp)
  have HM := Lib.hid hm
  have HHI := Lib.hid hhi
  have HK := Lib.hid hk
  have HV := Lib.hid hv
  clear hm hhi hk hv
  have c0 := cell_of HBX.out (k := 0) rfl
  have c3 := cell_of HBX.out (k := 3) rfl
  unfold Ent.at_
  go_enter Try.func51, Try.ntmps51
  go_upto_region 1 with (fail)
  rw [← hw1]
  clear hw1
  refine flow_tail (by kernel_rfl) [Is (.pointer (some ⟨w.heap.size, 0, none⟩)), Is (.slice g.kA e.key.length g.kc), Own w1.heap.size e.key, Is (.pointer (some ⟨w.heap.size, 3, none⟩)), Is (.slice g.vA e.val.length g.vc), Own w1.heap.size e.val, Is (.pointer (some ⟨w.heap.size, 0, none⟩))] 7 (by kernel_rfl) (by kernel_rfl) (by kernel_rfl) (by kernel_rfl) ?mono (fun f => ?obl) ?fin
  case mono =>
    simp only [List.forall_mem_cons, List.not_mem_nil, false_imp_iff, implies_true, and_true]
    exact ⟨.is _, .is _, .own _ _, .is _, .is _, .own _ _, .is _⟩
  case fin =>
    intro g1 u hu hg
    simp only [List.take_succ_cons, List.take_zero, List.drop_succ_cons, List.drop_zero, puts, Act.put, List.setIfInBounds_toArray, List.set_cons_zero, List.set_cons_succ]
    have h2 : Own w1.heap.size e.key (g1 2) u := hg 2 (by decide)
    have h5 : Own w1.heap.size e.val (g1 5) u := hg 5 (by decide)
    have h6 : g1 6 = .pointer (some ⟨w.heap.size, 0, none⟩) := hg 6 (by decide)
    obtain ⟨v2, e2⟩ : ∃ v, v = g1 2 := ⟨_, rfl⟩
    obtain ⟨v5, e5⟩ : ∃ v, v = g1 5 := ⟨_, rfl⟩
    rw [h6]
    rw [← e2] at h2 ⊢
    rw [← e5] at h5 ⊢
    have H2 := Lib.hid h2
    have H5 := Lib.hid h5
    obtain ⟨A2, c2, rfl⟩ := h2.slice
    obtain ⟨A5, c5, rfl⟩ := h5.slice
    have HU : Hid (Ext w1 u) := Ext.trans (Ext.drew w1) hu
    have hb1 := ext_heap HU.out HBX.out
    have hb2 := ext_heap HU.out HRX.out
    have q0 := cell_of hb1 (k := 0) rfl
    have q1 := cell_of hb1 (k := 1) rfl
    have q2 := cell_of hb1 (k := 2) rfl
    have q3 := cell_of hb1 (k := 3) rfl
    have z0 := frozen_four hb1 (j := 0)
    have z3 := frozen_four hb1 (j := 3)
    have r0 := cell_of hb2 (k := 0) rfl
    have r1 := cell_of hb2 (k := 1) rfl
    have r2 := cell_of hb2 (k := 2) rfl
    have r3 := cell_of hb2 (k := 3) rfl
    have y0 := frozen_four hb2 (j := 0)
    have y1 := frozen_four hb2 (j := 1)
    have y2 := frozen_four hb2 (j := 2)
    have y3 := frozen_four hb2 (j := 3)
    have HB2 := Lib.hid hb2
    clear h2 h5 h6 e2 e5 hb1 hb2 hg hu c0 c3
    go_wp2_with fail
    have n1 : w.heap.size < w1.heap.size := by have := HZ1.out; omega
    have n2 : w.heap.size + 1 < w1.heap.size := by have := HZ1.out; omega
    have n3 : w.heap.size ≤ w1.heap.size := Nat.le_of_lt n1
    have HUW := Ext.trans HX.out HU.out
    refine entry_ret1 (p := 2) (by kernel_rfl) rfl rfl (set_four (a := .slice none 0 0) (b := .int .i64 0) (c := .int .i64 0) (d := .slice none 0 0) ?_) ?_
    · rw [Below.heap_setCell _ _ _ _ (by simp), Below.heap_setCell _ _ _ _ (by simp)]; exact HB2.out
    · refine ⟨Below.setCell (Below.setCell (Below.setCell (Below.setCell (Below.setCell (Below.setCell HUW (Nat.le_refl _) _) (Nat.le_refl _) _) (Nat.le_succ _) _) (Nat.le_succ _) _) (Nat.le_succ _) _) (Nat.le_succ _) _, ⟨A2, c2, A5, c5⟩, rfl, ?_, ?_⟩
      · exact ((((((H2.out.far n1).far n1).far n2).far n2).far n2).far n2).base n3
      · exact ((((((H5.out.far n1).far n1).far n2).far n2).far n2).far n2).base n3
  case obl =>
    refine ⟨fun u hu hd => ?_, ?_⟩
    · go_simp
      exact ⟨Ext.refl _, rfl⟩
    refine ⟨fun u hu hd => ?_, ?_⟩
    · simp only [Act.put, List.setIfInBounds_toArray, List.set_cons_zero, List.set_cons_succ]
      have e0 : f 0 = (.pointer (some ⟨w.heap.size, 0, none⟩)) := hd 0 (by kernel_rfl)
      have q := ext_cell hu c0
      go_simp
      exact ⟨Ext.refl _, rfl⟩
    refine ⟨fun u hu hd => ?_, ?_⟩
    · simp only [Act.put, List.setIfInBounds_toArray, List.set_cons_zero, List.set_cons_succ]
      have e1 : f 1 = (.slice g.kA e.key.length g.kc) := hd 1 (by kernel_rfl)
      go_simp
      refine (clone_any _ lo hi e.key u (HM.out.k.below (Ext.trans HX.out (Ext.trans (Ext.drew w1) hu)) HHI.out) (Nat.le_trans HHI.out (Ext.trans HX.out (Ext.trans (Ext.drew w1) hu)).size) HK.out).mono ?_
      rintro x w9 ⟨v, rfl, hown, hb9⟩
      exact ⟨v, rfl, hb9, ownsRow_base hown (Ext.trans (Ext.drew w1) hu).size⟩
    refine ⟨fun u hu hd => ?_, ?_⟩
    · simp only [Act.put, List.setIfInBounds_toArray, List.set_cons_zero, List.set_cons_succ]
      go_simp
      exact ⟨Ext.refl _, rfl⟩
    refine ⟨fun u hu hd => ?_, ?_⟩
    · simp only [Act.put, List.setIfInBounds_toArray, List.set_cons_zero, List.set_cons_succ]
      have e3 : f 3 = (.pointer (some ⟨w.heap.size, 3, none⟩)) := hd 3 (by kernel_rfl)
      have q := ext_cell hu c3
      go_simp
      exact ⟨Ext.refl _, rfl⟩
    refine ⟨fun u hu hd => ?_, ?_⟩
    · simp only [Act.put, List.setIfInBounds_toArray, List.set_cons_zero, List.set_cons_succ]
      have e4 : f 4 = (.slice g.vA e.val.length g.vc) := hd 4 (by kernel_rfl)
      go_simp
      refine (clone_any _ lo hi e.val u (HM.out.v.below (Ext.trans HX.out (Ext.trans (Ext.drew w1) hu)) HHI.out) (Nat.le_trans HHI.out (Ext.trans HX.out (Ext.trans (Ext.drew w1) hu)).size) HV.out).mono ?_
      rintro x w9 ⟨v, rfl, hown, hb9⟩
      exact ⟨v, rfl, hb9, ownsRow_base hown (Ext.trans (Ext.drew w1) hu).size⟩
    refine ⟨fun u hu hd => ?_, ?_⟩
    · simp only [Act.put, List.setIfInBounds_toArray, List.set_cons_zero, List.set_cons_succ]
      go_simp
      exact ⟨Ext.refl _, rfl⟩
    trivial
end Go.Proofs.Ytjlppjffkebejaa

/- The law's entries: put and del, of texts. -/
namespace Go.Proofs.Ytjlppjffkebejaa
open Go.ChangeShapes Go.WideShapes Go.ChangeAt Go.RowKit

/-- '[]byte(s)'. -/
theorem conv_new (w : World) (l : List Nat) (hl : ∀ x ∈ l, x < 256) (hlen : l.length ≤ 1000) : ∃ A c w', (convert 9 30 (.string (tx l))).run Try.prog w = .ok (.slice A l.length c) w' ∧ Ext w w' ∧ Bs w' w.heap.size w'.heap.size (.slice A l.length c) l := by
  have hs : (tx l).size = l.length := by unfold tx; rw [strOfNums_size, List.length_map]
  have hb : ∀ (b : Nat), b < w.heap.size → (Lib.bytesWorld w 5 (tx l)).heap[b]? = w.heap[b]? := fun b hb => Lib.bytesWorld_at_old _ _ _ _ hb
  refine ⟨_, _, _, by rw [← hs]; exact Lib.run_convert_string_bytes w _ _ _ (tx l) Try.underlying9 Try.underlying30 Try.underlying5, ⟨?_, ?_, ?_, ?_, fun b h => hb b h⟩, ?_⟩
  · simp [Lib.bytesWorld, World.freeze, World.alloc, World.drew, -World.alloc_eq, -World.drew_eq]
  · simp [Lib.bytesWorld, World.freeze, World.alloc, World.drew, -World.alloc_eq, -World.drew_eq]
  · simp [Lib.bytesWorld, World.freeze, World.alloc, World.drew, -World.alloc_eq, -World.drew_eq]
  · rw [Lib.bytesWorld_size]; omega
  · refine ⟨_, _, rfl, by rw [← hs]; exact grownCap_ge _ _ _ _, by exact grownCap_le_maxLen _ _ _ _ (by rw [hs]; unfold maxLen; omega), (fun h => by cases h), .inr ⟨w.heap.size, 0, rfl, Nat.le_refl _, by rw [Lib.bytesWorld_size]; omega, fun i u hu => ?_⟩⟩
    have hi : i < l.length := by
      rcases Nat.lt_or_ge i l.length with h | h
      · exact h
      · rw [List.getElem?_eq_none (by rw [bv_length]; exact h)] at hu; cases hu
    rw [Nat.zero_add, Lib.bytesWorld_cell _ _ _ _ (by rw [hs]; exact hi), ← hu]
    have hx := hl l[i] (List.getElem_mem hi)
    unfold tx bv
    rw [strOfNums_data]
    simp [List.getD, List.getElem?_eq_getElem hi, Nat.mod_eq_of_lt hx]

/-- What put and del answer. -/
def LitAns (w : World) (e : Ent) (x : Ending) (w' : World) : Prop := Ext w w' ∧ ∃ g : Hd, x = .returned (e.at_ g) ∧ Em w' w.heap.size w'.heap.size e g

set_option maxHeartbeats 2000000 in
theorem put_any (k v : List Nat) (s : Int) (hk : ∀ x ∈ k, x < 256) (hv : ∀ x ∈ v, x < 256) (hkl : k.length ≤ 1000) (hvl : v.length ≤ 1000) (h1 : -9223372036854775808 ≤ s) (h2 : s ≤ 9223372036854775807) (w : World) :
    Calls Try.prog 44 #[.string (tx k), .int .i64 s, .string (tx v)] w (LitAns w ⟨k, s, 1, v⟩) := by
  obtain ⟨w1, hw1⟩ : ∃ w1, w1 = w.alloc (.cells #[.slice none 0 0, .int .i64 0, .int .i64 0, .slice none 0 0] 33) := ⟨_, rfl⟩
  have HX : Hid (Ext w w1) := by rw [hw1]; exact ext_alloc _ _
  have HBX : Hid (w1.heap[w.heap.size]? = some (.cells #[.slice none 0 0, .int .i64 0, .int .i64 0, .slice none 0 0] 33 (0, 0))) := by rw [hw1]; exact heap_at _ _ rfl
  have HZ : Hid (w1.heap.size = w.heap.size + 1) := by rw [hw1]; simp [Hid]
  obtain ⟨A2, c2, w2, e2, x2, b2⟩ := conv_new w1 k hk hkl
  obtain ⟨A3, c3, w3, e3, x3, b3⟩ := conv_new w2 v hv hvl
  have hb := ext_heap (Ext.trans x2 x3) HBX.out
  have q0 := cell_of hb (k := 0) rfl
  have q1 := cell_of hb (k := 1) rfl
  have q2 := cell_of hb (k := 2) rfl
  have q3 := cell_of hb (k := 3) rfl
  have z0 := frozen_four hb (j := 0)
  have z1 := frozen_four hb (j := 1)
  have z2 := frozen_four hb (j := 2)
  have z3 := frozen_four hb (j := 3)
  have HB := Lib.hid hb
  have HK := Lib.hid ((b2.below x3 (Nat.le_refl _)).wide (Nat.le_refl _) x3.size)
  have HV := Lib.hid (b3.wide (lo' := w1.heap.size) x2.size (Nat.le_refl _))
  have HX3 : Hid (Ext w w3) := Ext.trans HX.out (Ext.trans x2 x3)
  have HBY := Lib.hid (And.intro hk hv)
  have HS := Lib.hid (And.intro h1 h2)
  clear x2 x3 b2 b3 hb hk hv hkl hvl h1 h2
  go_enter Try.func44, Try.ntmps44
  rw [hw1] at e2
  go_wp2_with fail
  refine entry_ret1 (p := 6) (by kernel_rfl) rfl rfl (set_four HB.out) ?_
  have far : ∀ {l : List Nat} {v : Value} {u : World} {p : Addr} {x : Value}, p.block < w1.heap.size → Bs u w1.heap.size w3.heap.size v l → Bs (u.setCell p x) w1.heap.size w3.heap.size v l := fun hp h => h.setCell (.inl hp) _
  have hlt : w.heap.size < w1.heap.size := by rw [HZ.out]; omega
  refine ⟨Below.setCell (Below.setCell (Below.setCell (Below.setCell HX3.out (Nat.le_refl _) _) (Nat.le_refl _) _) (Nat.le_refl _) _) (Nat.le_refl _) _, ⟨A2, c2, A3, c3⟩, rfl, ⟨?_, ?_, HBY.out.1, HBY.out.2, HS.out.1, HS.out.2, (by show (-9223372036854775808 : Int) ≤ _; dsimp only; omega), (by dsimp only; omega)⟩⟩
  · exact (far hlt (far hlt (far hlt (far hlt HK.out)))).wide HX.out.size (by simp [World.setCell])
  · exact (far hlt (far hlt (far hlt (far hlt HV.out)))).wide HX.out.size (by simp [World.setCell])

set_option maxHeartbeats 2000000 in
theorem del_any (k : List Nat) (s : Int) (hk : ∀ x ∈ k, x < 256) (hkl : k.length ≤ 1000) (h1 : -9223372036854775808 ≤ s) (h2 : s ≤ 9223372036854775807) (w : World) :
    Calls Try.prog 45 #[.string (tx k), .int .i64 s] w (LitAns w ⟨k, s, 2, []⟩) := by
  obtain ⟨w1, hw1⟩ : ∃ w1, w1 = w.alloc (.cells #[.slice none 0 0, .int .i64 0, .int .i64 0, .slice none 0 0] 33) := ⟨_, rfl⟩
  have HX : Hid (Ext w w1) := by rw [hw1]; exact ext_alloc _ _
  have HBX : Hid (w1.heap[w.heap.size]? = some (.cells #[.slice none 0 0, .int .i64 0, .int .i64 0, .slice none 0 0] 33 (0, 0))) := by rw [hw1]; exact heap_at _ _ rfl
  have HZ : Hid (w1.heap.size = w.heap.size + 1) := by rw [hw1]; simp [Hid]
  obtain ⟨A2, c2, w2, e2, x2, b2⟩ := conv_new w1 k hk hkl
  have hb := ext_heap x2 HBX.out
  have q0 := cell_of hb (k := 0) rfl
  have q1 := cell_of hb (k := 1) rfl
  have q2 := cell_of hb (k := 2) rfl
  have q3 := cell_of hb (k := 3) rfl
  have z0 := frozen_four hb (j := 0)
  have z1 := frozen_four hb (j := 1)
  have z2 := frozen_four hb (j := 2)
  have z3 := frozen_four hb (j := 3)
  have HB := Lib.hid hb
  have HK := Lib.hid b2
  have HX3 : Hid (Ext w w2) := Ext.trans HX.out x2
  have HBY := Lib.hid hk
  have HS := Lib.hid (And.intro h1 h2)
  clear x2 b2 hb hk hkl h1 h2
  go_enter Try.func45, Try.ntmps45
  rw [hw1] at e2
  go_wp2_with fail
  refine entry_ret1 (p := 4) (by kernel_rfl) rfl rfl (set_four HB.out) ?_
  have far : ∀ {l : List Nat} {v : Value} {u : World} {p : Addr} {x : Value}, p.block < w1.heap.size → Bs u w1.heap.size w2.heap.size v l → Bs (u.setCell p x) w1.heap.size w2.heap.size v l := fun hp h => h.setCell (.inl hp) _
  have hlt : w.heap.size < w1.heap.size := by rw [HZ.out]; omega
  refine ⟨Below.setCell (Below.setCell (Below.setCell (Below.setCell HX3.out (Nat.le_refl _) _) (Nat.le_refl _) _) (Nat.le_refl _) _) (Nat.le_refl _) _, ⟨A2, c2, none, 0⟩, rfl, ⟨?_, Bs.nil _ _ _, HBY.out, by simp, HS.out.1, HS.out.2, (by show (-9223372036854775808 : Int) ≤ _; dsimp only; omega), (by dsimp only; omega)⟩⟩
  exact (far hlt (far hlt (far hlt (far hlt HK.out)))).wide HX.out.size (by simp [World.setCell])
end Go.Proofs.Ytjlppjffkebejaa

/- Rows of entries in memory. -/
namespace Go.Proofs.Ytjlppjffkebejaa
open Go.ChangeShapes Go.WideShapes Go.ChangeAt Go.RowKit

/-- An entry's cells. -/
def ecells (p : Ent × Hd) : List Value := [.slice p.2.kA p.1.key.length p.2.kc, .int .i64 p.1.seq, .int .i64 p.1.kind, .slice p.2.vA p.1.val.length p.2.vc]
theorem ecells_length (p : Ent × Hd) : (ecells p).length = 4 := rfl
def erow (L : List (Ent × Hd)) : List Value := L.flatMap ecells
theorem erow_length (L : List (Ent × Hd)) : (erow L).length = L.length * 4 := by
  unfold erow
  induction L with
  | nil => rfl
  | cons a l ih => rw [List.flatMap_cons, List.length_append, ih, ecells_length, List.length_cons]; omega
theorem erow_append (L R : List (Ent × Hd)) : erow (L ++ R) = erow L ++ erow R := by simp [erow]
theorem erow_at (L : List (Ent × Hd)) {k j : Nat} (hk : k < L.length) (hj : j < 4) : (erow L)[k * 4 + j]? = (ecells L[k])[j]? := by
  unfold erow
  induction L generalizing k with
  | nil => simp at hk
  | cons a l ih =>
    rw [List.flatMap_cons]
    cases k with
    | zero => rw [List.getElem?_append_left (by rw [ecells_length]; omega)]; simp
    | succ k =>
      rw [List.getElem?_append_right (by rw [ecells_length]; omega), ecells_length, show (k + 1) * 4 + j - 4 = k * 4 + j by omega]
      simpa using ih (k := k) (by simpa using hk)
theorem erow_one (L : List (Ent × Hd)) : ∀ u ∈ erow L, u.oneCell' = true := by
  intro u hu
  unfold erow at hu
  obtain ⟨p, _, h⟩ := List.mem_flatMap.1 hu
  simp only [ecells, List.mem_cons, List.not_mem_nil, or_false] at h
  rcases h with rfl | rfl | rfl | rfl <;> rfl
/-- Entries in a row. -/
structure Es (w : World) (lo hi : Nat) (A : Option Addr) (L : List (Ent × Hd)) : Prop where
  outer : Sl w lo hi A (erow L)
  each : ∀ p ∈ L, Em w lo hi p.1 p.2
theorem Es.below {w w' : World} {lo hi B : Nat} {A : Option Addr} {L : List (Ent × Hd)} (h : Es w lo hi A L) (hb : Below B w w') (hB : hi ≤ B) : Es w' lo hi A L := ⟨h.outer.below hb hB, fun p hp => (h.each p hp).below hb hB⟩
theorem Es.wide {w : World} {lo hi lo' hi' : Nat} {A : Option Addr} {L : List (Ent × Hd)} (h : Es w lo hi A L) (h1 : lo' ≤ lo) (h2 : hi ≤ hi') : Es w lo' hi' A L := ⟨h.outer.wide h1 h2, fun p hp => (h.each p hp).wide h1 h2⟩
/-- Where the row begins, and the k-th entry's cells. -/
theorem Es.at_ {w : World} {lo hi : Nat} {A : Option Addr} {L : List (Ent × Hd)} (h : Es w lo hi A L) {k : Nat} (hk : k < L.length) :
    ∃ b o, A = some ⟨b, o, none⟩ ∧ b < hi ∧ w.cell? ⟨b, o + k * 4, none⟩ = some (.slice L[k].2.kA L[k].1.key.length L[k].2.kc) ∧ w.cell? ⟨b, o + k * 4 + 1, none⟩ = some (.int .i64 L[k].1.seq) ∧
      w.cell? ⟨b, o + k * 4 + 2, none⟩ = some (.int .i64 L[k].1.kind) ∧ w.cell? ⟨b, o + k * 4 + 3, none⟩ = some (.slice L[k].2.vA L[k].1.val.length L[k].2.vc) := by
  obtain ⟨b, o, rfl, _, hb, _⟩ := Sl.at_ h.outer (i := k * 4) (by rw [erow_length]; omega)
  have hc : ∀ j u, (erow L)[j]? = some u → w.cell? ⟨b, o + j, none⟩ = some u := by
    rcases h.outer with h0 | ⟨b', o', he, _, _, hc⟩
    · have := congrArg List.length h0
      rw [erow_length] at this
      simp at this; omega
    · injection he with he
      injection he with e1 e2
      subst e1 e2
      exact hc
  have hj := fun (j : Nat) (hj : j < 4) (u : Value) (hu : (ecells L[k])[j]? = some u) => hc (k * 4 + j) u ((erow_at L hk hj).trans hu)
  refine ⟨b, o, rfl, hb, hj 0 (by decide) _ rfl, ?_, ?_, ?_⟩
  · rw [Nat.add_assoc]; exact hj 1 (by decide) _ rfl
  · rw [Nat.add_assoc]; exact hj 2 (by decide) _ rfl
  · rw [Nat.add_assoc]; exact hj 3 (by decide) _ rfl

theorem Es.base {w : World} {lo hi : Nat} {A : Option Addr} {L : List (Ent × Hd)} (h : Es w lo hi A L) (h0 : 0 < L.length) : ∃ b o, A = some ⟨b, o, none⟩ := by
  obtain ⟨b, o, e, _⟩ := h.at_ h0
  exact ⟨b, o, e⟩
theorem Es.get {w : World} {lo hi b o : Nat} {L : List (Ent × Hd)} (h : Es w lo hi (some ⟨b, o, none⟩) L) {k : Nat} {p : Ent × Hd} (hk : L[k]? = some p) :
    w.cell? ⟨b, o + k * 4, none⟩ = some (.slice p.2.kA p.1.key.length p.2.kc) ∧ w.cell? ⟨b, o + k * 4 + 1, none⟩ = some (.int .i64 p.1.seq) ∧
      w.cell? ⟨b, o + k * 4 + 2, none⟩ = some (.int .i64 p.1.kind) ∧ w.cell? ⟨b, o + k * 4 + 3, none⟩ = some (.slice p.2.vA p.1.val.length p.2.vc) := by
  obtain ⟨hlt, rfl⟩ := List.getElem?_eq_some_iff.1 hk
  obtain ⟨_, _, he, _, c0, c1, c2, c3⟩ := h.at_ hlt
  injection he with he; injection he with e1 e2; subst e1 e2
  exact ⟨c0, c1, c2, c3⟩

/-- So many entries rise. -/
structure RiseAt (L : List Ent) (n : Nat) : Prop where
  le : n ≤ L.length
  rise : ∀ j a b, j + 1 < n → L[j]? = some a → L[j + 1]? = some b → cmpE a b < 0
  stop : n < L.length → ∃ j a b, n = j + 1 ∧ L[j]? = some a ∧ L[j + 1]? = some b ∧ ¬ cmpE a b < 0
end Go.Proofs.Ytjlppjffkebejaa

/- Entries that came in. -/
namespace Go.Proofs.Ytjlppjffkebejaa
open Go.ChangeShapes Go.WideShapes Go.ChangeAt Go.RowKit Go.Joins

theorem reach_is : reachBytes = 140737488351232 := by decide
section
variable {H : Type} {enc : TypeId × Value → H} {W : World}

set_option maxRecDepth 100000 in
/-- A field that is a slice of bytes. -/
theorem cell_bytes {fuel : Nat} {cs : List Value} {y : DataW H × List MemPlace} (h : DataW.trod enc Try.prog W 0 (fun _ => true) true fuel 30 cs = some y) :
    ∃ (A : Option Addr) (c : Nat) (l : List Nat), cs = [.slice A l.length c] ∧ (∀ b ∈ l, b < 256) ∧ Bs W 0 W.heap.size (.slice A l.length c) l ∧ ((∀ n ∈ y.1.weights Try.prog 30, n ≤ reachBytes) → l.length ≤ reachBytes) := by
  rcases open_ints Try.underlying30 Try.underlying5 (by kernel_rfl) h with ⟨hcs, _⟩ | ⟨x, l, c, zs, hcs, _, hl', hm', hz, hdx, hcell, hwz⟩
  · exact ⟨none, 0, [], hcs, by simp, Bs.nil _ _ _, fun _ => by simp⟩
  · obtain ⟨l', q1, q2, q3⟩ := bs_cells hl' hm' (by simpa using hz) hcell hwz
    refine ⟨some x, c, l', by rw [q1]; exact hcs, q2, by rw [q1]; exact q3, fun hw => ?_⟩
    have hb1 : Try.prog.bytesOf 5 = 1 := by kernel_rfl
    have h4 := hw (((zs.take l).length + (zs.drop l).length) * Try.prog.bytesOf 5) (by rw [hdx]; simp [DataW.weights, Try.underlying30, lits])
    rw [hb1, List.length_take, List.length_drop] at h4
    simp at hz
    omega

set_option maxRecDepth 100000 in
/-- The cells of an entry. -/
theorem cells_entry {fuel : Nat} {cs : List Value} {y : DataW H × List MemPlace} (h : DataW.trod enc Try.prog W 0 (fun _ => true) true fuel 33 cs = some y) :
    ∃ (e : Ent) (g : Hd), cs = ecells (e, g) ∧ Em W 0 W.heap.size e g ∧ ((∀ n ∈ y.1.weights Try.prog 33, n ≤ reachBytes) → e.key.length ≤ reachBytes ∧ e.val.length ≤ reachBytes) := by
  obtain ⟨y0, y1, y2, y3, n, hx, hl, h0, h1, h2, h3⟩ := trod_struct4 Try.underlying33 h
  have hC : Try.prog.cellsOf 33 = 4 := by kernel_rfl
  have hC0 : Try.prog.cellsOf 30 = 1 := by kernel_rfl
  have hC1 : Try.prog.cellsOf 2 = 1 := by kernel_rfl
  have hC2 : Try.prog.cellsOf 31 = 1 := by kernel_rfl
  rw [hC] at hl
  obtain ⟨a, b, c, d, rfl⟩ : ∃ a b c d, cs = [a, b, c, d] := by
    match cs, hl with
    | [a, b, c, d], _ => exact ⟨a, b, c, d, rfl⟩
  simp only [hC0, hC1, hC2, List.drop_zero, List.take_succ_cons, List.take_zero, List.drop_succ_cons] at h0 h1 h2 h3
  obtain ⟨A, c0, k, e0, bk, hk, wk⟩ := cell_bytes h0
  obtain ⟨s, e1, _, ws⟩ := DataW.trod_int Try.underlying2 h1
  obtain ⟨t, e2, _, wt⟩ := DataW.trod_int Try.underlying31 h2
  obtain ⟨A3, c3, v, e3, bv', hv, wv⟩ := cell_bytes h3
  injection e0 with e0
  injection e1 with e1
  injection e2 with e2
  injection e3 with e3
  subst e0 e1 e2 e3
  have hws := i64_wf ws
  have hwt := i64_wf wt
  refine ⟨⟨k, s, t, v⟩, ⟨A, c0, A3, c3⟩, rfl, ⟨hk, hv, bk, bv', hws.1, hws.2, hwt.1, hwt.2⟩, fun hw => ?_⟩
  have hwe : ∀ n ∈ DataW.weightsEach Try.prog [30, 2, 31, 30] [y0.1, y1.1, y2.1, y3.1], n ≤ reachBytes := fun n hn => hw n (by
    rw [hx]
    simp only [DataW.weights, Try.underlying33]
    exact hn)
  exact ⟨wk fun n hn => hwe n (DataW.weights_mem_each (j := 0) rfl rfl n hn), wv fun n hn => hwe n (DataW.weights_mem_each (j := 3) rfl rfl n hn)⟩

set_option maxRecDepth 100000 in
/-- An entry that came in, by value. -/
theorem open_entry {v : Value} {d : DataW H} {p : List MemPlace} {b0 : Nat} (hv : Value.okWide Try.prog W .any b0 33 v) (h : DataW.Trod enc Try.prog W 0 (fun _ => true) true 33 v d p)
    {ts : List TypeId} {ds : List (DataW H)} (hsz : (DataW.weightsEach Try.prog ts ds).all (· ≤ reachBytes) = true) {jj : Nat} (hts : ts[jj]? = some 33) (hds : ds[jj]? = some d) :
    ∃ (e : Ent) (g : Hd), v = e.at_ g ∧ Em W 0 W.heap.size e g ∧ e.key.length ≤ 140737488351232 ∧ e.val.length ≤ 140737488351232 := by
  obtain ⟨cs, rfl, hs⟩ := okWide_struct Try.underlying33 hv
  obtain ⟨fuel, hf⟩ := h
  obtain ⟨e, g, hc, hm, hw⟩ := cells_entry hf
  have hw2 := hw fun n hn => of_decide_eq_true (List.all_eq_true.1 hsz _ (DataW.weights_mem_each hts hds n hn))
  rw [reach_is] at hw2
  refine ⟨e, g, ?_, hm, hw2⟩
  have hcs : cs.toList = ecells (e, g) := by simpa [Value.cells] using hc
  unfold Ent.at_
  rw [show cs = (ecells (e, g)).toArray by rw [← hcs]]
  rfl

theorem weightsAll_at {P : Program} {e : TypeId} : ∀ {l : List (DataW H)} {d : DataW H}, d ∈ l → ∀ n ∈ d.weights P e, n ∈ DataW.weightsAll P e l
  | d' :: r, d, hd, n, hn => by
    simp only [DataW.weightsAll, List.mem_append]
    rcases List.mem_cons.1 hd with rfl | h
    · exact Or.inl hn
    · exact Or.inr (weightsAll_at h n hn)
set_option maxRecDepth 100000 in
/-- Entries that came in, in a row. -/
theorem open_entries {v : Value} {d : DataW H} {p : List MemPlace} {b0 : Nat} (hv : Value.okWide Try.prog W .any b0 22 v) (h : DataW.Trod enc Try.prog W 0 (fun _ => true) true 22 v d p)
    {ts : List TypeId} {ds : List (DataW H)} (hsz : (DataW.weightsEach Try.prog ts ds).all (· ≤ reachBytes) = true) {jj : Nat} (hts : ts[jj]? = some 22) (hds : ds[jj]? = some d) :
    ∃ (A : Option Addr) (c : Nat) (L : List (Ent × Hd)), v = .slice A L.length c ∧ L.length ≤ c ∧ c ≤ maxLen ∧ Es W 0 W.heap.size A L ∧ (∀ p ∈ L, p.1.key.length ≤ 140737488351232 ∧ p.1.val.length ≤ 140737488351232) ∧ L.length ≤ 2199023255552 := by
  obtain ⟨a0, len0, cap0, rfl⟩ := okWide_slice Try.underlying22 hv
  obtain ⟨fuel, hf⟩ := h
  have hC : Try.prog.cellsOf 33 = 4 := by kernel_rfl
  rcases Go.Deep.open_slice Try.underlying22 hf with ⟨hcs, _⟩ | ⟨a, len, cap, m, n, D, Pl, hcs, _, hl, hm, hmm, hdd, hx⟩
  · simp [Value.cells] at hcs
    obtain ⟨rfl, rfl, rfl⟩ := hcs
    exact ⟨none, 0, [], rfl, by simp, by simp [maxLen], ⟨Sl.nil _ _ _ _, by simp⟩, by simp, by simp⟩
  · simp [Value.cells] at hcs
    obtain ⟨rfl, rfl, rfl⟩ := hcs
    have hmc : m = cap0 := by rw [hmm]; simp
    have hdd1 : d = .slice ((List.range len0).map D) ((List.range (m - len0)).map fun j => D (len0 + j)) := congrArg Prod.fst hdd
    have hwt : ∀ i, i < len0 → ∀ n ∈ (D i).weights Try.prog 33, n ≤ reachBytes := fun i hi n hn => by
      refine of_decide_eq_true (List.all_eq_true.1 hsz _ (DataW.weights_mem_each hts hds n ?_))
      rw [hdd1]
      simp only [DataW.weights, Try.underlying22, List.mem_cons, List.mem_append]
      exact Or.inr (Or.inl (weightsAll_at (List.mem_map.2 ⟨i, List.mem_range.2 hi, rfl⟩) n hn))
    have hlen : len0 ≤ 2199023255552 := by
      have h3 := sized_slice hsz hts (by rw [hds, hdd1]) Try.underlying22
      have hb1 : Try.prog.bytesOf 33 = 64 := by kernel_rfl
      rw [hb1, reach_is] at h3
      simp at h3
      omega
    have each : ∀ i : Nat, ∃ t : Ent × Hd, i < len0 → (∀ j v, j < 4 → (ecells t)[j]? = some v → W.cell? ((a.add (i * 4)).add j) = some v) ∧ Em W 0 W.heap.size t.1 t.2 ∧ t.1.key.length ≤ 140737488351232 ∧ t.1.val.length ≤ 140737488351232 := by
      intro i
      by_cases hi : i < len0
      · obtain ⟨cs', hc', ht'⟩ := hx i (by omega)
        rw [hC] at hc'
        obtain ⟨_, hcl, hat⟩ := World.cells?_some hc'
        obtain ⟨e, g, hcc, hem, hw⟩ := cells_entry ht'
        have hw2 := hw (hwt i hi)
        rw [reach_is] at hw2
        exact ⟨(e, g), fun _ => ⟨fun j v hj hv => by rw [hat j hj, hcc]; exact hv, hem, hw2⟩⟩
      · exact ⟨(⟨[], 0, 0, []⟩, ⟨none, 0, none, 0⟩), fun h => absurd h hi⟩
    obtain ⟨F, hF⟩ := Classical.axiomOfChoice each
    have hat : ∀ i u, (erow ((List.range len0).map F))[i]? = some u → W.cell? (a.add i) = some u := by
      intro i u hu
      have hi : i < len0 * 4 := by
        have := (List.getElem?_eq_some_iff.1 hu).1
        rw [erow_length] at this
        simpa using this
      have hi4 : i / 4 < len0 := by omega
      have e1 : i = i / 4 * 4 + i % 4 := by omega
      rw [e1, erow_at _ (by simpa using hi4) (by omega)] at hu
      have h1 := (hF (i / 4) hi4).1 (i % 4) u (by omega) (by simpa using hu)
      have e2 : (a.add (i / 4 * 4)).add (i % 4) = a.add i := by
        obtain ⟨b, o, s⟩ := a
        have hc0 := (hF 0 (by omega)).1 0 _ (by omega) rfl
        have hs : s = none := by
          have := World.cell?_spot hc0
          simpa [Addr.add] using this
        subst hs
        rw [addr_add, addr_add, addr_add]
        congr 1; omega
      rw [← e2]; exact h1
    refine ⟨some a, cap0, (List.range len0).map F, by simp, by simpa using hl, hm, ⟨?_, ?_⟩, ?_, by simpa using hlen⟩
    · by_cases h0 : len0 = 0
      · exact .inl (by simp [h0, erow])
      · obtain ⟨b, o, spot⟩ := a
        have hc0 := (hF 0 (by omega)).1 0 _ (by omega) rfl
        have hspot : spot = none := by
          have := World.cell?_spot hc0
          simpa [Addr.add] using this
        subst hspot
        have hblt : b < W.heap.size := by
          have := World.block_lt_of_cell? W _ hc0
          rw [addr_add, addr_add] at this
          exact this
        exact .inr ⟨b, o, rfl, Nat.zero_le _, hblt, fun i u hu => by have := hat i u hu; rwa [addr_add] at this⟩
    · intro q hq
      simp only [List.mem_map, List.mem_range] at hq
      obtain ⟨i, hi, rfl⟩ := hq
      exact (hF i hi).2.1
    · intro q hq
      simp only [List.mem_map, List.mem_range] at hq
      obtain ⟨i, hi, rfl⟩ := hq
      exact (hF i hi).2.2
end
end Go.Proofs.Ytjlppjffkebejaa

/- Tables' places: a struct in memory, and rows of them. -/
namespace Go.Proofs.Ytjlppjffkebejaa
open Go.ChangeShapes Go.WideShapes Go.ChangeAt Go.RowKit Go.Joins

structure Tab where
  num : Int
  lev : Int
  fst : List Nat
  lst : List Nat
  siz : Int
structure TabH where
  fstA : Option Addr
  fstc : Nat
  lstA : Option Addr
  lstc : Nat
def tabcells (p : Tab × TabH) : List Value := [.int .i64 p.1.num, .int .i64 p.1.lev, .slice p.2.fstA p.1.fst.length p.2.fstc, .slice p.2.lstA p.1.lst.length p.2.lstc, .int .i64 p.1.siz]
theorem tabcells_length (p : Tab × TabH) : (tabcells p).length = 5 := rfl
def tabrow (L : List (Tab × TabH)) : List Value := L.flatMap tabcells
theorem tabrow_length (L : List (Tab × TabH)) : (tabrow L).length = L.length * 5 := by
  unfold tabrow
  induction L with
  | nil => rfl
  | cons a l ih => rw [List.flatMap_cons, List.length_append, ih, tabcells_length, List.length_cons]; omega
theorem tabrow_append (L R : List (Tab × TabH)) : tabrow (L ++ R) = tabrow L ++ tabrow R := by simp [tabrow]
theorem tabrow_at (L : List (Tab × TabH)) {k j : Nat} (hk : k < L.length) (hj : j < 5) : (tabrow L)[k * 5 + j]? = (tabcells L[k])[j]? := by
  unfold tabrow
  induction L generalizing k with
  | nil => simp at hk
  | cons a l ih =>
    rw [List.flatMap_cons]
    cases k with
    | zero => rw [List.getElem?_append_left (by rw [tabcells_length]; omega)]; simp
    | succ k =>
      rw [List.getElem?_append_right (by rw [tabcells_length]; omega), tabcells_length, show (k + 1) * 5 + j - 5 = k * 5 + j by omega]
      simpa using ih (k := k) (by simpa using hk)
theorem tabrow_one (L : List (Tab × TabH)) : ∀ u ∈ tabrow L, u.oneCell' = true := by
  intro u hu
  unfold tabrow at hu
  obtain ⟨p, _, h⟩ := List.mem_flatMap.1 hu
  simp only [tabcells, List.mem_cons, List.not_mem_nil, or_false] at h
  rcases h with rfl | rfl | rfl | rfl | rfl <;> rfl
/-- What its headers say is there. -/
structure tabAt (w : World) (lo hi : Nat) (p : Tab × TabH) : Prop where
  num1 : -9223372036854775808 ≤ p.1.num
  num2 : p.1.num ≤ 9223372036854775807
  lev1 : -9223372036854775808 ≤ p.1.lev
  lev2 : p.1.lev ≤ 9223372036854775807
  fst : Bs w lo hi (.slice p.2.fstA p.1.fst.length p.2.fstc) p.1.fst
  fstb : ∀ x ∈ p.1.fst, x < 256
  lst : Bs w lo hi (.slice p.2.lstA p.1.lst.length p.2.lstc) p.1.lst
  lstb : ∀ x ∈ p.1.lst, x < 256
  siz1 : -9223372036854775808 ≤ p.1.siz
  siz2 : p.1.siz ≤ 9223372036854775807
theorem tabAt.below {w w' : World} {lo hi B : Nat} {p : Tab × TabH} (m : tabAt w lo hi p) (hb : Below B w w') (hB : hi ≤ B) : tabAt w' lo hi p := ⟨m.num1, m.num2, m.lev1, m.lev2, m.fst.below hb hB, m.fstb, m.lst.below hb hB, m.lstb, m.siz1, m.siz2⟩
theorem tabAt.wide {w : World} {lo hi lo' hi' : Nat} {p : Tab × TabH} (m : tabAt w lo hi p) (h1 : lo' ≤ lo) (h2 : hi ≤ hi') : tabAt w lo' hi' p := ⟨m.num1, m.num2, m.lev1, m.lev2, m.fst.wide h1 h2, m.fstb, m.lst.wide h1 h2, m.lstb, m.siz1, m.siz2⟩
/-- A row of them. -/
structure tabs (w : World) (lo hi : Nat) (A : Option Addr) (L : List (Tab × TabH)) : Prop where
  outer : Sl w lo hi A (tabrow L)
  each : ∀ p ∈ L, tabAt w lo hi p
theorem tabs.below {w w' : World} {lo hi B : Nat} {A : Option Addr} {L : List (Tab × TabH)} (h : tabs w lo hi A L) (hb : Below B w w') (hB : hi ≤ B) : tabs w' lo hi A L := ⟨h.outer.below hb hB, fun p hp => (h.each p hp).below hb hB⟩
theorem tabs.wide {w : World} {lo hi lo' hi' : Nat} {A : Option Addr} {L : List (Tab × TabH)} (h : tabs w lo hi A L) (h1 : lo' ≤ lo) (h2 : hi ≤ hi') : tabs w lo' hi' A L := ⟨h.outer.wide h1 h2, fun p hp => (h.each p hp).wide h1 h2⟩
theorem tabs.next {w w' : World} {lo : Nat} {A : Option Addr} {L : List (Tab × TabH)} (h : tabs w lo w.heap.size A L) (hx : Ext w w') : tabs w' lo w'.heap.size A L := (h.below hx (Nat.le_refl _)).wide (Nat.le_refl _) hx.size
theorem tabs.base {w : World} {lo hi : Nat} {A : Option Addr} {L : List (Tab × TabH)} (h : tabs w lo hi A L) (h0 : 0 < L.length) : ∃ b o, A = some ⟨b, o, none⟩ ∧ lo ≤ b ∧ b < hi := by
  rcases h.outer with h1 | ⟨b, o, rfl, h1, h2, _⟩
  · have := congrArg List.length h1
    rw [tabrow_length] at this
    simp at this; omega
  · exact ⟨b, o, rfl, h1, h2⟩
theorem tabs.get {w : World} {lo hi b o : Nat} {L : List (Tab × TabH)} (h : tabs w lo hi (some ⟨b, o, none⟩) L) {k : Nat} {p : Tab × TabH} (hk : L[k]? = some p) :
    w.cell? ⟨b, o + k * 5, none⟩ = some (.int .i64 p.1.num) ∧ w.cell? ⟨b, o + k * 5 + 1, none⟩ = some (.int .i64 p.1.lev) ∧ w.cell? ⟨b, o + k * 5 + 2, none⟩ = some (.slice p.2.fstA p.1.fst.length p.2.fstc) ∧ w.cell? ⟨b, o + k * 5 + 3, none⟩ = some (.slice p.2.lstA p.1.lst.length p.2.lstc) ∧ w.cell? ⟨b, o + k * 5 + 4, none⟩ = some (.int .i64 p.1.siz) := by
  obtain ⟨hlt, rfl⟩ := List.getElem?_eq_some_iff.1 hk
  have hc : ∀ j u, (tabrow L)[j]? = some u → w.cell? ⟨b, o + j, none⟩ = some u := by
    rcases h.outer with h0 | ⟨b', o', he, _, _, hc⟩
    · have := congrArg List.length h0
      rw [tabrow_length] at this
      simp at this; omega
    · injection he with he
      injection he with e1 e2
      subst e1 e2
      exact hc
  have hj := fun (j : Nat) (hj : j < 5) (u : Value) (hu : (tabcells L[k])[j]? = some u) => hc (k * 5 + j) u ((tabrow_at L hlt hj).trans hu)
  refine ⟨hj 0 (by decide) _ rfl, ?_, ?_, ?_, ?_⟩
  · rw [Nat.add_assoc]; exact hj 1 (by decide) _ rfl
  · rw [Nat.add_assoc]; exact hj 2 (by decide) _ rfl
  · rw [Nat.add_assoc]; exact hj 3 (by decide) _ rfl
  · rw [Nat.add_assoc]; exact hj 4 (by decide) _ rfl
section
variable {H : Type} {enc : TypeId × Value → H} {W : World}

set_option maxRecDepth 100000 in
/-- Its cells. -/
theorem cells_tab {fuel : Nat} {cs : List Value} {y : DataW H × List MemPlace} (h : DataW.trod enc Try.prog W 0 (fun _ => true) true fuel 85 cs = some y) :
    ∃ p : Tab × TabH, cs = tabcells p ∧ tabAt W 0 W.heap.size p ∧ ((∀ n ∈ y.1.weights Try.prog 85, n ≤ reachBytes) → p.1.fst.length ≤ reachBytes ∧ p.1.lst.length ≤ reachBytes) := by
  obtain ⟨xs, n, _, hx, hl, hlen, hf⟩ := DataW.trod_struct Try.underlying85 h
  obtain ⟨y0, y1, y2, y3, y4, rfl⟩ : ∃ y0 y1 y2 y3 y4, xs = [y0, y1, y2, y3, y4] := by
    match xs, hlen with
    | [y0, y1, y2, y3, y4], _ => exact ⟨y0, y1, y2, y3, y4, rfl⟩
  have h0 : DataW.trod enc Try.prog W 0 (fun _ => true) true n 2 ((cs.drop 0).take (Try.prog.cellsOf 2)) = some y0 := hf 0 _ rfl
  have h1 : DataW.trod enc Try.prog W 0 (fun _ => true) true n 3 ((cs.drop 1).take (Try.prog.cellsOf 3)) = some y1 := hf 1 _ rfl
  have h2 : DataW.trod enc Try.prog W 0 (fun _ => true) true n 30 ((cs.drop 2).take (Try.prog.cellsOf 30)) = some y2 := hf 2 _ rfl
  have h3 : DataW.trod enc Try.prog W 0 (fun _ => true) true n 30 ((cs.drop 3).take (Try.prog.cellsOf 30)) = some y3 := hf 3 _ rfl
  have h4 : DataW.trod enc Try.prog W 0 (fun _ => true) true n 2 ((cs.drop 4).take (Try.prog.cellsOf 2)) = some y4 := hf 4 _ rfl
  have hC : Try.prog.cellsOf 85 = 5 := by kernel_rfl
  have hC0 : Try.prog.cellsOf 2 = 1 := by kernel_rfl
  have hC1 : Try.prog.cellsOf 3 = 1 := by kernel_rfl
  have hC2 : Try.prog.cellsOf 30 = 1 := by kernel_rfl
  rw [hC] at hl
  obtain ⟨c0_, c1_, c2_, c3_, c4_, rfl⟩ : ∃ c0_ c1_ c2_ c3_ c4_, cs = [c0_, c1_, c2_, c3_, c4_] := by
    match cs, hl with
    | [c0_, c1_, c2_, c3_, c4_], _ => exact ⟨c0_, c1_, c2_, c3_, c4_, rfl⟩
  simp only [hC0, hC1, hC2, List.drop_zero, List.take_succ_cons, List.take_zero, List.drop_succ_cons] at h0 h1 h2 h3 h4
  obtain ⟨s0, e0, _, ws0⟩ := DataW.trod_int Try.underlying2 h0
  injection e0 with e0
  obtain ⟨s1, e1, _, ws1⟩ := DataW.trod_int Try.underlying3 h1
  injection e1 with e1
  obtain ⟨A2, k2, l2, e2, bk2, hk2, wk2⟩ := cell_bytes h2
  injection e2 with e2
  obtain ⟨A3, k3, l3, e3, bk3, hk3, wk3⟩ := cell_bytes h3
  injection e3 with e3
  obtain ⟨s4, e4, _, ws4⟩ := DataW.trod_int Try.underlying2 h4
  injection e4 with e4
  subst e0 e1 e2 e3 e4
  have hw0 := i64_wf ws0
  have hw1 := i64_wf ws1
  have hw4 := i64_wf ws4
  refine ⟨(⟨s0, s1, l2, l3, s4⟩, ⟨A2, k2, A3, k3⟩), rfl, ⟨hw0.1, hw0.2, hw1.1, hw1.2, hk2, bk2, hk3, bk3, hw4.1, hw4.2⟩, fun hw => ?_⟩
  have hwe : ∀ n ∈ DataW.weightsEach Try.prog [2, 3, 30, 30, 2] [y0.1, y1.1, y2.1, y3.1, y4.1], n ≤ reachBytes := fun n hn => hw n (by
    rw [hx]
    simp only [DataW.weights, Try.underlying85]
    exact hn)
  exact ⟨wk2 fun n hn => hwe n (DataW.weights_mem_each (j := 2) rfl rfl n hn), wk3 fun n hn => hwe n (DataW.weights_mem_each (j := 3) rfl rfl n hn)⟩

set_option maxRecDepth 100000 in
/-- A row of them that came in. -/
theorem open_tabs {v : Value} {d : DataW H} {p : List MemPlace} {b0 : Nat} (hv : Value.okWide Try.prog W .any b0 34 v) (h : DataW.Trod enc Try.prog W 0 (fun _ => true) true 34 v d p)
    (hsz : ∀ n ∈ d.weights Try.prog 34, n ≤ reachBytes) :
    ∃ (A : Option Addr) (c : Nat) (L : List (Tab × TabH)), v = .slice A L.length c ∧ L.length ≤ c ∧ c ≤ maxLen ∧ tabs W 0 W.heap.size A L ∧ (∀ p ∈ L, p.1.fst.length ≤ 140737488351232 ∧ p.1.lst.length ≤ 140737488351232) ∧ L.length ≤ 140737488351232 := by
  obtain ⟨a0, len0, cap0, rfl⟩ := okWide_slice Try.underlying34 hv
  obtain ⟨fuel, hf⟩ := h
  have hC : Try.prog.cellsOf 85 = 5 := by kernel_rfl
  rcases Go.Deep.open_slice Try.underlying34 hf with ⟨hcs, _⟩ | ⟨a, len, cap, m, n, D, Pl, hcs, _, hl, hm, hmm, hdd, hx⟩
  · simp [Value.cells] at hcs
    obtain ⟨rfl, rfl, rfl⟩ := hcs
    exact ⟨none, 0, [], rfl, by simp, by simp [maxLen], ⟨Sl.nil _ _ _ _, by simp⟩, by simp, by simp⟩
  · simp [Value.cells] at hcs
    obtain ⟨rfl, rfl, rfl⟩ := hcs
    have hmc : m = cap0 := by rw [hmm]; simp
    have hdd1 : d = .slice ((List.range len0).map D) ((List.range (m - len0)).map fun j => D (len0 + j)) := congrArg Prod.fst hdd
    have hwt : ∀ i, i < len0 → ∀ n ∈ (D i).weights Try.prog 85, n ≤ reachBytes := fun i hi n hn => by
      refine hsz n ?_
      rw [hdd1]
      simp only [DataW.weights, Try.underlying34, List.mem_cons, List.mem_append]
      exact Or.inr (Or.inl (weightsAll_at (List.mem_map.2 ⟨i, List.mem_range.2 hi, rfl⟩) n hn))
    have hlen : len0 ≤ 140737488351232 := by
      have hb1 : 1 ≤ Try.prog.bytesOf 85 := by
        have : Try.prog.bytesOf 85 = 72 := by kernel_rfl
        omega
      have h3 := hsz ((len0 + (m - len0)) * Try.prog.bytesOf 85) (by
        rw [hdd1]
        simp [DataW.weights, Try.underlying34])
      rw [reach_is] at h3
      have h4 : len0 * 1 ≤ (len0 + (m - len0)) * Try.prog.bytesOf 85 := Nat.mul_le_mul (by omega) hb1
      omega
    have each : ∀ i : Nat, ∃ t : Tab × TabH, i < len0 → (∀ j v, j < 5 → (tabcells t)[j]? = some v → W.cell? ((a.add (i * 5)).add j) = some v) ∧ tabAt W 0 W.heap.size t ∧ t.1.fst.length ≤ 140737488351232 ∧ t.1.lst.length ≤ 140737488351232 := by
      intro i
      by_cases hi : i < len0
      · obtain ⟨cs', hc', ht'⟩ := hx i (by omega)
        rw [hC] at hc'
        obtain ⟨_, hcl, hat⟩ := World.cells?_some hc'
        obtain ⟨e, hcc, hem, hw⟩ := cells_tab ht'
        have hw2 := hw (hwt i hi)
        rw [reach_is] at hw2
        exact ⟨e, fun _ => ⟨fun j v hj hv => by rw [hat j hj, hcc]; exact hv, hem, hw2⟩⟩
      · exact ⟨(⟨0, 0, [], [], 0⟩, ⟨none, 0, none, 0⟩), fun h => absurd h hi⟩
    obtain ⟨F, hF⟩ := Classical.axiomOfChoice each
    have hat : ∀ i u, (tabrow ((List.range len0).map F))[i]? = some u → W.cell? (a.add i) = some u := by
      intro i u hu
      have hi : i < len0 * 5 := by
        have := (List.getElem?_eq_some_iff.1 hu).1
        rw [tabrow_length] at this
        simpa using this
      have hi4 : i / 5 < len0 := by omega
      have e1 : i = i / 5 * 5 + i % 5 := by omega
      rw [e1, tabrow_at _ (by simpa using hi4) (by omega)] at hu
      have h1 := (hF (i / 5) hi4).1 (i % 5) u (by omega) (by simpa using hu)
      have e2 : (a.add (i / 5 * 5)).add (i % 5) = a.add i := by
        obtain ⟨b, o, s⟩ := a
        have hc0 := (hF 0 (by omega)).1 0 _ (by omega) rfl
        have hs : s = none := by
          have := World.cell?_spot hc0
          simpa [Addr.add] using this
        subst hs
        rw [addr_add, addr_add, addr_add]
        congr 1; omega
      rw [← e2]; exact h1
    refine ⟨some a, cap0, (List.range len0).map F, by simp, by simpa using hl, hm, ⟨?_, ?_⟩, ?_, by simpa using hlen⟩
    · by_cases h0 : len0 = 0
      · exact .inl (by simp [h0, tabrow])
      · obtain ⟨b, o, spot⟩ := a
        have hc0 := (hF 0 (by omega)).1 0 _ (by omega) rfl
        have hspot : spot = none := by
          have := World.cell?_spot hc0
          simpa [Addr.add] using this
        subst hspot
        have hblt : b < W.heap.size := by
          have := World.block_lt_of_cell? W _ hc0
          rw [addr_add, addr_add] at this
          exact this
        exact .inr ⟨b, o, rfl, Nat.zero_le _, hblt, fun i u hu => by have := hat i u hu; rwa [addr_add] at this⟩
    · intro q hq
      simp only [List.mem_map, List.mem_range] at hq
      obtain ⟨i, hi, rfl⟩ := hq
      exact (hF i hi).2.1
    · intro q hq
      simp only [List.mem_map, List.mem_range] at hq
      obtain ⟨i, hi, rfl⟩ := hq
      exact (hF i hi).2.2
end
end Go.Proofs.Ytjlppjffkebejaa

/- Versions: plain mathematics. How tables stand to each other; which may be. -/
namespace Go.Proofs.Ytjlppjffkebejaa
open Go.ChangeShapes Go.WideShapes Go.ChangeAt Go.RowKit

/-- Whole numbers, held against each other. -/
def cmpI (a b : Int) : Int := if a < b then -1 else if b < a then 1 else 0
theorem cmpI_lt {a b : Int} : cmpI a b < 0 ↔ a < b := by unfold cmpI; split <;> (try split) <;> omega
/-- How two tables stand in a version. -/
def cmpT (a b : Tab) : Int := if a.lev = b.lev then (if a.lev = 0 then cmpI b.num a.num else cmpK a.fst b.fst) else cmpI a.lev b.lev
theorem cmpT_lt {a b : Tab} : cmpT a b < 0 ↔ a.lev < b.lev ∨ (a.lev = b.lev ∧ ((a.lev = 0 ∧ b.num < a.num) ∨ (a.lev ≠ 0 ∧ cmpK a.fst b.fst < 0))) := by
  unfold cmpT
  by_cases h : a.lev = b.lev
  · rw [if_pos h]
    by_cases h0 : a.lev = 0
    · rw [if_pos h0, cmpI_lt]
      exact ⟨fun h2 => .inr ⟨h, .inl ⟨h0, h2⟩⟩, fun h2 => by rcases h2 with h2 | ⟨_, ⟨_, h2⟩ | ⟨h2, _⟩⟩; omega; exact h2; exact absurd h0 h2⟩
    · rw [if_neg h0]
      exact ⟨fun h2 => .inr ⟨h, .inr ⟨h0, h2⟩⟩, fun h2 => by rcases h2 with h2 | ⟨_, ⟨h2, _⟩ | ⟨_, h2⟩⟩; omega; exact absurd h2 h0; exact h2⟩
  · rw [if_neg h, cmpI_lt]
    exact ⟨fun h2 => .inl h2, fun h2 => by rcases h2 with h2 | ⟨h2, _⟩; exact h2; exact absurd h2 h⟩
/-- May a key, may a place be? -/
def keyM (k : List Nat) : Bool := mayN k.length 1 2 0
theorem keyM_iff {k : List Nat} : keyM k = true ↔ 1 ≤ k.length ∧ k.length ≤ 32 := by
  unfold keyM mayN
  simp
def placeM (t : Tab) : Bool := decide (1 ≤ t.num) && decide (t.num ≤ 2147483647) && (decide (0 ≤ t.lev) && decide (t.lev < 4)) && (decide (1 ≤ t.siz) && decide (t.siz ≤ 2147483647)) && (keyM t.fst && keyM t.lst && decide (cmpK t.fst t.lst ≤ 0))
theorem placeM_iff {t : Tab} : placeM t = true ↔ 1 ≤ t.num ∧ t.num ≤ 2147483647 ∧ 0 ≤ t.lev ∧ t.lev < 4 ∧ 1 ≤ t.siz ∧ t.siz ≤ 2147483647 ∧ keyM t.fst = true ∧ keyM t.lst = true ∧ cmpK t.fst t.lst ≤ 0 := by
  unfold placeM
  simp only [Bool.and_eq_true, decide_eq_true_eq]
  constructor
  · rintro ⟨⟨⟨⟨h1, h2⟩, h3, h4⟩, h5, h6⟩, ⟨h7, h8⟩, h9⟩; exact ⟨h1, h2, h3, h4, h5, h6, h7, h8, h9⟩
  · rintro ⟨h1, h2, h3, h4, h5, h6, h7, h8, h9⟩; exact ⟨⟨⟨⟨h1, h2⟩, h3, h4⟩, h5, h6⟩, ⟨h7, h8⟩, h9⟩
/-- May one stand just ahead of another one? -/
def aheadT (a b : Tab) : Bool := if a.lev = b.lev ∧ 0 < a.lev then decide (cmpK a.lst b.fst < 0) else decide (cmpT a b < 0)
end Go.Proofs.Ytjlppjffkebejaa
