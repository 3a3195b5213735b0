/- ikey's Read. -/
import Derived.Test.YtcofnbeemfhcpaaIbytes
import Derived.Test.YtcofnbeemfhcpaaRboth
import Derived.Laws.ResultCell
import Derived.Laws.Rows
namespace Go.Proofs.Ytcofnbeemfhcpaa
open Go.ChangeShapes Go.WideShapes Go.ChangeAt Go.RowKit

theorem Own.nil (B : Nat) (w : World) : Own B [] (.slice none 0 0) w := World.ownsRow_nil _ _ _ _
theorem Own.grown {B r : Nat} {l : List Nat} {v : Value} {w w' : World} (h : Own B l v w) (hg : w.grownBy w' (some r)) (hr : r < B) : Own B l v w' := own_grown h hg hr
theorem Bytes_own {r lo hi : Nat} {l : List Nat} {w : World} (h : Rd w r lo hi l) (hl : l.length ≤ 1000000000000) {most : Int} (hm1 : -9223372036854775808 ≤ most) (hm2 : most ≤ 9223372036854775807) :
    Calls Try.prog 19 #[.pointer (some ⟨r, 0, none⟩), .int .i64 most] w fun e w' => ∃ (A : Option Addr) (c : Nat) (bs : List Nat) (k : Int) (rest : List Nat), OutText most l bs k rest ∧ Own w.heap.size bs (.slice A bs.length c) w' ∧ e = .returned (.tuple #[.slice A bs.length c, .int .i64 k]) ∧ Rd w' r lo hi rest ∧ w.grownBy w' (some r) := by
  refine (Bytes_any most hm1 hm2 r lo hi l w h hl).mono ?_
  rintro e w' (⟨v, rest, ⟨bs, h1, h2, h3, h4⟩, rfl, hr, hg⟩ | ⟨k, he, hk, rfl, hr, hg⟩)
  · have h5 : Own w.heap.size bs v w' := h4
    obtain ⟨A, c, rfl⟩ := h5.slice
    exact ⟨A, c, bs, 0, rest, .inl ⟨rfl, h1, h2, h3⟩, h5, rfl, hr, hg⟩
  · exact ⟨none, 0, [], k, l, .inr ⟨hk, he, rfl, rfl⟩, Own.nil _ _, rfl, hr, hg⟩

theorem OutText.len {most : Int} {l bs rest : List Nat} {k : Int} (h : OutText most l bs k rest) : bs.length ≤ l.length ∧ rest.length ≤ l.length ∧ (∀ x ∈ bs, x ∈ l) := by
  rcases h with ⟨_, _, _, rfl⟩ | ⟨_, _, rfl, rfl⟩
  · refine ⟨?_, ?_, fun x hx => ?_⟩
    · unfold bytesForm; simp only [List.length_append]; omega
    · simp only [List.length_append]; omega
    · unfold bytesForm; simp [hx]
  · simp
theorem OutNum.len {l rest : List Nat} {n : Nat} {k : Int} (h : OutNum l n k rest) : rest.length ≤ l.length ∧ U64 n := by
  rcases h with ⟨_, hb⟩ | ⟨_, _, rfl, rfl⟩
  · refine ⟨?_, hb.n64⟩
    rw [hb.eq, List.length_append]; omega
  · exact ⟨Nat.le_refl _, ⟨by omega⟩⟩

/-- What is read in a row, where an entry stands. -/
theorem read_is {b kb vb r1 r2 r3 r4 : List Nat} {n d : Nat} {k1 k2 k3 k4 : Int} (h1 : OutText 32 b kb k1 r1) (h2 : OutNum r1 n k2 r2) (h3 : OutNum r2 d k3 r3) (h4 : OutText 65536 r3 vb k4 r4) {e : Ent} (he : IsE b e) :
    e = ⟨kb, n, d, vb⟩ ∧ k1 = 0 ∧ k2 = 0 ∧ k3 = 0 ∧ (e.kind = 1 → k4 = 0) ∧ (e.kind = 2 → r3 = []) ∧ r4 = [] := by
  obtain ⟨hm, rfl⟩ := he
  obtain ⟨u1, u2, u3, u4⟩ := Ent.may_u64 hm
  obtain ⟨a1, a2, a3, a4, a5⟩ := mayN_iff.1 hm
  unfold Ent.form at h1
  obtain ⟨rfl, rfl, rfl⟩ := h1.same (.inl ⟨rfl, by omega, u1, rfl⟩)
  obtain ⟨rfl, rfl, rfl⟩ := h2.same (.inl ⟨rfl, u2, rfl⟩)
  obtain ⟨rfl, rfl, rfl⟩ := h3.same (.inl ⟨rfl, u3, rfl⟩)
  have e1 : ((e.seq.toNat : Nat) : Int) = e.seq := by omega
  have e2 : ((e.kind.toNat : Nat) : Int) = e.kind := by omega
  rcases a5 with ⟨a5, a6⟩ | ⟨a5, a6⟩
  · rw [if_pos a5] at h4
    obtain ⟨rfl, rfl, rfl⟩ := h4.same (.inl ⟨rfl, by omega, u4, (List.append_nil _).symm⟩)
    refine ⟨Ent.ext rfl e1.symm e2.symm rfl, rfl, rfl, rfl, fun _ => rfl, fun h => by omega, rfl⟩
  · rw [if_neg (by omega)] at h4
    have hv : vb = [] ∧ r4 = [] := by
      rcases h4 with ⟨_, _, _, h⟩ | ⟨_, _, rfl, rfl⟩
      · have h5 := congrArg List.length h
        have h6 := (bytesForm_len (l := vb) ⟨by omega⟩)
        simp only [List.length_append, List.length_nil] at h5
        omega
      · exact ⟨rfl, rfl⟩
    obtain ⟨rfl, rfl⟩ := hv
    refine ⟨Ent.ext rfl e1.symm e2.symm (List.eq_nil_of_length_eq_zero a6), rfl, rfl, rfl, fun h => by omega, fun _ => by rw [if_neg (by omega)], rfl⟩

/-- An entry of nothing. -/
def noE : Value := .agg #[.slice none 0 0, .int .i64 0, .int .i64 0, .slice none 0 0]
/-- What Read answers. -/
def ReadAns (w : World) (b : List Nat) (x : Ending) (w' : World) : Prop :=
  Ext w w' ∧ ((∃ (e : Ent) (g : Hd), IsE b e ∧ x = .returned (.tuple #[e.at_ g, .int .i64 0]) ∧ Own w.heap.size e.key (.slice g.kA e.key.length g.kc) w' ∧ Own w.heap.size e.val (.slice g.vA e.val.length g.vc) w') ∨
    ((∀ e, ¬ IsE b e) ∧ x = .returned (.tuple #[noE, .int .i64 4])))

theorem entry_ret {fn : Func} {tmps : Array Value} {w : World} {g : Nat} {p q : Tmp} {c : Array Value} {k : Value} {R : Ending → World → Prop} (hr : fn.results = #[.cell p 25, .tmp q]) (h2 : tmps.getD p undef = .pointer (some ⟨g, 0, none⟩)) (h3 : tmps.getD q undef = k)
    (hc : c.size = 4) (hg : w.heap[g]? = some (.cells c 25 (0, 0))) (h : R (.returned (.tuple #[.agg c, k])) w) : bodyPost Try.prog fn R .ret { tmps := tmps, defers := [] } w := by
  refine ⟨rfl, .tuple #[.agg c, k], ?_, h⟩
  have hi : (Try.prog.info? 25).map (·.size) = some 4 := by kernel_rfl
  have hl := run_loadVar_row (P := Try.prog) w g 25 25 c (0, 0) _ hg Try.underlying25 rfl (by rw [hc]; exact hi)
  have ha : (asAddr (.pointer (some ⟨g, 0, none⟩))).run Try.prog w = .ok ⟨g, 0, none⟩ w := rfl
  rw [results_cell_tmp hr, h2, h3, ha, Result.andThen_ok, hl, Result.andThen_ok]
/-- Four cells of a block, set. -/
theorem set_four {u : World} {g : Nat} {a b c d x y z t : Value} {ty : TypeId} (h : u.heap[g]? = some (.cells #[a, b, c, d] ty (0, 0))) :
    ((((u.setCell ⟨g, 0, none⟩ x).setCell ⟨g, 1, none⟩ y).setCell ⟨g, 2, none⟩ z).setCell ⟨g, 3, none⟩ t).heap[g]? = some (.cells #[x, y, z, t] ty (0, 0)) := by
  have h1 := heap_setCell_same u g 0 _ _ x h
  have h2 := heap_setCell_same (u.setCell ⟨g, 0, none⟩ x) g 1 _ _ y h1
  have h3 := heap_setCell_same ((u.setCell ⟨g, 0, none⟩ x).setCell ⟨g, 1, none⟩ y) g 2 _ _ z h2
  have h4 := heap_setCell_same (((u.setCell ⟨g, 0, none⟩ x).setCell ⟨g, 1, none⟩ y).setCell ⟨g, 2, none⟩ z) g 3 _ _ t h3
  rw [h4]; rfl
theorem frozen_four {u : World} {g j : Nat} {c : Array Value} {ty : TypeId} (h : u.heap[g]? = some (.cells c ty (0, 0))) : u.frozen? ⟨g, j, none⟩ = false := by simp [World.frozen?, h]

set_option maxRecDepth 100000 in
set_option maxHeartbeats 4000000 in
theorem read_any {w : World} {lo hi : Nat} {v : Value} {b : List Nat} (hv : Bs w lo hi v b) (hhi : hi ≤ w.heap.size) (hb : ∀ x ∈ b, x < 256) (hl : b.length ≤ 1000000000000) : Calls Try.prog 7 #[v] w (ReadAns w b) := by
  obtain ⟨w1, hw1⟩ : ∃ w1, w1 = w.alloc (.cells #[.slice none 0 0, .int .i64 0, .int .i64 0, .slice none 0 0] 25) := ⟨_, rfl⟩
  have HX1 : Hid (Ext w w1) := by rw [hw1]; exact ext_alloc _ _
  have HZ1 : Hid (w1.heap.size = w.heap.size + 1) := by rw [hw1]; simp [Hid]
  have HR1 : Hid (w1.heap[w.heap.size]? = some (.cells #[.slice none 0 0, .int .i64 0, .int .i64 0, .slice none 0 0] 25 (0, 0))) := by rw [hw1]; exact heap_at _ _ rfl
  have HV := Lib.hid hv
  have HO := Lib.hid (open_any v lo hi b w1 (hv.below HX1.out hhi) (Nat.le_trans hhi HX1.out.size) hl hb)
  have HHI := Lib.hid hhi
  have HL := Lib.hid hl
  have HBY := Lib.hid hb
  obtain ⟨A, c, rfl, _, _, _, _⟩ := hv
  clear hhi hb hl
  go_enter Try.func7, Try.ntmps7
  go_wp2_with fail
  rw [← hw1]
  refine Calls.mono HO.out ?_
  rintro x w2 ⟨r, rlo, rhi, rfl, hrd, hr, hlo, hb2⟩
  have HRD := Lib.hid hrd
  have HR := Lib.hid hr
  have HX2 : Hid (Below w1.heap.size w1 w2) := hb2
  clear hrd hr hlo hb2 HO
  go_wp2_with fail
  refine (Bytes_own HRD.out HL.out (by decide) (by decide)).mono ?_
  rintro x w3 ⟨kA, kc, kb, k1, r1, ho1, hown, rfl, hrd, hg⟩
  have HO1 := Lib.hid ho1
  have HK3 := Lib.hid hown
  have HX3 : Hid (Below w1.heap.size w1 w3) := HX2.out.grown hg HX2.out.size (fun k hk => by injection hk with hk; have := HR.out; omega)
  have HRD3 := Lib.hid hrd
  have HRL : Hid (r < w2.heap.size) := HRD.out.lt
  clear ho1 hown hrd hg HRD
  go_wp2_with fail
  refine (Number_out HRD3.out).mono ?_
  rintro x w4 ⟨n, k2, r2, ho2, rfl, hrd, hg⟩
  have HO2 := Lib.hid ho2
  have HK4 := Lib.hid (HK3.out.grown hg HRL.out)
  have HX4 : Hid (Below w1.heap.size w1 w4) := HX3.out.grown hg HX3.out.size (fun k hk => by injection hk with hk; have := HR.out; omega)
  have HRD4 := Lib.hid hrd
  clear ho2 hrd hg HRD3
  go_wp2_with fail
  refine (Number_out HRD4.out).mono ?_
  rintro x w5 ⟨d, k3, r3, ho3, rfl, hrd, hg⟩
  have HO3 := Lib.hid ho3
  have HK5 := Lib.hid (HK4.out.grown hg HRL.out)
  have HX5 : Hid (Below w1.heap.size w1 w5) := HX4.out.grown hg HX4.out.size (fun k hk => by injection hk with hk; have := HR.out; omega)
  have HRD5 := Lib.hid hrd
  clear ho3 hrd hg HRD4
  have HL3 : Hid (r3.length ≤ 1000000000000) := by
    have a1 := HO1.out.len.2.1; have a2 := HO2.out.len.1; have a3 := HO3.out.len.1; have a4 := HL.out
    unfold Hid; omega
  go_wp2_with fail
  refine (Bytes_own HRD5.out HL3.out (by decide) (by decide)).mono ?_
  rintro x w6 ⟨vA, vc, vb, k4, r4, ho4, hown, rfl, hrd, hg⟩
  have HO4 := Lib.hid ho4
  have HV6 : Hid (Own w1.heap.size vb (.slice vA vb.length vc) w6) := hown.base HX5.out.size
  have HK6 := Lib.hid (HK5.out.grown hg HRL.out)
  have HX6 : Hid (Below w1.heap.size w1 w6) := HX5.out.grown hg HX5.out.size (fun k hk => by injection hk with hk; have := HR.out; omega)
  clear ho4 hrd hg hown HRD5
  go_wp2_with fail
  obtain ⟨s, hs⟩ : ∃ s, s = wrap64 (n : Int) := ⟨_, rfl⟩
  obtain ⟨t, ht⟩ : ∃ t, t = wrap64 (d : Int) := ⟨_, rfl⟩
  rw [← hs, ← ht]
  have HS := Lib.hid (And.intro hs ht)
  clear hs ht
  obtain ⟨e, he⟩ : ∃ e : Ent, e = ⟨kb, s, t, vb⟩ := ⟨_, rfl⟩
  obtain ⟨g, hg⟩ : ∃ g : Hd, g = ⟨kA, kc, vA, vc⟩ := ⟨_, rfl⟩
  have HONE : Hid (∀ e', IsE b e' → e' = e) := fun e' h => by
    have h1 := (read_is HO1.out HO2.out HO3.out HO4.out h).1
    have h2 := mayN_iff.1 h.1
    rw [h1] at h2 ⊢
    dsimp only at h2
    rw [he, HS.out.1, HS.out.2]
    unfold wrap64
    refine Ent.ext rfl ?_ ?_ rfl <;> dsimp only <;> omega
  obtain ⟨w7, hw7⟩ : ∃ w7, w7 = w6.alloc (.cells #[.slice kA kb.length kc, .int .i64 s, .int .i64 t, .slice vA vb.length vc] 25) := ⟨_, rfl⟩
  have HX67 : Hid (Ext w6 w7) := by rw [hw7]; exact ext_alloc _ _
  have HX7 : Hid (Below w1.heap.size w1 w7) := HX6.out.trans (HX67.out.mono HX6.out.size)
  have HE7 : Hid (w7.heap[w6.heap.size]? = some (.cells #[.slice kA kb.length kc, .int .i64 s, .int .i64 t, .slice vA vb.length vc] 25 (0, 0))) := by rw [hw7]; exact heap_at _ _ rfl
  have HL6 : Hid (w1.heap.size ≤ w6.heap.size) := HX6.out.size
  have HK7 : Hid (Own w1.heap.size kb (.slice kA kb.length kc) w7) := (HK6.out.base HX2.out.size).below HX67.out
  have HV7 : Hid (Own w1.heap.size vb (.slice vA vb.length vc) w7) := HV6.out.below HX67.out
  have HM7 : Hid (Em w7 0 w7.heap.size e g) := by
    have b1 : ∀ x ∈ kb, x < 256 := fun x hx => HBY.out x (HO1.out.len.2.2 x hx)
    rw [he, hg]
    refine ⟨HK7.out.bs, HV7.out.bs, b1, fun x hx => ?_, ?_, ?_, ?_, ?_⟩
    · have h3 := HO4.out.len.2.2 x hx
      have sub2 : ∀ y ∈ r1, y ∈ b := fun y hy => by
        rcases HO1.out with ⟨_, _, _, h⟩ | ⟨_, _, h, _⟩
        · rw [h]; simp [hy]
        · rw [h] at hy; exact hy
      have sub3 : ∀ y ∈ r2, y ∈ r1 := fun y hy => by
        rcases HO2.out with ⟨_, h⟩ | ⟨_, _, h, _⟩
        · rw [h.eq]; simp [hy]
        · rw [h] at hy; exact hy
      have sub4 : ∀ y ∈ r3, y ∈ r2 := fun y hy => by
        rcases HO3.out with ⟨_, h⟩ | ⟨_, _, h, _⟩
        · rw [h.eq]; simp [hy]
        · rw [h] at hy; exact hy
      exact HBY.out x (sub2 x (sub3 x (sub4 x h3)))
    all_goals dsimp only; first | rw [HS.out.1] | rw [HS.out.2]
    all_goals unfold wrap64; omega
  rw [← hw7]
  have HW : Hid (w7.heap.size = w6.heap.size + 1) := by rw [hw7]; simp [Hid]
  have hv : (.agg #[.slice kA kb.length kc, .int .i64 s, .int .i64 t, .slice vA vb.length vc] : Value) = e.at_ g := by rw [he, hg]; rfl
  clear hw7
  have HB := Lib.hid (ebytes_any HM7.out (Nat.le_refl _))
  rw [← hv] at HB
  have HE := Lib.hid he
  have HG := Lib.hid hg
  have HVE := Lib.hid hv
  clear he hg hv
  refine Calls.mono HB.out ?_
  rintro x w8 ⟨hx8, (⟨hmay, A', c', rfl, ho8⟩ | ⟨hmay, rfl⟩)⟩
  · have HX8 : Hid (Below w1.heap.size w1 w8) := HX7.out.trans (hx8.mono HX7.out.size)
    have HXX := Lib.hid hx8
    have HMAY := Lib.hid hmay
    have HF8 := Lib.hid (equal_any ho8.bs (HV.out.below (Ext.trans HX1.out HX8.out) HHI.out) (Ent.form_lt HM7.out.bk HM7.out.bv) HBY.out)
    have hblk := HX8.out.block w.heap.size (by have := HZ1.out; omega)
    rw [HR1.out] at hblk
    have q0 := cell_of hblk (k := 0) rfl
    have q1 := cell_of hblk (k := 1) rfl
    have q2 := cell_of hblk (k := 2) rfl
    have q3 := cell_of hblk (k := 3) rfl
    have z0 := frozen_four hblk (j := 0)
    have z1 := frozen_four hblk (j := 1)
    have z2 := frozen_four hblk (j := 2)
    have z3 := frozen_four hblk (j := 3)
    have HBLK := Lib.hid hblk
    have hblk2 := (ext_heap hx8 HE7.out)
    have y0 := cell_of hblk2 (k := 0) rfl
    have y1 := cell_of hblk2 (k := 1) rfl
    have y2 := cell_of hblk2 (k := 2) rfl
    have y3 := cell_of hblk2 (k := 3) rfl
    obtain ⟨z, hz⟩ : ∃ z, z = decide (e.form = b) := ⟨_, rfl⟩
    rw [← hz] at HF8
    have HZ := Lib.hid hz
    clear hx8 hmay ho8 hblk hblk2 hz
    go_wp2_with fail
    refine Calls.mono HF8.out ?_
    rintro x w9 ⟨rfl, rfl⟩
    have HEXT : Hid (Ext w w9) := Ext.trans HX1.out HX8.out
    cases z
    · go_wp2_with fail
      refine entry_ret (p := 2) (q := 3) (by kernel_rfl) rfl rfl rfl (set_four HBLK.out) ?_
      refine ⟨Below.setCell (Below.setCell (Below.setCell (Below.setCell HEXT.out (Nat.le_refl _) _) (Nat.le_refl _) _) (Nat.le_refl _) _) (Nat.le_refl _) _, .inr ⟨fun e' h => ?_, rfl⟩⟩
      have h1 := HONE.out e' h
      subst h1
      exact absurd h.2 (of_decide_eq_false HZ.out.symm)
    · go_wp2_with fail
      refine entry_ret (p := 2) (q := 3) (by kernel_rfl) rfl rfl rfl (set_four HBLK.out) ?_
      refine ⟨Below.setCell (Below.setCell (Below.setCell (Below.setCell HEXT.out (Nat.le_refl _) _) (Nat.le_refl _) _) (Nat.le_refl _) _) (Nat.le_refl _) _, .inl ⟨e, g, ⟨HMAY.out, of_decide_eq_true HZ.out.symm⟩, by rw [← HVE.out]; rfl, ?_, ?_⟩⟩
      · rw [HE.out, HG.out]
        refine row_kept (HK7.out.below HXX.out |>.base HX1.out.size) (fun q hq => ?_)
        have := (row_lt (HK7.out.below HXX.out) q hq).1
        have := HZ1.out
        iterate 4 rw [Below.heap_setCell _ _ _ _ (by show q ≠ w.heap.size; omega)]
      · rw [HE.out, HG.out]
        refine row_kept (HV7.out.below HXX.out |>.base HX1.out.size) (fun q hq => ?_)
        have := (row_lt (HV7.out.below HXX.out) q hq).1
        have := HZ1.out
        iterate 4 rw [Below.heap_setCell _ _ _ _ (by show q ≠ w.heap.size; omega)]
  · have HX8 : Hid (Below w1.heap.size w1 w8) := HX7.out.trans (hx8.mono HX7.out.size)
    have HMAY := Lib.hid hmay
    have hblk := HX8.out.block w.heap.size (by have := HZ1.out; omega)
    rw [HR1.out] at hblk
    have q0 := cell_of hblk (k := 0) rfl
    have q1 := cell_of hblk (k := 1) rfl
    have q2 := cell_of hblk (k := 2) rfl
    have q3 := cell_of hblk (k := 3) rfl
    have z0 := frozen_four hblk (j := 0)
    have z1 := frozen_four hblk (j := 1)
    have z2 := frozen_four hblk (j := 2)
    have z3 := frozen_four hblk (j := 3)
    have HBLK := Lib.hid hblk
    have HEXT : Hid (Ext w w8) := Ext.trans HX1.out HX8.out
    clear hx8 hmay hblk
    go_wp2_with fail
    refine entry_ret (p := 2) (q := 3) (by kernel_rfl) rfl rfl rfl (set_four HBLK.out) ?_
    refine ⟨Below.setCell (Below.setCell (Below.setCell (Below.setCell HEXT.out (Nat.le_refl _) _) (Nat.le_refl _) _) (Nat.le_refl _) _) (Nat.le_refl _) _, .inr ⟨fun e' h => ?_, rfl⟩⟩
    have h1 := HONE.out e' h
    subst h1
    have h2 := h.1
    rw [HMAY.out] at h2
    cases h2
end Go.Proofs.Ytcofnbeemfhcpaa
