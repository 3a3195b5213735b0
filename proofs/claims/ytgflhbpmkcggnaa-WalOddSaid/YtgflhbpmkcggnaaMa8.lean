/- Irread Itakes Yread Iterb Ynext, joined. -/
import Derived.Test.YtgflhbpmkcggnaaMa5
import Derived.Test.YtgflhbpmkcggnaaMa6
import Derived.Maps.AppendAt
import Derived.Test.YtgflhbpmkcggnaaMa7
import Derived.Test.YtgflhbpmkcggnaaMa4
import Derived.Test.YtgflhbpmkcggnaaMa2

/- The reference's Read. -/
namespace Go.Proofs.Ytgflhbpmkcggnaa
open Go.ChangeShapes Go.WideShapes Go.ChangeAt Go.RowKit

/-- What is read of the first three parts, where an entry stands. -/
theorem read_is3 {b kb r1 r2 r3 : List Nat} {n d : Nat} {k1 k2 k3 : Int} (h1 : OutText 32 b kb k1 r1) (h2 : OutNum r1 n k2 r2) (h3 : OutNum r2 d k3 r3) {e : Ent} (he : IsE b e) :
    e.key = kb ∧ e.seq = n ∧ e.kind = d ∧ k1 = 0 ∧ k2 = 0 ∧ k3 = 0 ∧ (e.kind = 1 → r3 = bytesForm e.val) ∧ (e.kind = 2 → r3 = []) := by
  obtain ⟨hm, rfl⟩ := he
  obtain ⟨u1, u2, u3, u4⟩ := Ent.may_u64 hm
  obtain ⟨a1, a2, a3, a4, a5⟩ := mayN_iff.1 hm
  unfold Ent.form at h1
  obtain ⟨rfl, rfl, rfl⟩ := h1.same (.inl ⟨rfl, by omega, u1, rfl⟩)
  obtain ⟨rfl, rfl, rfl⟩ := h2.same (.inl ⟨rfl, u2, rfl⟩)
  obtain ⟨rfl, rfl, rfl⟩ := h3.same (.inl ⟨rfl, u3, rfl⟩)
  refine ⟨rfl, by omega, by rcases a5 with ⟨a5, _⟩ | ⟨a5, _⟩ <;> omega, rfl, rfl, rfl, fun h => by rw [if_pos h], fun h => by rw [if_neg (by omega)]⟩
theorem OutText.zero {most : Int} {l bs rest : List Nat} (h : OutText most l bs 0 rest) : l = bytesForm bs ++ rest := by
  rcases h with ⟨_, _, _, h⟩ | ⟨h, _⟩
  · exact h
  · exact absurd rfl h
theorem OutNum.zero {l rest : List Nat} {n : Nat} (h : OutNum l n 0 rest) : l = form n ++ rest := by
  rcases h with ⟨_, h⟩ | ⟨h, _⟩
  · exact h.eq
  · cases h

theorem Em.setCell {w : World} {lo hi : Nat} {e : Ent} {h : Hd} (m : Em w lo hi e h) {p : Addr} (hp : p.block < lo ∨ hi ≤ p.block) (u : Value) : Em (w.setCell p u) lo hi e h := ⟨m.k.setCell hp u, m.v.setCell hp u, m.bk, m.bv, m.s1, m.s2, m.d1, m.d2⟩

/-- What the reference's Read answers. -/
def RReadAns (w : World) (b : List Nat) (x : Ending) (w' : World) : Prop :=
  Ext w w' ∧ ((∃ (e : Ent) (g : Hd), IsE b e ∧ x = .returned (.tuple #[e.at_ g, .int .i64 0]) ∧ Em w' 0 w'.heap.size e g) ∨ ((∀ e, ¬ IsE b e) ∧ x = .returned (.tuple #[noE, .int .i64 4])))

/-- What the reference's Read answers, in memory that it made. -/
def RReadNew (w : World) (b : List Nat) (x : Ending) (w' : World) : Prop :=
  Ext w w' ∧ ((∃ (e : Ent) (g : Hd), IsE b e ∧ x = .returned (.tuple #[e.at_ g, .int .i64 0]) ∧ Em w' w.heap.size w'.heap.size e g) ∨ ((∀ e, ¬ IsE b e) ∧ x = .returned (.tuple #[noE, .int .i64 4])))

theorem RBytes_slice {q lo hi : Nat} {l : List Nat} {w : World} (h : Qd w q lo hi l) (hl : l.length ≤ 1000000000000) {most : Int} (hm1 : 0 ≤ most) (hm2 : most ≤ 9223372036854775807) :
    Calls Try.prog 68 #[.pointer (some ⟨q, 0, none⟩), .int .i64 most] w fun e w' => ∃ (A : Option Addr) (c : Nat) (bs : List Nat) (k : Int) (rest : List Nat), OutText most l bs k rest ∧ Bs w' w.heap.size w'.heap.size (.slice A bs.length c) bs ∧ e = .returned (.tuple #[.slice A bs.length c, .int .i64 k]) ∧ Qd w' q lo hi rest ∧ w.grownBy w' (some q) := by
  refine (RBytes_out h hl hm1 hm2).mono ?_
  rintro e w' ⟨v, bs, k, rest, ho, hb, rfl, hq, hg⟩
  have hb' := hb
  obtain ⟨A, c, rfl, _⟩ := hb
  exact ⟨A, c, bs, k, rest, ho, hb', rfl, hq, hg⟩

set_option maxRecDepth 100000 in
set_option maxHeartbeats 8000000 in
theorem rread_new {w : World} {lo hi : Nat} {v : Value} {b : List Nat} (hv : Bs w lo hi v b) (hhi : hi ≤ w.heap.size) (hb : ∀ x ∈ b, x < 256) (hl : b.length ≤ 1000000000000) : Calls Try.prog 89 #[v] w (RReadNew w b) := by
  obtain ⟨A, c, rfl, q1, q2, q3, q4⟩ := hv
  obtain ⟨w1, hw1⟩ : ∃ w1, w1 = (w.alloc (.cells #[.slice none 0 0, .int .i64 0, .int .i64 0, .slice none 0 0] 48)).alloc (.cells #[.slice A b.length c] 98) := ⟨_, rfl⟩
  have HX1 : Hid (Ext w w1) := by rw [hw1]; exact Ext.trans (ext_alloc _ _) (ext_alloc _ _)
  have HZ1 : Hid (w1.heap.size = w.heap.size + 2) := by rw [hw1]; simp [Hid]
  have HR1 : Hid (w1.heap[w.heap.size]? = some (.cells #[.slice none 0 0, .int .i64 0, .int .i64 0, .slice none 0 0] 48 (0, 0))) := by rw [hw1]; exact ext_heap (ext_alloc _ _) (heap_at _ _ rfl)
  have hq0 : Qd w1 (w.heap.size + 1) lo hi b := by
    have hbs : Bs w lo hi (.slice A b.length c) b := ⟨A, c, rfl, q1, q2, q3, q4⟩
    exact ⟨⟨.slice A b.length c, by rw [hw1]; exact heap_at _ _ (by simp), hbs.below HX1.out hhi⟩, by omega, Nat.le_trans hhi HX1.out.size, hb⟩
  have HQ1 := Lib.hid hq0
  have HL := Lib.hid hl
  have HBY := Lib.hid hb
  clear hhi hb hl q1 q2 q3 q4 hq0
  go_enter Try.func89, Try.ntmps89
  go_wp2_with fail
  rw [← hw1]
  clear hw1
  refine (RBytes_slice HQ1.out HL.out (by decide) (by decide)).mono ?_
  rintro x w3 ⟨kA, kc, kb, k1, r1, ho1, hbs, rfl, hqd, hg⟩
  have HO1 := Lib.hid ho1
  have HK3 := Lib.hid hbs
  have HQ3 := Lib.hid hqd
  have HX3 : Hid (Below (w.heap.size + 1) w1 w3) := (Below.refl _ _).grown hg (by rw [HZ1.out]; omega) (fun k hk => by injection hk with hk; omega)
  have HS3 : Hid (w1.heap.size ≤ w3.heap.size) := hg.size
  clear ho1 hbs hqd hg HQ1
  go_wp2_with fail
  refine (RNumber_out HQ3.out).mono ?_
  rintro x w4 ⟨n, k2, r2, ho2, rfl, hqd, hg⟩
  have HO2 := Lib.hid ho2
  have HK4 := Lib.hid ((HK3.out.grown hg (Nat.le_refl _) (fun k hk => by injection hk with hk; left; have := HZ1.out; omega)).wide (Nat.le_refl _) hg.size)
  have HQ4 := Lib.hid hqd
  have HX4 : Hid (Below (w.heap.size + 1) w1 w4) := HX3.out.grown hg (by have := HZ1.out; have := HS3.out; omega) (fun k hk => by injection hk with hk; omega)
  have HS4 : Hid (w1.heap.size ≤ w4.heap.size) := Nat.le_trans HS3.out hg.size
  clear ho2 hqd hg HQ3
  go_wp2_with fail
  refine (RNumber_out HQ4.out).mono ?_
  rintro x w5 ⟨d, k3, r3, ho3, rfl, hqd, hg⟩
  have HO3 := Lib.hid ho3
  have HK5 := Lib.hid ((HK4.out.grown hg (Nat.le_refl _) (fun k hk => by injection hk with hk; left; have := HZ1.out; omega)).wide (Nat.le_refl _) hg.size)
  have HQ5 := Lib.hid hqd
  have HX5 : Hid (Below (w.heap.size + 1) w1 w5) := HX4.out.grown hg (by have := HZ1.out; have := HS4.out; omega) (fun k hk => by injection hk with hk; omega)
  have HS5 : Hid (w1.heap.size ≤ w5.heap.size) := Nat.le_trans HS4.out hg.size
  clear ho3 hqd hg HQ4
  have hblk := HX5.out.block w.heap.size (by omega)
  rw [HR1.out] at hblk
  have HBLK := Lib.hid hblk
  have HE5 : Hid (Ext w w5) := ⟨HX5.out.os.trans HX1.out.os, HX5.out.tape.trans HX1.out.tape, HX5.out.output.trans HX1.out.output, Nat.le_trans HX1.out.size HS5.out, fun k hk => (HX5.out.block k (by omega)).trans (HX1.out.block k hk)⟩
  clear hblk
  by_cases hgo : k1 = 0 ∧ k2 = 0 ∧ k3 = 0 ∧ n ≤ 2147483647 ∧ d ≤ 2
  · obtain ⟨rfl, rfl, rfl, hn, hd⟩ := hgo
    have d1 : decide ((2147483647 : Int) < (n : Int)) = false := by simp; omega
    have d1n : decide (2147483647 < n) = false := by simp; omega
    have d2 : decide ((2 : Int) < (d : Int)) = false := by simp; omega
    have d2n : decide (2 < d) = false := by simp; omega
    have e1 : wrap64 (n : Int) = (n : Int) := by unfold wrap64; omega
    have e2 : wrap64 (d : Int) = (d : Int) := by unfold wrap64; omega
    have HND := Lib.hid (And.intro hn hd)
    have HSUB : Hid (∀ x ∈ r3, x ∈ b) := fun x hx => by
      rw [HO1.out.zero, HO2.out.zero, HO3.out.zero]; simp [hx]
    have HL3 : Hid (r3.length ≤ 1000000000000) := by
      have a1 := HO1.out.len.2.1; have a2 := HO2.out.len.1; have a3 := HO3.out.len.1; have a4 := HL.out
      unfold Hid; omega
    have HBYK : Hid (∀ x ∈ kb, x < 256) := fun x hx => HBY.out x (HO1.out.len.2.2 x hx)
    by_cases hd1 : d = 1
    · subst hd1
      have e3 : ((1 : Int) == 1) = true := rfl
      clear hn hd
      go_upto_region 8 with (fail)
      obtain ⟨w6, hw6⟩ : ∃ w6, w6 = w5.alloc (.cells #[.slice kA kb.length kc, .int .i64 (n : Int), .int .i64 1, .slice none 0 0] 48) := ⟨_, rfl⟩
      rw [← hw6]
      have HX6 : Hid (Ext w5 w6) := by rw [hw6]; exact ext_alloc _ _
      have HB6 : Hid (w6.heap[w5.heap.size]? = some (.cells #[.slice kA kb.length kc, .int .i64 (n : Int), .int .i64 1, .slice none 0 0] 48 (0, 0))) := by rw [hw6]; exact heap_at _ _ rfl
      have HQ6 := Lib.hid (HQ5.out.below HX6.out HQ5.out.top HQ5.out.lt)
      have HZ6 : Hid (w6.heap.size = w5.heap.size + 1) := by rw [hw6]; simp [Hid]
      clear hw6
      go_wp2_with fail
      refine (RBytes_slice HQ6.out HL3.out (by decide) (by decide)).mono ?_
      rintro x w7 ⟨vA, vc, vb, k4, r4, ho4, hbs, rfl, hqd, hg⟩
      have HO4 := Lib.hid ho4
      have HV7 := Lib.hid hbs
      have HQ7 := Lib.hid hqd
      have HG7 := Lib.hid hg
      have HIS : Hid (∀ e', IsE b e' → e' = ⟨kb, n, 1, vb⟩ ∧ k4 = 0 ∧ r4 = []) := fun e' he' => by
        obtain ⟨a1, a2, a3, _, _, _, a4, _⟩ := read_is3 HO1.out HO2.out HO3.out he'
        obtain ⟨u1, u2, u3, u4⟩ := Ent.may_u64 he'.1
        have hm5 := (mayN_iff.1 he'.1).2.2.2.2
        have hk1 : e'.kind = 1 := a3
        have h4 := HO4.out
        rw [a4 hk1] at h4
        obtain ⟨b1, b2, b3⟩ := h4.same (.inl ⟨rfl, by omega, u4, (List.append_nil _).symm⟩)
        exact ⟨Ent.ext a1 a2 a3 b1.symm, b2, b3⟩
      have hE7 : w7.heap[w5.heap.size]? = some (.cells #[.slice kA kb.length kc, .int .i64 (n : Int), .int .i64 1, .slice none 0 0] 48 (0, 0)) := (hg.block _ (by rw [HZ6.out]; omega) (fun e => by injection e with e; have := HS5.out; have := HZ1.out; omega)).trans HB6.out
      have hR7 : w7.heap[w.heap.size]? = some (.cells #[.slice none 0 0, .int .i64 0, .int .i64 0, .slice none 0 0] 48 (0, 0)) := (hg.block _ (by have := HZ6.out; have := HS5.out; have := HZ1.out; omega) (fun e => by injection e with e; omega)).trans (ext_heap HX6.out HBLK.out)
      have HR7 := Lib.hid hR7
      have HE7 := Lib.hid hE7
      have HX7 : Hid (Ext w w7) := by
        have h6 : Ext w w6 := Ext.trans HE5.out HX6.out
        exact h6.grown hg (by have := HZ6.out; have := HS5.out; have := HZ1.out; omega) (fun k hk => by injection hk with hk; omega)
      clear ho4 hbs hqd hg
      by_cases hk4 : k4 = 0
      · subst hk4
        have g3 := frozen_four hE7 (j := 3)
        have g3c := cell_of hE7 (k := 3) rfl
        clear hE7 hR7
        go_upto_region 13 with (fail)
        clear g3 g3c
        obtain ⟨w8, hw8⟩ : ∃ w8, w8 = w7.setCell ⟨w5.heap.size, 3, none⟩ (.slice vA vb.length vc) := ⟨_, rfl⟩
        rw [← hw8]
        have hlt5 : w.heap.size + 2 ≤ w5.heap.size := by have := HS5.out; have := HZ1.out; omega
        have HB8 : Hid (w8.heap[w5.heap.size]? = some (.cells #[.slice kA kb.length kc, .int .i64 (n : Int), .int .i64 1, .slice vA vb.length vc] 48 (0, 0))) := by rw [hw8]; unfold Hid; rw [heap_setCell_same _ w5.heap.size 3 _ _ _ HE7.out]; rfl
        have HR8 : Hid (w8.heap[w.heap.size]? = some (.cells #[.slice none 0 0, .int .i64 0, .int .i64 0, .slice none 0 0] 48 (0, 0))) := by rw [hw8]; exact (Below.heap_setCell _ _ _ _ (by show w.heap.size ≠ w5.heap.size; omega)).trans HR7.out
        have HX8 : Hid (Ext w w8) := by rw [hw8]; exact Below.setCell HX7.out (by show w.heap.size ≤ w5.heap.size; omega) _
        have HQ8 : Hid (Qd w8 (w.heap.size + 1) lo hi r4) := by
          obtain ⟨v', o1, o2⟩ := HQ7.out.ex
          have hap := HQ7.out.apart
          have htop := HQ5.out.top
          rw [hw8]
          have htop1 : hi ≤ w5.heap.size := htop
          refine ⟨⟨v', (Below.heap_setCell _ _ _ _ (by show w.heap.size + 1 ≠ w5.heap.size; omega)).trans o1, o2.setCell (.inr htop1) _⟩, hap, by simp [World.setCell]; exact HQ7.out.top, HQ7.out.byt⟩
        have HK8 : Hid (Bs w8 w1.heap.size w5.heap.size (.slice kA kb.length kc) kb) := by
          have h1 := HK5.out.below HX6.out (Nat.le_refl _)
          have h2 := h1.grown HG7.out (by have := HZ6.out; omega) (fun k hk => by injection hk with hk; left; have := HZ1.out; omega)
          rw [hw8]
          exact h2.setCell (.inr (Nat.le_refl _)) _
        have HV8 : Hid (Bs w8 w6.heap.size w7.heap.size (.slice vA vb.length vc) vb) := by
          rw [hw8]; exact HV7.out.setCell (.inl (by show w5.heap.size < w6.heap.size; rw [HZ6.out]; omega)) _
        have HZ8 : Hid (w8.heap.size = w7.heap.size) := by rw [hw8]; simp [Hid, World.setCell]
        have HFM : Hid (r4 = [] → (⟨kb, n, 1, vb⟩ : Ent).form = b) := fun hr => by
          unfold Ent.form
          have h4 := HO4.out.zero
          rw [hr, List.append_nil] at h4
          rw [HO1.out.zero, HO2.out.zero, HO3.out.zero, h4]
          simp
        have HGO : Hid (∀ wM, Ext w8 wM → mayN kb.length (n : Int) 1 vb.length = true → Em wM w1.heap.size wM.heap.size ⟨kb, n, 1, vb⟩ ⟨kA, kc, vA, vc⟩) := fun wM hM _ => by
          have hz6 := HZ6.out
          have hg7 := HG7.out.size
          have hz8 := HZ8.out
          have hs := hM.size
          have hs5 := HS5.out
          exact ⟨(HK8.out.below hM (by omega)).wide (Nat.le_refl _) (by omega), (HV8.out.below hM (by omega)).wide (by omega) (by omega), HBYK.out, fun x hx => HBY.out x (HSUB.out x (HO4.out.len.2.2 x hx)), by dsimp only; omega, by have := HND.out.1; dsimp only; omega, by dsimp only; omega, by dsimp only; omega⟩
        replace HIS : Hid (∀ e', IsE b e' → e' = ⟨kb, n, 1, vb⟩ ∧ r4 = []) := fun e' he' => ⟨(HIS.out e' he').1, (HIS.out e' he').2.2⟩
        clear hw8 hlt5
        have p0 := cell_of HB8.out (k := 0) rfl
        have p1 := cell_of HB8.out (k := 1) rfl
        have p2 := cell_of HB8.out (k := 2) rfl
        have p3 := cell_of HB8.out (k := 3) rfl
        have HLF := Lib.hid (RLeft_any _ _ _ _ _ HQ8.out)
        by_cases hrl : r4.length = 0
        · have f1 : decide ((0 : Int) < (r4.length : Int)) = false := decide_eq_false (by omega)
          have f1n : decide (0 < r4.length) = false := decide_eq_false (by omega)
          have HRL := Lib.hid hrl
          clear hrl
          go_wp2_with fail
          refine Calls.mono HLF.out ?_
          rintro x w' ⟨rfl, rfl⟩
          go_wp2_with fail
          refine (rmay_any kA vA kb.length kc vb.length vc (n : Int) 1 w8).mono ?_
          rintro x wM ⟨rfl, hxM⟩
          have HXM : Hid (Ext w8 wM) := hxM
          have HEM : Hid (Ext w wM) := Ext.trans HX8.out hxM
          have HRM := Lib.hid (ext_heap hxM HR8.out)
          have HBM := Lib.hid (ext_heap hxM HB8.out)
          clear hxM p0 p1 p2 p3
          cases hmay : mayN kb.length (n : Int) 1 vb.length with
          | false =>
            have q0 := cell_of HRM.out (k := 0) rfl
            have q1 := cell_of HRM.out (k := 1) rfl
            have q2 := cell_of HRM.out (k := 2) rfl
            have q3 := cell_of HRM.out (k := 3) rfl
            have z0 := frozen_four HRM.out (j := 0)
            have z1 := frozen_four HRM.out (j := 1)
            have z2 := frozen_four HRM.out (j := 2)
            have z3 := frozen_four HRM.out (j := 3)
            go_wp2_with fail
            refine entry_ret (p := 2) (q := 3) (by kernel_rfl) rfl rfl rfl (set_four HRM.out) ?_
            exact ⟨Below.setCell (Below.setCell (Below.setCell (Below.setCell HEM.out (Nat.le_refl _) _) (Nat.le_refl _) _) (Nat.le_refl _) _) (Nat.le_refl _) _, .inr ⟨fun e' he' => by
              have h1 := HIS.out e' he'
              have h2 := he'.1
              rw [h1.1] at h2
              exact absurd (h2.symm.trans hmay) (by decide), rfl⟩⟩
          | true =>
            have q0 := cell_of HRM.out (k := 0) rfl
            have q1 := cell_of HRM.out (k := 1) rfl
            have q2 := cell_of HRM.out (k := 2) rfl
            have q3 := cell_of HRM.out (k := 3) rfl
            have z0 := frozen_four HRM.out (j := 0)
            have z1 := frozen_four HRM.out (j := 1)
            have z2 := frozen_four HRM.out (j := 2)
            have z3 := frozen_four HRM.out (j := 3)
            have p0 := cell_of HBM.out (k := 0) rfl
            have p1 := cell_of HBM.out (k := 1) rfl
            have p2 := cell_of HBM.out (k := 2) rfl
            have p3 := cell_of HBM.out (k := 3) rfl
            have HMY := Lib.hid hmay
            clear hmay
            go_wp2_with fail
            refine entry_ret (p := 2) (q := 3) (by kernel_rfl) rfl rfl rfl (set_four HRM.out) ?_
            exact ⟨Below.setCell (Below.setCell (Below.setCell (Below.setCell HEM.out (Nat.le_refl _) _) (Nat.le_refl _) _) (Nat.le_refl _) _) (Nat.le_refl _) _, .inl ⟨⟨kb, n, 1, vb⟩, ⟨kA, kc, vA, vc⟩, ⟨HMY.out, HFM.out (List.eq_nil_of_length_eq_zero HRL.out)⟩, rfl, by
              have hz := HZ1.out
              have h0 : w.heap.size < w1.heap.size := by omega
              exact ((((HGO.out wM HXM.out HMY.out).setCell (.inl h0) _).setCell (.inl h0) _).setCell (.inl h0) _ |>.setCell (.inl h0) _).wide (Nat.le_of_lt h0) (by simp [World.setCell])⟩⟩
        · have f1 : decide ((0 : Int) < (r4.length : Int)) = true := decide_eq_true (by omega)
          have f1n : decide (0 < r4.length) = true := decide_eq_true (by omega)
          have HRL := Lib.hid hrl
          clear hrl p0 p1 p2 p3
          go_wp2_with fail
          refine Calls.mono HLF.out ?_
          rintro x w' ⟨rfl, rfl⟩
          have q0 := cell_of HR8.out (k := 0) rfl
          have q1 := cell_of HR8.out (k := 1) rfl
          have q2 := cell_of HR8.out (k := 2) rfl
          have q3 := cell_of HR8.out (k := 3) rfl
          have z0 := frozen_four HR8.out (j := 0)
          have z1 := frozen_four HR8.out (j := 1)
          have z2 := frozen_four HR8.out (j := 2)
          have z3 := frozen_four HR8.out (j := 3)
          go_wp2_with fail
          refine entry_ret (p := 2) (q := 3) (by kernel_rfl) rfl rfl rfl (set_four HR8.out) ?_
          exact ⟨Below.setCell (Below.setCell (Below.setCell (Below.setCell HX8.out (Nat.le_refl _) _) (Nat.le_refl _) _) (Nat.le_refl _) _) (Nat.le_refl _) _, .inr ⟨fun e' he' => HRL.out (by rw [(HIS.out e' he').2]; rfl), rfl⟩⟩
      · have g4 : (k4 != 0) = true := by simpa using hk4
        have HK4' := Lib.hid hk4
        clear hk4 hE7
        have HRX := Lib.hid hR7
        clear hR7
        have q0 := cell_of HRX.out (k := 0) rfl
        have q1 := cell_of HRX.out (k := 1) rfl
        have q2 := cell_of HRX.out (k := 2) rfl
        have q3 := cell_of HRX.out (k := 3) rfl
        have z0 := frozen_four HRX.out (j := 0)
        have z1 := frozen_four HRX.out (j := 1)
        have z2 := frozen_four HRX.out (j := 2)
        have z3 := frozen_four HRX.out (j := 3)
        go_wp2_with fail
        refine entry_ret (p := 2) (q := 3) (by kernel_rfl) rfl rfl rfl (set_four HRX.out) ?_
        exact ⟨Below.setCell (Below.setCell (Below.setCell (Below.setCell HX7.out (Nat.le_refl _) _) (Nat.le_refl _) _) (Nat.le_refl _) _) (Nat.le_refl _) _, .inr ⟨fun e' he' => HK4'.out (HIS.out e' he').2.1, rfl⟩⟩
    · have e3 : ((d : Int) == 1) = false := by simp; omega
      have e3n : (d == 1) = false := by simp; omega
      have HD1 := Lib.hid hd1
      clear hn hd hd1
      go_upto_region 13 with (fail)
      obtain ⟨w8, hw8⟩ : ∃ w8, w8 = w5.alloc (.cells #[.slice kA kb.length kc, .int .i64 (n : Int), .int .i64 (d : Int), .slice none 0 0] 48) := ⟨_, rfl⟩
      rw [← hw8]
      have HX58 : Hid (Ext w5 w8) := by rw [hw8]; exact ext_alloc _ _
      have HB8 : Hid (w8.heap[w5.heap.size]? = some (.cells #[.slice kA kb.length kc, .int .i64 (n : Int), .int .i64 (d : Int), .slice none 0 0] 48 (0, 0))) := by rw [hw8]; exact heap_at _ _ rfl
      have HQ8 := Lib.hid (HQ5.out.below HX58.out HQ5.out.top HQ5.out.lt)
      have HR8 := Lib.hid (ext_heap HX58.out HBLK.out)
      have HX8 : Hid (Ext w w8) := Ext.trans HE5.out HX58.out
      have HIS : Hid (∀ e', IsE b e' → e' = ⟨kb, n, d, []⟩ ∧ r3 = []) := fun e' he' => by
        obtain ⟨a1, a2, a3, _, _, _, _, a5⟩ := read_is3 HO1.out HO2.out HO3.out he'
        have hm5 := (mayN_iff.1 he'.1).2.2.2.2
        have hd1 := HD1.out
        have hk2 : e'.kind = 2 := by omega
        have hv : e'.val = [] := List.eq_nil_of_length_eq_zero (by omega)
        exact ⟨Ent.ext a1 a2 a3 hv, a5 hk2⟩
      have HFM : Hid (r3 = [] → (⟨kb, n, d, []⟩ : Ent).form = b) := fun hr => by
        unfold Ent.form
        have hd1 := HD1.out
        rw [HO1.out.zero, HO2.out.zero, HO3.out.zero, hr, if_neg (by dsimp only; omega)]
        simp
      have HGO : Hid (∀ wM, Ext w8 wM → mayN kb.length (n : Int) (d : Int) 0 = true → Em wM w1.heap.size wM.heap.size ⟨kb, n, d, []⟩ ⟨kA, kc, none, 0⟩) := fun wM hM _ => by
        have hs := hM.size
        have hs5 := HX58.out.size
        exact ⟨((HK5.out.below HX58.out (Nat.le_refl _)).below hM hs5).wide (Nat.le_refl _) (by omega), Bs.nil _ _ _, HBYK.out, by simp, by dsimp only; omega, by have := HND.out.1; dsimp only; omega, by dsimp only; omega, by have := HND.out.2; dsimp only; omega⟩
      clear hw8
      have p0 := cell_of HB8.out (k := 0) rfl
      have p1 := cell_of HB8.out (k := 1) rfl
      have p2 := cell_of HB8.out (k := 2) rfl
      have p3 := cell_of HB8.out (k := 3) rfl
      have HLF := Lib.hid (RLeft_any _ _ _ _ _ HQ8.out)
      by_cases hrl : r3.length = 0
      · have f1 : decide ((0 : Int) < (r3.length : Int)) = false := decide_eq_false (by omega)
        have f1n : decide (0 < r3.length) = false := decide_eq_false (by omega)
        have HRL := Lib.hid hrl
        clear hrl
        go_wp2_with fail
        refine Calls.mono HLF.out ?_
        rintro x w' ⟨rfl, rfl⟩
        go_wp2_with fail
        refine (rmay_any kA none kb.length kc 0 0 (n : Int) (d : Int) w8).mono ?_
        rintro x wM ⟨rfl, hxM⟩
        have HXM : Hid (Ext w8 wM) := hxM
        have HEM : Hid (Ext w wM) := Ext.trans HX8.out hxM
        have HRM := Lib.hid (ext_heap hxM HR8.out)
        have HBM := Lib.hid (ext_heap hxM HB8.out)
        clear hxM p0 p1 p2 p3
        cases hmay : mayN kb.length (n : Int) (d : Int) 0 with
        | false =>
          have q0 := cell_of HRM.out (k := 0) rfl
          have q1 := cell_of HRM.out (k := 1) rfl
          have q2 := cell_of HRM.out (k := 2) rfl
          have q3 := cell_of HRM.out (k := 3) rfl
          have z0 := frozen_four HRM.out (j := 0)
          have z1 := frozen_four HRM.out (j := 1)
          have z2 := frozen_four HRM.out (j := 2)
          have z3 := frozen_four HRM.out (j := 3)
          go_wp2_with fail
          refine entry_ret (p := 2) (q := 3) (by kernel_rfl) rfl rfl rfl (set_four HRM.out) ?_
          exact ⟨Below.setCell (Below.setCell (Below.setCell (Below.setCell HEM.out (Nat.le_refl _) _) (Nat.le_refl _) _) (Nat.le_refl _) _) (Nat.le_refl _) _, .inr ⟨fun e' he' => by
            have h1 := HIS.out e' he'
            have h2 := he'.1
            rw [h1.1] at h2
            exact absurd (h2.symm.trans hmay) (by decide), rfl⟩⟩
        | true =>
          have q0 := cell_of HRM.out (k := 0) rfl
          have q1 := cell_of HRM.out (k := 1) rfl
          have q2 := cell_of HRM.out (k := 2) rfl
          have q3 := cell_of HRM.out (k := 3) rfl
          have z0 := frozen_four HRM.out (j := 0)
          have z1 := frozen_four HRM.out (j := 1)
          have z2 := frozen_four HRM.out (j := 2)
          have z3 := frozen_four HRM.out (j := 3)
          have p0 := cell_of HBM.out (k := 0) rfl
          have p1 := cell_of HBM.out (k := 1) rfl
          have p2 := cell_of HBM.out (k := 2) rfl
          have p3 := cell_of HBM.out (k := 3) rfl
          have HMY := Lib.hid hmay
          clear hmay
          go_wp2_with fail
          refine entry_ret (p := 2) (q := 3) (by kernel_rfl) rfl rfl rfl (set_four HRM.out) ?_
          exact ⟨Below.setCell (Below.setCell (Below.setCell (Below.setCell HEM.out (Nat.le_refl _) _) (Nat.le_refl _) _) (Nat.le_refl _) _) (Nat.le_refl _) _, .inl ⟨⟨kb, n, d, []⟩, ⟨kA, kc, none, 0⟩, ⟨HMY.out, HFM.out (List.eq_nil_of_length_eq_zero HRL.out)⟩, rfl, by
              have hz := HZ1.out
              have h0 : w.heap.size < w1.heap.size := by omega
              exact ((((HGO.out wM HXM.out HMY.out).setCell (.inl h0) _).setCell (.inl h0) _).setCell (.inl h0) _ |>.setCell (.inl h0) _).wide (Nat.le_of_lt h0) (by simp [World.setCell])⟩⟩
      · have f1 : decide ((0 : Int) < (r3.length : Int)) = true := decide_eq_true (by omega)
        have f1n : decide (0 < r3.length) = true := decide_eq_true (by omega)
        have HRL := Lib.hid hrl
        clear hrl p0 p1 p2 p3
        go_wp2_with fail
        refine Calls.mono HLF.out ?_
        rintro x w' ⟨rfl, rfl⟩
        have q0 := cell_of HR8.out (k := 0) rfl
        have q1 := cell_of HR8.out (k := 1) rfl
        have q2 := cell_of HR8.out (k := 2) rfl
        have q3 := cell_of HR8.out (k := 3) rfl
        have z0 := frozen_four HR8.out (j := 0)
        have z1 := frozen_four HR8.out (j := 1)
        have z2 := frozen_four HR8.out (j := 2)
        have z3 := frozen_four HR8.out (j := 3)
        go_wp2_with fail
        refine entry_ret (p := 2) (q := 3) (by kernel_rfl) rfl rfl rfl (set_four HR8.out) ?_
        exact ⟨Below.setCell (Below.setCell (Below.setCell (Below.setCell HX8.out (Nat.le_refl _) _) (Nat.le_refl _) _) (Nat.le_refl _) _) (Nat.le_refl _) _, .inr ⟨fun e' he' => HRL.out (by rw [(HIS.out e' he').2]; rfl), rfl⟩⟩
  · have HNO : Hid (∀ e', ¬ IsE b e') := fun e' he' => by
      obtain ⟨a1, a2, a3, a4, a5, a6, _, _⟩ := read_is3 HO1.out HO2.out HO3.out he'
      have hm := mayN_iff.1 he'.1
      exact hgo ⟨a4, a5, a6, by omega, by omega⟩
    by_cases c1 : k1 = 0
    · subst c1
      by_cases c2 : k2 = 0
      · subst c2
        by_cases c3 : k3 = 0
        · subst c3
          by_cases c4 : n ≤ 2147483647
          · have c5 : ¬ d ≤ 2 := fun h => hgo ⟨rfl, rfl, rfl, c4, h⟩
            have d1 : decide ((2147483647 : Int) < (n : Int)) = false := by simp; omega
            have d1n : decide (2147483647 < n) = false := by simp; omega
            have d2 : decide ((2 : Int) < (d : Int)) = true := by simp; omega
            have d2n : decide (2 < d) = true := by simp; omega
            clear hgo c4 c5
            have q0 := cell_of HBLK.out (k := 0) rfl
            have q1 := cell_of HBLK.out (k := 1) rfl
            have q2 := cell_of HBLK.out (k := 2) rfl
            have q3 := cell_of HBLK.out (k := 3) rfl
            have z0 := frozen_four HBLK.out (j := 0)
            have z1 := frozen_four HBLK.out (j := 1)
            have z2 := frozen_four HBLK.out (j := 2)
            have z3 := frozen_four HBLK.out (j := 3)
            go_wp2_with fail
            refine entry_ret (p := 2) (q := 3) (by kernel_rfl) rfl rfl rfl (set_four HBLK.out) ?_
            exact ⟨Below.setCell (Below.setCell (Below.setCell (Below.setCell HE5.out (Nat.le_refl _) _) (Nat.le_refl _) _) (Nat.le_refl _) _) (Nat.le_refl _) _, .inr ⟨HNO.out, rfl⟩⟩
          · have d1 : decide ((2147483647 : Int) < (n : Int)) = true := by simp; omega
            have d1n : decide (2147483647 < n) = true := by simp; omega
            clear hgo c4
            have q0 := cell_of HBLK.out (k := 0) rfl
            have q1 := cell_of HBLK.out (k := 1) rfl
            have q2 := cell_of HBLK.out (k := 2) rfl
            have q3 := cell_of HBLK.out (k := 3) rfl
            have z0 := frozen_four HBLK.out (j := 0)
            have z1 := frozen_four HBLK.out (j := 1)
            have z2 := frozen_four HBLK.out (j := 2)
            have z3 := frozen_four HBLK.out (j := 3)
            go_wp2_with fail
            refine entry_ret (p := 2) (q := 3) (by kernel_rfl) rfl rfl rfl (set_four HBLK.out) ?_
            exact ⟨Below.setCell (Below.setCell (Below.setCell (Below.setCell HE5.out (Nat.le_refl _) _) (Nat.le_refl _) _) (Nat.le_refl _) _) (Nat.le_refl _) _, .inr ⟨HNO.out, rfl⟩⟩
        · have g3 : (k3 != 0) = true := by simpa using c3
          clear hgo c3
          have q0 := cell_of HBLK.out (k := 0) rfl
          have q1 := cell_of HBLK.out (k := 1) rfl
          have q2 := cell_of HBLK.out (k := 2) rfl
          have q3 := cell_of HBLK.out (k := 3) rfl
          have z0 := frozen_four HBLK.out (j := 0)
          have z1 := frozen_four HBLK.out (j := 1)
          have z2 := frozen_four HBLK.out (j := 2)
          have z3 := frozen_four HBLK.out (j := 3)
          go_wp2_with fail
          refine entry_ret (p := 2) (q := 3) (by kernel_rfl) rfl rfl rfl (set_four HBLK.out) ?_
          exact ⟨Below.setCell (Below.setCell (Below.setCell (Below.setCell HE5.out (Nat.le_refl _) _) (Nat.le_refl _) _) (Nat.le_refl _) _) (Nat.le_refl _) _, .inr ⟨HNO.out, rfl⟩⟩
      · have g2 : (k2 != 0) = true := by simpa using c2
        clear hgo c2
        have q0 := cell_of HBLK.out (k := 0) rfl
        have q1 := cell_of HBLK.out (k := 1) rfl
        have q2 := cell_of HBLK.out (k := 2) rfl
        have q3 := cell_of HBLK.out (k := 3) rfl
        have z0 := frozen_four HBLK.out (j := 0)
        have z1 := frozen_four HBLK.out (j := 1)
        have z2 := frozen_four HBLK.out (j := 2)
        have z3 := frozen_four HBLK.out (j := 3)
        go_wp2_with fail
        refine entry_ret (p := 2) (q := 3) (by kernel_rfl) rfl rfl rfl (set_four HBLK.out) ?_
        exact ⟨Below.setCell (Below.setCell (Below.setCell (Below.setCell HE5.out (Nat.le_refl _) _) (Nat.le_refl _) _) (Nat.le_refl _) _) (Nat.le_refl _) _, .inr ⟨HNO.out, rfl⟩⟩
    · have g1 : (k1 != 0) = true := by simpa using c1
      clear hgo c1
      have q0 := cell_of HBLK.out (k := 0) rfl
      have q1 := cell_of HBLK.out (k := 1) rfl
      have q2 := cell_of HBLK.out (k := 2) rfl
      have q3 := cell_of HBLK.out (k := 3) rfl
      have z0 := frozen_four HBLK.out (j := 0)
      have z1 := frozen_four HBLK.out (j := 1)
      have z2 := frozen_four HBLK.out (j := 2)
      have z3 := frozen_four HBLK.out (j := 3)
      go_wp2_with fail
      refine entry_ret (p := 2) (q := 3) (by kernel_rfl) rfl rfl rfl (set_four HBLK.out) ?_
      exact ⟨Below.setCell (Below.setCell (Below.setCell (Below.setCell HE5.out (Nat.le_refl _) _) (Nat.le_refl _) _) (Nat.le_refl _) _) (Nat.le_refl _) _, .inr ⟨HNO.out, rfl⟩⟩
theorem rread_any {w : World} {lo hi : Nat} {v : Value} {b : List Nat} (hv : Bs w lo hi v b) (hhi : hi ≤ w.heap.size) (hb : ∀ x ∈ b, x < 256) (hl : b.length ≤ 1000000000000) : Calls Try.prog 89 #[v] w (RReadAns w b) := by
  refine (rread_new hv hhi hb hl).mono ?_
  rintro x w' ⟨hx, (⟨e, g, h1, h2, h3⟩ | h)⟩
  · exact ⟨hx, .inl ⟨e, g, h1, h2, h3.wide (Nat.zero_le _) (Nat.le_refl _)⟩⟩
  · exact ⟨hx, .inr h⟩
end Go.Proofs.Ytgflhbpmkcggnaa

/- Lists of entries: what ikey's Lists and the reference's answer. -/
namespace Go.Proofs.Ytgflhbpmkcggnaa
open Go.ChangeShapes Go.WideShapes Go.ChangeAt Go.RowKit

/-- What Lists answers. -/
def ListsAns (w : World) (b : List Nat) (x : Ending) (w' : World) : Prop :=
  Ext w w' ∧ ((∃ (R : List (Ent × Hd)) (v : Value), IsL b (R.map Prod.fst) ∧ x = .returned (.tuple #[v, .int .i64 0]) ∧ Got w.heap.size v R w') ∨ ((∀ es, ¬ IsL b es) ∧ x = .returned (.tuple #[.slice none 0 0, .int .i64 4])))

theorem ErrEnts.no {b : List Nat} {n : Int} {es : List Ent} (h : ErrEnts 65536 b n) : ¬ IsL b es := by
  intro hl
  rcases h with (⟨_, h⟩ | ⟨_, _, h⟩ | ⟨_, _, m, rest, hb, hm⟩) | ⟨m, mid, hb, _, xs, rest, hlt, ha, hno⟩
  · omega
  · exact h _ _ hl.begins
  · have := (hl.begins.unique hb).1; have := hl.1; omega
  · exact ha.no hb hlt hno hl

set_option maxRecDepth 100000 in
set_option maxHeartbeats 4000000 in
theorem elists_any {w : World} {lo hi : Nat} {v : Value} {b : List Nat} (hv : Bs w lo hi v b) (hhi : hi ≤ w.heap.size) (hb : ∀ x ∈ b, x < 256) (hl : b.length ≤ 1000000000000) : Calls Try.prog 97 #[v] w (ListsAns w b) := by
  have HO := Lib.hid (open_any v lo hi b w hv hhi hl hb)
  have HL := Lib.hid hl
  obtain ⟨A, c, rfl, _, _, _, _⟩ := hv
  clear hhi hb hl
  go_enter Try.func97, Try.ntmps97
  go_wp2_with fail
  refine Calls.mono HO.out ?_
  rintro x w2 ⟨r, rlo, rhi, rfl, hrd, hr, hlo, hb2⟩
  have HX2 : Hid (Ext w w2) := hb2
  have HR := Lib.hid hr
  have HT := Lib.hid (takes_any 65536 (by decide) (by decide) r rlo rhi b w2 hrd HL.out)
  clear hrd hr hlo hb2
  go_wp2_with fail
  refine HT.out.mono ?_
  rintro x w3 (⟨v, rest, ⟨R, mid, h1, h2, h3, h4⟩, rfl, hrd, hg⟩ | ⟨n, herr, hn, rfl, hrd, hg⟩)
  · have HX3 : Hid (Ext w w3) := Below.trans HX2.out ((Below.refl _ _).grown hg HX2.out.size (fun k hk => by injection hk with hk; have := HR.out; omega))
    have HGOT : Hid (Got w.heap.size v R w3) := h4.base HX2.out.size
    have HEND := Lib.hid (end_any _ _ _ _ _ hrd)
    have HB := Lib.hid h1
    have HA := Lib.hid h3
    have HM : Hid (R.length ≤ 65536) := by unfold Hid; omega
    clear hrd hg h1 h2 h3 h4
    by_cases hr0 : rest = []
    · subst hr0
      have he : endErr [] = 0 := rfl
      rw [he] at HEND
      clear he
      go_wp2_with fail
      refine HEND.out.mono ?_
      rintro x _ ⟨rfl, rfl⟩
      go_wp2_with fail
      go_ret2
      refine ⟨HX3.out, .inl ⟨R, _, AllEnt.is (xs := R.map Prod.fst) (by rw [List.length_map]; exact HB.out) (by rw [List.length_map]; exact HM.out) HA.out, rfl, HGOT.out⟩⟩
    · have he : endErr rest = 4 := if_neg hr0
      rw [he] at HEND
      have HN0 := Lib.hid hr0
      clear he hr0
      go_wp2_with fail
      refine HEND.out.mono ?_
      rintro x _ ⟨rfl, rfl⟩
      go_wp2_with fail
      go_ret2
      refine ⟨HX3.out, .inr ⟨fun es hes => HN0.out (AllEnt.rest (xs := R.map Prod.fst) (by rw [List.length_map]; exact HB.out) HA.out hes), rfl⟩⟩
  · have HX3 : Hid (Ext w w3) := Below.trans HX2.out ((Below.refl _ _).grown hg HX2.out.size (fun k hk => by injection hk with hk; have := HR.out; omega))
    have hn1 : (n != 0) = true := by simpa using hn
    have HERR := Lib.hid herr
    clear hrd hg herr hn
    go_wp2_with fail
    go_ret2
    exact ⟨HX3.out, .inr ⟨fun es => HERR.out.no, rfl⟩⟩

/-! The reference's -/

/-- A row of entries; the row's block is apart from theirs. -/
structure Held (B : Nat) (v : Value) (R : List (Ent × Hd)) (w : World) : Prop where
  row : w.ownsRow B 48 4 v R.length (erow R)
  each : ∀ p ∈ R, ∃ lo hi, B ≤ lo ∧ hi ≤ w.heap.size ∧ Em w lo hi p.1 p.2 ∧ ∀ g, v.ownBlock = some g → g < lo ∨ hi ≤ g
theorem Held.nil (B : Nat) (w : World) : Held B (.slice none 0 0) [] w := ⟨World.ownsRow_nil _ _ _ _, fun p hp => by cases hp⟩
theorem Em.grown {w w' : World} {lo hi : Nat} {e : Ent} {g : Hd} {row : Option Nat} (m : Em w lo hi e g) (hg : w.grownBy w' row) (hB : hi ≤ w.heap.size) (hr : ∀ k, row = some k → k < lo ∨ hi ≤ k) : Em w' lo hi e g := ⟨m.k.grown hg hB hr, m.v.grown hg hB hr, m.bk, m.bv, m.s1, m.s2, m.d1, m.d2⟩
theorem Held.grown {B q : Nat} {v : Value} {R : List (Ent × Hd)} {w w' : World} (h : Held B v R w) (hg : w.grownBy w' (some q)) (hq : q < B) : Held B v R w' := by
  refine ⟨rowN_kept h.row fun g hgo => hg.block g (rowN_lt h.row g hgo).2.1 (fun e => by injection e with e; have := (rowN_lt h.row g hgo).1; omega), fun p hp => ?_⟩
  obtain ⟨lo, hi, h1, h2, h3, h4⟩ := h.each p hp
  exact ⟨lo, hi, h1, Nat.le_trans h2 hg.size, h3.grown hg h2 (fun k hk => by injection hk with hk; omega), h4⟩
theorem Held.below {B : Nat} {v : Value} {R : List (Ent × Hd)} {w w' : World} (h : Held B v R w) (hx : Ext w w') : Held B v R w' := by
  refine ⟨rowN_kept h.row fun g hgo => hx.block g (rowN_lt h.row g hgo).2.1, fun p hp => ?_⟩
  obtain ⟨lo, hi, h1, h2, h3, h4⟩ := h.each p hp
  exact ⟨lo, hi, h1, Nat.le_trans h2 hx.size, h3.below hx h2, h4⟩
theorem Held.es {B : Nat} {A : Option Addr} {c : Nat} {R : List (Ent × Hd)} {w : World} (h : Held B (.slice A R.length c) R w) : Es w 0 w.heap.size A R := by
  refine ⟨?_, fun p hp => ?_⟩
  · rcases h.row.2 with ⟨h1, h2⟩ | ⟨g, cap, cur, hv, hg, hh, r⟩
    · injection h1 with e1 e2 _
      have : R = [] := List.eq_nil_of_length_eq_zero e2
      subst this; exact Sl.nil _ _ _ _
    · injection hv with e1 _ _
      subst e1
      refine .inr ⟨g, 0, rfl, Nat.zero_le _, (Array.getElem?_eq_some_iff.1 hh).1, fun i u hu => ?_⟩
      have := h.row.cells (g := g) rfl i u hu
      rwa [addr_add] at this
  · obtain ⟨lo, hi, _, h2, h3, _⟩ := h.each p hp
    exact h3.wide (Nat.zero_le _) h2

theorem Held.es_new {B : Nat} {A : Option Addr} {c : Nat} {R : List (Ent × Hd)} {w : World} (h : Held B (.slice A R.length c) R w) : Es w B w.heap.size A R := by
  refine ⟨?_, fun p hp => ?_⟩
  · rcases h.row.2 with ⟨h1, h2⟩ | ⟨g, cap, cur, hv, hg, hh, r⟩
    · injection h1 with e1 e2 _
      have : R = [] := List.eq_nil_of_length_eq_zero e2
      subst this; exact Sl.nil _ _ _ _
    · injection hv with e1 _ _
      subst e1
      refine .inr ⟨g, 0, rfl, hg, (Array.getElem?_eq_some_iff.1 hh).1, fun i u hu => ?_⟩
      have := h.row.cells (g := g) rfl i u hu
      rwa [addr_add] at this
  · obtain ⟨lo, hi, h1, h2, h3, _⟩ := h.each p hp
    exact h3.wide h1 h2

theorem wpList_pushheld {ops : Array Oper} {rest : List Oper} {o : Oper} {a : Act} {Q : Exit → Act → World → Prop} {u : World} (hgd : o.guard = none) (s x : Operand)
    (ho : o.op = .call { callee := .builtin .append, args := #[s, x], argTypes := #[22, 22] }) (B : Nat) (v : Value) (R : List (Ent × Hd)) (hs : a.eval s = v) (hgot : Held B v R u)
    (p : Ent × Hd) (gb : Nat) (hx : a.eval x = .slice (some ⟨gb, 0, none⟩) 1 1) (hblk : u.heap[gb]? = some (.cells (ecells p).toArray 48 (0, 0)))
    (hp : ∃ lo hi, B ≤ lo ∧ hi ≤ u.heap.size ∧ Em u lo hi p.1 p.2 ∧ ∀ g, v.ownBlock = some g → g < lo ∨ hi ≤ g) (hlen : R.length ≤ 1000000000000) (hB : B ≤ u.heap.size)
    (h : ∀ A' c' w', Held B (.slice A' (R.length + 1) c') (R ++ [p]) w' → (∀ w0, Below B w0 u → Below B w0 w') → wpList Try.prog ops Q rest (a.put o.dst (.slice A' (R.length + 1) c')) w') :
    wpList Try.prog ops Q (o :: rest) a u := by
  obtain ⟨i0, hi0', ix0, ix1, ix2⟩ := info_parts einfo
  refine wpList_append_own_at _ hgd s x 22 ho B 48 i0 _ 4 64 Try.underlying22 hi0' ix0 ix1 ix2 rfl (by decide) v R.length (erow R) hs hgot.row ⟨gb, 0, none⟩ 1 1 (ecells p) hx rfl (fun j q hj => ?n1) (fun q hq => ?n2) ?n3 ?n4 hB (fun v' w5 ho hgr _ hat => ?rest)
  case n1 => rw [addr_add, Nat.zero_add]; exact cell_of hblk (by simpa using hj)
  case n2 => exact erow_one [p] q (by simpa [erow] using hq)
  case n3 => unfold maxLen; omega
  case n4 => omega
  case rest =>
    have hlt := rowN_lt hgot.row
    have hke : ∀ q : Ent × Hd, (∃ lo hi, B ≤ lo ∧ hi ≤ u.heap.size ∧ Em u lo hi q.1 q.2 ∧ ∀ g, v.ownBlock = some g → g < lo ∨ hi ≤ g) → ∃ lo hi, B ≤ lo ∧ hi ≤ w5.heap.size ∧ Em w5 lo hi q.1 q.2 ∧ ∀ g, v'.ownBlock = some g → g < lo ∨ hi ≤ g := by
      rintro q ⟨lo, hi, h1, h2, h3, h4⟩
      refine ⟨lo, hi, h1, Nat.le_trans h2 hgr.size, h3.grown hgr h2 h4, fun g hg => ?_⟩
      rcases hat with e | e
      · exact h4 g (e ▸ hg)
      · rw [e] at hg; injection hg with hg; omega
    have hgot' : Held B v' (R ++ [p]) w5 := by
      refine ⟨by rw [List.length_append, erow_append]; simpa [erow] using ho, fun q hq => ?_⟩
      rcases List.mem_append.1 hq with hq | hq
      · exact hke q (hgot.each q hq)
      · rw [List.mem_singleton] at hq; subst hq; exact hke q hp
    obtain ⟨A', c', rfl⟩ := rowN_slice ho
    exact h A' c' w5 hgot' (fun w0 hb => hb.grown hgr hB fun k hk => (hlt k hk).1)

theorem Ent.form_le {e : Ent} (h : e.may = true) : e.form.length ≤ 65620 := by
  obtain ⟨u1, u2, u3, u4⟩ := Ent.may_u64 h
  obtain ⟨h1, h2, h3, h4, h5⟩ := mayN_iff.1 h
  have a1 := (bytesForm_len u1).1
  have a2 := form_len64 u2
  have a3 := form_len64 u3
  have a4 := (bytesForm_len u4).1
  unfold Ent.form
  split <;> simp only [List.length_append, List.length_nil] <;> rcases h5 with ⟨h5, h6⟩ | ⟨h5, h6⟩ <;> omega

/-- What the reference's Lists answers. -/
def RListsAns (w : World) (b : List Nat) (x : Ending) (w' : World) : Prop :=
  Ext w w' ∧ ((∃ (R : List (Ent × Hd)) (A : Option Addr) (c : Nat), IsL b (R.map Prod.fst) ∧ x = .returned (.tuple #[.slice A R.length c, .int .i64 0]) ∧ Es w' 0 w'.heap.size A R) ∨ ((∀ es, ¬ IsL b es) ∧ x = .returned (.tuple #[.slice none 0 0, .int .i64 4])))
/-- And in new memory. -/
def RListsNew (w : World) (b : List Nat) (x : Ending) (w' : World) : Prop :=
  Ext w w' ∧ ((∃ (R : List (Ent × Hd)) (A : Option Addr) (c : Nat), IsL b (R.map Prod.fst) ∧ x = .returned (.tuple #[.slice A R.length c, .int .i64 0]) ∧ Es w' w.heap.size w'.heap.size A R) ∨ ((∀ es, ¬ IsL b es) ∧ x = .returned (.tuple #[.slice none 0 0, .int .i64 4])))

set_option maxRecDepth 100000 in
set_option maxHeartbeats 8000000 in
theorem rlists_new {w : World} {lo hi : Nat} {v : Value} {b : List Nat} (hv : Bs w lo hi v b) (hhi : hi ≤ w.heap.size) (hb : ∀ x ∈ b, x < 256) (hl : b.length ≤ 1000000000000) : Calls Try.prog 70 #[v] w (RListsNew w b) := by
  obtain ⟨A, c, rfl, q1, q2, q3, q4⟩ := hv
  obtain ⟨w1, hw1⟩ : ∃ w1, w1 = w.alloc (.cells #[.slice A b.length c] 98) := ⟨_, rfl⟩
  have HX1 : Hid (Ext w w1) := by rw [hw1]; exact ext_alloc _ _
  have HZ1 : Hid (w1.heap.size = w.heap.size + 1) := by rw [hw1]; simp [Hid]
  obtain ⟨q, hq⟩ : ∃ q, q = w.heap.size := ⟨_, rfl⟩
  have hq0 : Qd w1 q lo hi b := by
    have hbs : Bs w lo hi (.slice A b.length c) b := ⟨A, c, rfl, q1, q2, q3, q4⟩
    exact ⟨⟨.slice A b.length c, by rw [hw1, hq]; exact heap_at _ _ rfl, hbs.below HX1.out hhi⟩, by omega, Nat.le_trans hhi HX1.out.size, hb⟩
  have HQ1 := Lib.hid hq0
  have HQW := Lib.hid hq
  have HTOP : Hid (hi ≤ q) := by unfold Hid; omega
  have HL := Lib.hid hl
  have HBY := Lib.hid hb
  clear hhi hb hl q1 q2 q3 q4 hq0
  go_enter Try.func70, Try.ntmps70
  go_wp2_with fail
  rw [← hw1, ← hq]
  clear hw1 hq
  refine (RNumber_out HQ1.out).mono ?_
  rintro x w2 ⟨n, k, mid, ho, rfl, hqd, hg⟩
  have HO := Lib.hid ho
  have HQ2 := Lib.hid hqd
  have HG2 : Hid (Ext w w2) := Below.trans HX1.out ((Below.refl _ _).grown hg HX1.out.size (fun k hk => by injection hk with hk; have := HQW.out; omega))
  have HS2 : Hid (w1.heap.size ≤ w2.heap.size) := hg.size
  clear ho hqd hg
  by_cases hk : k = 0
  rotate_left
  · have hk1 : (k != 0) = true := by simpa using hk
    have HNO : Hid (∀ es, ¬ IsL b es) := fun es h => by
      rcases HO.out with ⟨h0, _⟩ | ⟨_, h0, _⟩
      · exact hk h0
      · exact h0 _ _ h.begins
    clear hk
    go_wp2_with fail
    go_ret2
    exact ⟨HG2.out, .inr ⟨HNO.out, rfl⟩⟩
  subst hk
  have HB : Hid (Begins b n mid) := by
    rcases HO.out with ⟨_, h⟩ | ⟨h, _⟩
    · exact h
    · cases h
  by_cases hn : 65536 < n
  · have d : decide ((65536 : Int) < (n : Int)) = true := decide_eq_true (by omega)
    have dn : decide (65536 < n) = true := decide_eq_true hn
    have HNO : Hid (∀ es, ¬ IsL b es) := fun es h => by have := (h.begins.unique HB.out).1; have := h.1; omega
    clear hn
    go_wp2_with fail
    go_ret2
    exact ⟨HG2.out, .inr ⟨HNO.out, rfl⟩⟩
  have d : decide ((65536 : Int) < (n : Int)) = false := decide_eq_false (by omega)
  have dn : decide (65536 < n) = false := decide_eq_false hn
  have hn2 : n ≤ 65536 := by omega
  have HML : Hid (mid.length ≤ b.length) := by have := congrArg List.length HB.out.eq; simp at this; unfold Hid; omega
  have HBM : Hid (∀ x ∈ mid, x < 256) := HQ2.out.byt
  have HN := Lib.hid hn2
  clear hn HO
  go_wp2_with fail
  go_loopw [7, 8, 9, 10, 11, 12] (fun v i _ _ _ _ wr => ∃ (R : List (Ent × Hd)) (rest : List Nat), R.length ≤ n ∧ i = .int .i64 (R.length : Int) ∧ AllEnt mid (R.map Prod.fst) rest ∧ Qd wr q lo hi rest ∧ Held w1.heap.size v R wr ∧ Hid (Ext w wr ∧ w1.heap.size ≤ wr.heap.size)) (fun _ i _ _ _ _ _ => n - (intOf i).toNat)
  case atStart => exact ⟨[], mid, Nat.zero_le _, rfl, ⟨rfl, by simp⟩, HQ2.out, Held.nil _ _, ⟨HG2.out, HS2.out⟩⟩
  case round =>
    obtain ⟨R, rest, hk, rfl, hall, hqd, hheld, HXX⟩ := hrel
    have HQD := Lib.hid hqd
    have HH := Lib.hid hheld
    have HA := Lib.hid hall
    have HLR : Hid (R.length + rest.length ≤ 1000000000000) := by
      have := hall.len; have h2 := HML.out; have h3 := HL.out; rw [List.length_map] at this; unfold Hid; omega
    clear hqd hheld hall
    have hcv : IntKind.i64.wrap (n : Int) = (n : Int) := by rw [IntKind.wrap_i64]; omega
    have hcv2 : wrap64 (n : Int) = (n : Int) := by unfold wrap64; omega
    by_cases hlt : R.length < n
    · have d1 : decide ((R.length : Int) < (n : Int)) = true := decide_eq_true (by omega)
      have d1n : decide (R.length < n) = true := decide_eq_true hlt
      have HLTT := Lib.hid hlt
      go_wp2_with fail
      refine (RBytes_slice HQD.out (by have := HLR.out; omega) (by decide) (by decide)).mono ?_
      rintro x w3 ⟨kA, kc, kb, k, rest', ho, hbs, rfl, hqd, hg⟩
      have HO := Lib.hid ho
      have HK3 := Lib.hid hbs
      have HQ3 := Lib.hid hqd
      have HX3 : Hid (Ext w w3) := HXX.out.1.grown hg HXX.out.1.size (fun k hk => by injection hk with hk; have := HQW.out; omega)
      have HH3 := Lib.hid (HH.out.grown hg (by have := HQW.out; have := HZ1.out; omega))
      have HS3 : Hid (w1.heap.size ≤ w3.heap.size ∧ wr.heap.size ≤ w3.heap.size) := ⟨Nat.le_trans HXX.out.2 hg.size, hg.size⟩
      clear ho hbs hqd hg
      by_cases hk0 : k = 0
      rotate_left
      · have hk1 : (k != 0) = true := by simpa using hk0
        have HNO : Hid (∀ es, ¬ IsL b es) := fun es h => by
          refine HA.out.no HB.out (by rw [List.length_map]; exact HLTT.out) (fun e r' hm he => ?_) h
          have hlen := Ent.form_le hm
          obtain ⟨_, e2, _⟩ := HO.out.same (.inl ⟨rfl, by omega, ⟨by omega⟩, he⟩)
          exact hk0 e2
        clear hk0
        go_wp2_with fail
        go_ret2
        exact ⟨HX3.out, .inr ⟨HNO.out, rfl⟩⟩
      subst hk0
      have HEQ : Hid (rest = bytesForm kb ++ rest') := by
        rcases HO.out with ⟨_, _, _, h⟩ | ⟨h, _⟩
        · exact h
        · exact absurd rfl h
      have HRA := Lib.hid (rread_new HK3.out (Nat.le_refl _) (fun x hx => HQD.out.byt x (HO.out.len.2.2 x hx)) (by have := HO.out.len.1; have := HLR.out; omega))
      go_wp2_with fail
      refine HRA.out.mono ?_
      rintro x w4 ⟨hx4, (⟨e, g, hi', rfl, hem⟩ | ⟨hno, rfl⟩)⟩
      rotate_left
      · have HX4 : Hid (Ext w w4) := Ext.trans HX3.out hx4
        have HNO : Hid (∀ es, ¬ IsL b es) := fun es h => by
          refine HA.out.no HB.out (by rw [List.length_map]; exact HLTT.out) (fun e r' hm he => ?_) h
          have hlen := Ent.form_le hm
          obtain ⟨e1, _, _⟩ := HO.out.same (.inl ⟨rfl, by omega, ⟨by omega⟩, he⟩)
          exact hno e ⟨hm, e1.symm⟩
        clear hx4 hno
        unfold noE
        go_wp2_with fail
        go_ret2
        exact ⟨Ext.trans HX4.out (ext_alloc _ _), .inr ⟨HNO.out, rfl⟩⟩
      have HX4 : Hid (Ext w3 w4) := hx4
      have HI := Lib.hid hi'
      have HEM := Lib.hid hem
      clear hx4 hi' hem
      unfold Ent.at_
      go_upto_region 13 with (fail)
      obtain ⟨w5, hw5⟩ : ∃ w5, w5 = w4.alloc (.cells #[.slice g.kA e.key.length g.kc, .int .i64 e.seq, .int .i64 e.kind, .slice g.vA e.val.length g.vc] 48) := ⟨_, rfl⟩
      rw [← hw5]
      have HX5 : Hid (Ext w4 w5) := by rw [hw5]; exact ext_alloc _ _
      have HB5 : Hid (w5.heap[w4.heap.size]? = some (.cells #[.slice g.kA e.key.length g.kc, .int .i64 e.seq, .int .i64 e.kind, .slice g.vA e.val.length g.vc] 48 (0, 0))) := by rw [hw5]; exact heap_at _ _ rfl
      have c0 := cell_of HB5.out (k := 0) rfl
      have c1 := cell_of HB5.out (k := 1) rfl
      have c2 := cell_of HB5.out (k := 2) rfl
      have c3 := cell_of HB5.out (k := 3) rfl
      have HH5 := Lib.hid ((HH3.out.below HX4.out).below HX5.out)
      have HEM5 := Lib.hid (HEM.out.below HX5.out (Nat.le_refl _))
      have HROW := Lib.hid (rowN_lt HH3.out.row)
      clear hw5
      go_wp2_with (at_builtin; refine wpList_pushheld rfl (.tmp 47) (.tmp 49) rfl w1.heap.size _ R rfl (HH5.out.below (ext_alloc _ _)) (e, g) w5.heap.size rfl ?blk ?each ?len ?hB ?_)
      case blk => exact heap_at _ _ rfl
      case each => exact ⟨w3.heap.size, HS3.out.1, w4.heap.size, Nat.le_trans HX5.out.size (Nat.le_succ _), HEM5.out.below (ext_alloc _ _) HX5.out.size, fun g' hg' => .inl (HROW.out g' hg').2.1⟩
      case len => have := HLR.out; omega
      case hB => exact Nat.le_trans (Nat.le_trans (Nat.le_trans HS3.out.1 HX4.out.size) HX5.out.size) (ext_alloc _ _).size
      intro A6 c6 w6 hh6 hb6
      have HS5 : Hid (w1.heap.size ≤ w5.heap.size) := Nat.le_trans (Nat.le_trans HS3.out.1 HX4.out.size) HX5.out.size
      have HB6 : Hid (Below w1.heap.size w3 w6) := hb6 _ (Below.alloc (Below.trans (HX4.out.mono HS3.out.1) (HX5.out.mono (Nat.le_trans HS3.out.1 HX4.out.size))) HS5.out _)
      have HH6 := Lib.hid hh6
      have HQ6 := Lib.hid (HQ3.out.below HB6.out (by have := HTOP.out; have := HQW.out; have := HZ1.out; omega) (by have := HQW.out; have := HZ1.out; omega))
      have HALL : Hid (AllEnt mid ((R ++ [(e, g)]).map Prod.fst) rest') := by
        rw [List.map_append]
        exact HA.out.snoc HI.out.1 (by rw [HEQ.out, HI.out.2])
      have HX6 : Hid (Ext w w6 ∧ w1.heap.size ≤ w6.heap.size) := ⟨Below.trans HX3.out (HB6.out.mono HX1.out.size), Nat.le_trans HS3.out.1 HB6.out.size⟩
      clear hh6 hb6 c0 c1 c2 c3
      go_wp2_with fail
      go_roundw
      case rel => exact ⟨R ++ [(e, g)], rest', by simp; omega, by simp; try go_num, HALL.out, HQ6.out, by simpa using HH6.out, HX6⟩
      case measure => have := HLTT.out; simp [intOf]; omega
    · have d1 : decide ((R.length : Int) < (n : Int)) = false := decide_eq_false (by omega)
      have d1n : decide (R.length < n) = false := decide_eq_false hlt
      have hnn : R.length = n := by omega
      have HNN := Lib.hid hnn
      have HLEFT := Lib.hid (RLeft_any _ _ _ _ _ HQD.out)
      obtain ⟨A', c', hv'⟩ := rowN_slice HH.out.row
      subst hv'
      clear hnn hlt
      by_cases hr0 : rest.length = 0
      · have f1 : decide ((0 : Int) < (rest.length : Int)) = false := decide_eq_false (by omega)
        have f1n : decide (0 < rest.length) = false := decide_eq_false (by omega)
        have HR0 : Hid (rest = []) := List.eq_nil_of_length_eq_zero hr0
        clear hr0
        go_wp2_with fail
        refine HLEFT.out.mono ?_
        rintro x _ ⟨rfl, rfl⟩
        go_wp2_with fail
        go_ret2
        have hA := HA.out
        rw [HR0.out] at hA
        exact ⟨HXX.out.1, .inl ⟨R, A', c', AllEnt.is (xs := R.map Prod.fst) (by rw [List.length_map, HNN.out]; exact HB.out) (by rw [List.length_map, HNN.out]; exact HN.out) hA, rfl, HH.out.es_new.wide HX1.out.size (Nat.le_refl _)⟩⟩
      · have f1 : decide ((0 : Int) < (rest.length : Int)) = true := decide_eq_true (by omega)
        have f1n : decide (0 < rest.length) = true := decide_eq_true (by omega)
        have HR0 : Hid (rest ≠ []) := fun h => hr0 (by rw [h]; rfl)
        clear hr0
        go_wp2_with fail
        refine HLEFT.out.mono ?_
        rintro x _ ⟨rfl, rfl⟩
        go_wp2_with fail
        go_ret2
        exact ⟨HXX.out.1, .inr ⟨fun es hes => HR0.out (AllEnt.rest (xs := R.map Prod.fst) (by rw [List.length_map, HNN.out]; exact HB.out) HA.out hes), rfl⟩⟩
theorem rlists_any {w : World} {lo hi : Nat} {v : Value} {b : List Nat} (hv : Bs w lo hi v b) (hhi : hi ≤ w.heap.size) (hb : ∀ x ∈ b, x < 256) (hl : b.length ≤ 1000000000000) : Calls Try.prog 70 #[v] w (RListsAns w b) := by
  refine (rlists_new hv hhi hb hl).mono ?_
  rintro x w' ⟨hx, (⟨R, A, c, h1, h2, h3⟩ | h)⟩
  · exact ⟨hx, .inl ⟨R, A, c, h1, h2, h3.wide (Nat.zero_le _) (Nat.le_refl _)⟩⟩
  · exact ⟨hx, .inr h⟩
end Go.Proofs.Ytgflhbpmkcggnaa

/- wal's batchOf: the batch of a payload. -/
namespace Go.Proofs.Ytgflhbpmkcggnaa
open Go.ChangeShapes Go.WideShapes Go.ChangeAt Go.RowKit

/-- What is read of a batch's bytes is it. -/
theorem read_bat {p r1 bs r2 : List Nat} {n : Nat} {k1 k2 most : Int} {es : List Ent} (h1 : OutNum p n k1 r1) (h2 : OutText most r1 bs k2 r2) (hm : most = (r1.length : Int) ∨ (p.length : Int) ≤ most) (h3 : IsL bs es ∨ (∀ es', ¬ IsL bs es') ∧ es = []) {b : Bat} (hb : IsBt p b) :
    b.idx = (n : Int) ∧ b.es = es ∧ k1 = 0 ∧ k2 = 0 ∧ r2 = [] ∧ IsL bs es := by
  have hm1 := hb.1.1
  have hB : Begins p b.idx.toNat (bytesForm (lform b.es)) := ⟨Bat.may_u64 hb.1, hb.2.symm⟩
  have hU := lform_u64 hb.1.2.2.2 hb.1.2.2.1
  rcases h1 with ⟨rfl, hbeg⟩ | ⟨_, hno, _, _⟩
  case inr => exact absurd hB (hno _ _)
  obtain ⟨e1, e2⟩ := hB.unique hbeg
  have e2' : r1 = bytesForm (lform b.es) ++ [] := by rw [List.append_nil]; exact e2.symm
  have hle : ((lform b.es).length : Int) ≤ most := by
    have h5 := (bytesForm_len hU).2
    have h6 : r1.length = (bytesForm (lform b.es)).length := by rw [e2]
    have h7 : r1.length ≤ p.length := by rw [hbeg.eq]; simp
    rcases hm with hm | hm <;> omega
  rcases h2 with ⟨rfl, _, hu, hr⟩ | ⟨_, herr, _, _⟩
  case inr => exact absurd (herr.not hle hU e2') id
  rw [e2'] at hr
  obtain ⟨e3, e4⟩ := bytesForm_cut hU hu hr
  have hL : IsL bs b.es := e3 ▸ Bat.may_isL hb.1
  rcases h3 with h3 | ⟨h3, _⟩
  · exact ⟨by omega, hL.unique h3, rfl, rfl, e4.symm, h3⟩
  · exact absurd hL (h3 _)

/-- No batch. -/
def noB : Value := .agg #[.int .i64 0, .slice none 0 0]
/-- What is answered of a payload. -/
def BOfAns (w : World) (p : List Nat) (e : Ending) (w' : World) : Prop :=
  Ext w w' ∧ ((∃ x : Bx, IsBt p x.bat ∧ e = .returned (.tuple #[x.val, .bool true]) ∧ Gb w.heap.size x w') ∨ ((∀ b, ¬ IsBt p b) ∧ e = .returned (.tuple #[noB, .bool false])))

theorem batch_ret {fn : Func} {tmps : Array Value} {w : World} {g : Nat} {p q : Tmp} {c : Array Value} {k : Value} {R : Ending → World → Prop} (hr : fn.results = #[.cell p 24, .tmp q]) (h2 : tmps.getD p undef = .pointer (some ⟨g, 0, none⟩)) (h3 : tmps.getD q undef = k)
    (hc : c.size = 2) (hg : w.heap[g]? = some (.cells c 24 (0, 0))) (h : R (.returned (.tuple #[.agg c, k])) w) : bodyPost Try.prog fn R .ret { tmps := tmps, defers := [] } w := by
  refine ⟨rfl, .tuple #[.agg c, k], ?_, h⟩
  have hi : (Try.prog.info? 24).map (·.size) = some 2 := by kernel_rfl
  have hl := run_loadVar_row (P := Try.prog) w g 24 24 c (0, 0) _ hg Try.underlying24 rfl (by rw [hc]; exact hi)
  have ha : (asAddr (.pointer (some ⟨g, 0, none⟩))).run Try.prog w = .ok ⟨g, 0, none⟩ w := rfl
  rw [results_cell_tmp hr, h2, h3, ha, Result.andThen_ok, hl, Result.andThen_ok]
/-- Two cells of a block, set. -/
theorem set_two {u : World} {g : Nat} {a b x y : Value} {ty : TypeId} (h : u.heap[g]? = some (.cells #[a, b] ty (0, 0))) :
    ((u.setCell ⟨g, 0, none⟩ x).setCell ⟨g, 1, none⟩ y).heap[g]? = some (.cells #[x, y] ty (0, 0)) := by
  have h1 := heap_setCell_same u g 0 _ _ x h
  have h2 := heap_setCell_same (u.setCell ⟨g, 0, none⟩ x) g 1 _ _ y h1
  rw [h2]; rfl
theorem Got.far {B : Nat} {v x : Value} {R : List (Ent × Hd)} {u : World} {p : Addr} (h : Got B v R u) (hp : p.block < B) : Got B v R (u.setCell p x) :=
  h.chg (Chg.setCell u p x (S := fun g => g = p.block) rfl) fun g hg => .inl (by omega)

set_option maxRecDepth 100000 in
set_option maxHeartbeats 8000000 in
theorem batchOf_any {w : World} {lo hi : Nat} {v : Value} {b : List Nat} (hv : Bs w lo hi v b) (hhi : hi ≤ w.heap.size) (hb : ∀ x ∈ b, x < 256) (hl : b.length ≤ 1000000000000) : Calls Try.prog 83 #[v] w (BOfAns w b) := by
  obtain ⟨w1, hw1⟩ : ∃ w1, w1 = w.alloc (.cells #[.int .i64 0, .slice none 0 0] 24) := ⟨_, rfl⟩
  have HX1 : Hid (Ext w w1) := by rw [hw1]; exact ext_alloc _ _
  have HZ1 : Hid (w1.heap.size = w.heap.size + 1) := by rw [hw1]; simp [Hid]
  have HR1 : Hid (w1.heap[w.heap.size]? = some (.cells #[.int .i64 0, .slice none 0 0] 24 (0, 0))) := by rw [hw1]; exact heap_at _ _ rfl
  have HV := Lib.hid hv
  have HO := Lib.hid (open_any v lo hi b w1 (hv.below HX1.out hhi) (Nat.le_trans hhi HX1.out.size) hl hb)
  have HHI := Lib.hid hhi
  have HL := Lib.hid hl
  have HBY := Lib.hid hb
  obtain ⟨A, c, rfl, _, _, _, _⟩ := hv
  clear hhi hb hl
  go_enter Try.func83, Try.ntmps83
  go_wp2_with fail
  rw [← hw1]
  refine Calls.mono HO.out ?_
  rintro x w2 ⟨r, rlo, rhi, rfl, hrd, hr, hlo, hb2⟩
  have HRD := Lib.hid hrd
  have HR := Lib.hid hr
  have HX2 : Hid (Below w1.heap.size w1 w2) := hb2
  clear hrd hr hlo hb2 HO
  go_wp2_with fail
  refine (Number_out HRD.out).mono ?_
  rintro x w3 ⟨n, k1, r1, ho1, rfl, hrd, hg⟩
  have HO1 := Lib.hid ho1
  have HX3 : Hid (Below w1.heap.size w1 w3) := HX2.out.grown hg HX2.out.size (fun k hk => by injection hk with hk; have := HR.out; omega)
  have HRD3 := Lib.hid hrd
  have hr1 : r1.length ≤ b.length := ho1.len.1
  have hn64 : n < 18446744073709551616 := ho1.len.2.lt
  have HSUB : Hid (∀ y ∈ r1, y ∈ b) := fun y hy => by
    rcases ho1 with ⟨_, h⟩ | ⟨_, _, h, _⟩
    · rw [h.eq]; simp [hy]
    · rw [h] at hy; exact hy
  have HN1 := Lib.hid (And.intro hr1 hn64)
  have hr1m : (r1.length : Int) ≤ 1000000000000 := by have := HL.out; omega
  clear ho1 hrd hg HRD hr1
  go_wp2_with fail
  refine (left_any _ _ _ _ _ HRD3.out).mono ?_
  rintro x w3' ⟨rfl, hw3'⟩
  subst hw3'
  go_wp2_with fail
  refine (Bytes_own HRD3.out (by have := HL.out; have := HN1.out.1; omega) (by omega) (by omega)).mono ?_
  rintro x w4 ⟨lA, lc, bs, k2, r2, ho2, hown, rfl, hrd, hg⟩
  have HO2 := Lib.hid ho2
  have HK4 := Lib.hid hown
  have HX4 : Hid (Below w1.heap.size w1 w4) := HX3.out.grown hg HX3.out.size (fun k hk => by injection hk with hk; have := HR.out; omega)
  have HBSL : Hid (bs.length ≤ b.length ∧ ∀ x ∈ bs, x < 256) := ⟨Nat.le_trans ho2.len.1 HN1.out.1, fun x hx => HBY.out x (HSUB.out x (ho2.len.2.2 x hx))⟩
  have HLS := Lib.hid (elists_any hown.bs (Nat.le_refl _) HBSL.out.2 (by have := HL.out; have := HBSL.out.1; omega))
  clear ho2 hrd hg hown HRD3 hr1m hn64
  go_wp2_with fail
  refine HLS.out.mono ?_
  intro x w5 hans
  obtain ⟨lx, lv, kk, rfl, HX5, HG5, HIS⟩ : ∃ (R : List (Ent × Hd)) (v : Value) (kk : Int), x = .returned (.tuple #[v, .int .i64 kk]) ∧ Hid (Below w1.heap.size w1 w5) ∧ Hid (Got w1.heap.size v R w5) ∧ Hid (IsL bs (R.map Prod.fst) ∨ (∀ es', ¬ IsL bs es') ∧ R.map Prod.fst = []) := by
    obtain ⟨hx, (⟨R, v, h1, rfl, h2⟩ | ⟨h1, rfl⟩)⟩ := hans
    · exact ⟨R, v, 0, rfl, HX4.out.trans (hx.mono HX4.out.size), h2.base HX4.out.size, .inl h1⟩
    · exact ⟨[], .slice none 0 0, 4, rfl, HX4.out.trans (hx.mono HX4.out.size), Got.nil _ _, .inr ⟨h1, rfl⟩⟩
  obtain ⟨eA, ec, rfl⟩ := HG5.out.slice
  clear hans
  obtain ⟨s, hs⟩ : ∃ s, s = wrap64 (n : Int) := ⟨_, rfl⟩
  have HS := Lib.hid hs
  have hs' : IntKind.i64.wrap (n : Int) = s := by rw [hs, IntKind.wrap_i64]; unfold wrap64; omega
  clear hs
  go_upto_region 6 with (fail)
  clear hs'
  obtain ⟨X, hX⟩ : ∃ X : Bx, X = ⟨s, eA, ec, lx⟩ := ⟨_, rfl⟩
  have HONE : Hid (∀ b', IsBt b b' → b' = X.bat) := fun b' h => by
    obtain ⟨h1, h2, _⟩ := read_bat HO1.out HO2.out (.inl rfl) HIS.out h
    have h3 := h.1.2.1
    have h4 := h.1.1
    rw [hX]
    refine Bat.ext ?_ h2
    show b'.idx = s
    rw [HS.out, h1]
    unfold wrap64
    omega
  have HLX : Hid (lx.length ≤ 1000000000000) := by
    rcases HIS.out with h | ⟨_, h⟩
    · have := h.1; rw [List.length_map] at this; unfold Hid; omega
    · have h := List.map_eq_nil_iff.1 h; unfold Hid; rw [h]; simp
  have HGX : Hid (Gb w1.heap.size X w5) := by
    rw [hX]
    refine ⟨HG5.out, ?_, ?_, HLX.out⟩
    all_goals (show _ ≤ _; dsimp only; rw [HS.out]; unfold wrap64; omega)
  obtain ⟨w7, hw7⟩ : ∃ w7, w7 = w5.alloc (.cells #[.int .i64 s, .slice eA lx.length ec] 24) := ⟨_, rfl⟩
  rw [← hw7]
  have HX57 : Hid (Ext w5 w7) := by rw [hw7]; exact ext_alloc _ _
  have HX7 : Hid (Below w1.heap.size w1 w7) := HX5.out.trans (HX57.out.mono HX5.out.size)
  have HE7 : Hid (w7.heap[w5.heap.size]? = some (.cells #[.int .i64 s, .slice eA lx.length ec] 24 (0, 0))) := by rw [hw7]; exact heap_at _ _ rfl
  have HG7 := Lib.hid (HGX.out.ext HX57.out)
  have hv : (.agg #[.int .i64 s, .slice eA lx.length ec] : Value) = X.val := by rw [hX]; rfl
  clear hw7
  have y0 := cell_of HE7.out (k := 0) rfl
  have y1 := cell_of HE7.out (k := 1) rfl
  have HMY := Lib.hid (wmay_any HG7.out.bm (Nat.le_refl _))
  rw [← hv] at HMY
  have HVE := Lib.hid hv
  clear hX hv
  go_wp2_with fail
  refine HMY.out.mono ?_
  rintro x w8 ⟨z, hz, rfl, hx8⟩
  have HZ := Lib.hid hz
  have HX8 : Hid (Below w1.heap.size w1 w8) := HX7.out.trans (hx8.mono HX7.out.size)
  have HG8 := Lib.hid (HG7.out.ext hx8)
  have HE8 := Lib.hid (ext_heap hx8 HE7.out)
  have hblk := HX8.out.block w.heap.size (by have := HZ1.out; omega)
  rw [HR1.out] at hblk
  have HBLK := Lib.hid hblk
  clear hz hx8 y0 y1 hblk HMY
  cases z with
  | false =>
    have q0 := cell_of HBLK.out (k := 0) rfl
    have q1 := cell_of HBLK.out (k := 1) rfl
    have z0 := frozen_four HBLK.out (j := 0)
    have z1 := frozen_four HBLK.out (j := 1)
    have HEXT : Hid (Ext w w8) := Ext.trans HX1.out HX8.out
    go_wp2_with fail
    refine batch_ret (p := 2) (q := 3) (by kernel_rfl) rfl rfl rfl (set_two HBLK.out) ?_
    refine ⟨Below.setCell (Below.setCell HEXT.out (Nat.le_refl _) _) (Nat.le_refl _) _, .inr ⟨fun b' h => ?_, rfl⟩⟩
    have h1 := HONE.out b' h
    have h2 := h.1
    rw [h1] at h2
    have h3 := HZ.out.2 h2
    cases h3
  | true =>
    have HMAY := Lib.hid (HZ.out.1 rfl)
    have y0 := cell_of HE8.out (k := 0) rfl
    have y1 := cell_of HE8.out (k := 1) rfl
    have HFO := Lib.hid (wform_any HG8.out.bm (Nat.le_refl _) HMAY.out)
    rw [← HVE.out] at HFO
    go_wp2_with fail
    refine HFO.out.mono ?_
    rintro x w9 ⟨v9, rfl, hown, hx9⟩
    have HO9 : Hid (Own w8.heap.size X.bat.form v9 w9) := hown
    have HX9 : Hid (Below w1.heap.size w1 w9) := HX8.out.trans ((show Ext w8 w9 from hx9).mono HX8.out.size)
    have HG9 := Lib.hid (HG8.out.ext hx9)
    have HE9 := Lib.hid (ext_heap (show Ext w8 w9 from hx9) HE8.out)
    have HF8 := Lib.hid (equal_any HO9.out.bs (HV.out.below (Ext.trans HX1.out HX9.out) HHI.out) (Bat.form_lt HG9.out.bm.bytes) HBY.out)
    obtain ⟨A9, c9, rfl⟩ := HO9.out.slice
    obtain ⟨z, hz⟩ : ∃ z, z = decide (X.bat.form = b) := ⟨_, rfl⟩
    rw [← hz] at HF8
    have HZ2 := Lib.hid hz
    have hblk := HX9.out.block w.heap.size (by have := HZ1.out; omega)
    rw [HR1.out] at hblk
    have HBLK2 := Lib.hid hblk
    clear hz hown hx9 y0 y1 hblk
    go_wp2_with fail
    refine Calls.mono HF8.out ?_
    rintro x w10 ⟨rfl, rfl⟩
    have HEXT : Hid (Ext w w10) := Ext.trans HX1.out HX9.out
    have q0 := cell_of HBLK2.out (k := 0) rfl
    have q1 := cell_of HBLK2.out (k := 1) rfl
    have z0 := frozen_four HBLK2.out (j := 0)
    have z1 := frozen_four HBLK2.out (j := 1)
    have y0 := cell_of HE9.out (k := 0) rfl
    have y1 := cell_of HE9.out (k := 1) rfl
    cases z with
    | false =>
      go_wp2_with fail
      refine batch_ret (p := 2) (q := 3) (by kernel_rfl) rfl rfl rfl (set_two HBLK2.out) ?_
      refine ⟨Below.setCell (Below.setCell HEXT.out (Nat.le_refl _) _) (Nat.le_refl _) _, .inr ⟨fun b' h => ?_, rfl⟩⟩
      have h1 := HONE.out b' h
      subst h1
      exact absurd h.2 (of_decide_eq_false HZ2.out.symm)
    | true =>
      go_wp2_with fail
      refine batch_ret (p := 2) (q := 3) (by kernel_rfl) rfl rfl rfl (set_two HBLK2.out) ?_
      refine ⟨Below.setCell (Below.setCell HEXT.out (Nat.le_refl _) _) (Nat.le_refl _) _, .inl ⟨X, ⟨HMAY.out, of_decide_eq_true HZ2.out.symm⟩, by rw [← HVE.out]; rfl, ?_⟩⟩
      have hg := HG9.out
      have hz := HZ1.out
      have g1 : Got w1.heap.size (.slice X.A X.L.length X.c) X.L ((w10.setCell ⟨w.heap.size, 0, none⟩ (.int .i64 s)).setCell ⟨w.heap.size, 1, none⟩ (.slice eA lx.length ec)) :=
        (hg.got.far (by show w.heap.size < _; omega)).far (by show w.heap.size < _; omega)
      exact ⟨g1.base HX1.out.size, hg.i1, hg.i2, hg.ln⟩
end Go.Proofs.Ytgflhbpmkcggnaa

/- As XIter, where what is left, too, keeps all but the function's own first blocks (no function of the program stands here). -/
namespace Go.Proofs.Ytgflhbpmkcggnaa
open Go.RowKit

/-- What a function owes over which one ranges: it hands over, one behind the other, so many x; of the k-th 'Ok' holds. From its beginning (world W) to the first call of yield it makes memory alone (up to block n₁); between two calls it changes no memory but that. C: what the one who goes over it promises. -/
def IterB (P : Program) {α : Type} (gf : Nat) (lb : Array Value) (len : Nat) (encs : α → Array Value) (Ok : Nat → Nat → α → World → Prop) (C : World → Prop) (w : World) : Prop :=
  ∀ (m l : Nat) (J : Nat → Nat → World → Prop) (Jx : Nat → World → Prop) (W : World), Ext w W →
    (∀ n₁ k A, J n₁ k A → C A) → (∀ n₁ k A A', W.heap.size ≤ n₁ → J n₁ k A → Chg (Btw W.heap.size n₁) A A' → J n₁ k A') → (∀ n₁ A A', W.heap.size ≤ n₁ → Jx n₁ A → Chg (Btw W.heap.size n₁) A A' → Jx n₁ A') → (∀ A, Ext W A → J A.heap.size 0 A) →
    (∀ n₁ k x A, W.heap.size ≤ n₁ → n₁ ≤ A.heap.size → J n₁ k A → k < len → Ok n₁ k x A → YieldAt Fence.wide m P l (encs x) A fun e A' => Step W.heap.size n₁ A A' ∧ ((e = .returned (.bool true) ∧ J n₁ (k + 1) A') ∨ (e = .returned (.bool false) ∧ Jx n₁ A'))) →
    Calls P gf (#[.func (.yield l) #[] #[]] ++ lb) W fun e A => (∃ v, e = .returned v) ∧ ((∃ n₁, W.heap.size ≤ n₁ ∧ J n₁ len A) ∨ ∃ n₁, W.heap.size ≤ n₁ ∧ Jx n₁ A)

/-- The loop. -/
theorem wpIn_overB {P : Program} {n : Nat} {α : Type} {g : Operand} {ps : Array Tmp} {assign body : Code} {Q : Exit → Act → World → Prop} {a : Act} {w : World}
    {gf : Nat} {lb : Array Value} (hg : a.eval g = .func (.func gf) #[] lb) (eg : ∀ args w, (callFunc gf args).run P w = .ok (.enter gf args) w)
    {encs : α → Array Value} {len : Nat} {Ok : Nat → Nat → α → World → Prop} {C : World → Prop} (hseq : IterB P gf lb len encs Ok C w) (hps : ∀ x, (encs x).size = ps.size)
    (I : Nat → Nat → World → Prop) (Ix : Nat → Code → World → Prop) (hC : ∀ n₁ k A, I n₁ k A → C A)
    (hI : ∀ n₁ k A A', w.heap.size + 2 ≤ n₁ → I n₁ k A → Chg (Btw w.heap.size n₁) A A' → I n₁ k A') (hIx : ∀ n₁ c A A', w.heap.size + 2 ≤ n₁ → Ix n₁ c A → Chg (Btw w.heap.size n₁) A A' → Ix n₁ c A') (h0 : ∀ A, Ext w A → I A.heap.size 0 A)
    (hround : ∀ l n₁ k x A, w.heap.size ≤ l → l < n₁ → w.heap.size + 2 ≤ n₁ → n₁ ≤ A.heap.size → I n₁ k A → k < len → Ok n₁ k x A →
      assign.wpIn (Fence.wide.inRound l) (n - 1 - 1) P (Exit.then (fun a₁ A1 => Step w.heap.size n₁ A A1 ∧ ∀ A2, Chg (fun i => i = l) A1 A2 → body.wpIn (Fence.wide.inRound l) (n - 1 - 1) P (bodyOwes w.heap.size n₁ (I n₁ (k + 1)) (Ix n₁) A2) a₁ A2) (fun _ _ _ => False))
        { tmps := (ps.zip (encs x)).foldl (fun t (p, v) => t.setIfInBounds p v) a.tmps, defers := [] } A)
    (hdone : ∀ D n₁ W, w.heap.size ≤ D → D < n₁ → w.heap.size + 2 ≤ n₁ → I n₁ len W → W.heap[D]? = some (.deferred (some [])) → Q .normal { a with defers := { target := .collected D, args := #[] } :: a.defers } W)
    (hstop : ∀ D n₁ c W, w.heap.size ≤ D → D < n₁ → w.heap.size + 2 ≤ n₁ → Ix n₁ c W → W.heap[D]? = some (.deferred (some [])) → c.wpIn Fence.wide n P Q { a with defers := { target := .collected D, args := #[] } :: a.defers } W) :
    (Code.rangeFunc g ps assign body).wpIn Fence.wide n P Q a w := by
  refine wpIn_rangeFunc ?_
  intro fn hfn
  obtain ⟨rec, hrec⟩ : ∃ rec : LoopState → Option Code → Loop, rec = fun st pe => { state := st, pending := pe, fn, tmps := a.tmps, params := ps, assign, body, defers := w.heap.size } := ⟨_, rfl⟩
  obtain ⟨W1, hW1⟩ : ∃ W1, W1 = (w.alloc (.deferred (some []))).alloc (.loop (rec .ready none)) := ⟨_, rfl⟩
  have hx1 : Ext w W1 := by rw [hW1]; exact ((Below.refl _ w).alloc (Nat.le_refl _) _).alloc (by simp) _
  have hz1 : W1.heap.size = w.heap.size + 2 := by rw [hW1]; simp
  have hL1 : W1.heap[w.heap.size + 1]? = some (.loop (rec .ready none)) := by
    rw [hW1]; have := World.alloc_heap_new (w.alloc (.deferred (some []))) (.loop (rec .ready none)); rwa [World.size_alloc] at this
  have hD1 : W1.heap[w.heap.size]? = some (.deferred (some [])) := by
    rw [hW1]; exact (Below.heap_alloc _ _ _ (by simp)).trans (World.alloc_heap_new w _)
  refine ⟨w.heap.size + 1, [{ target := .collected w.heap.size, args := #[] }], W1, { target := .fn (.func gf) lb, args := #[.func (.yield (w.heap.size + 1)) #[] #[]] }, W1, gf,
    #[.func (.yield (w.heap.size + 1)) #[] #[]] ++ lb, W1, ?_, ?_, (fun _ _ => trivial), ?_, (fun h => (by cases h)), ?_⟩
  · rw [hW1, hrec]; exact run_enterLoop_outer _ _ _ _ _
  · simp only [resolve, hg]
    simp [go_sem]
  · simp [invoke, go_sem, eg]
  · refine callsIn_wide.2 ((hseq (n - 1 - 1) (w.heap.size + 1)
      (fun n₁ k A => I n₁ k A ∧ A.heap[w.heap.size + 1]? = some (.loop (rec .ready none)) ∧ A.heap[w.heap.size]? = some (.deferred (some [])))
      (fun n₁ A => ∃ c, Ix n₁ c A ∧ A.heap[w.heap.size + 1]? = some (.loop (rec .done (some c))) ∧ A.heap[w.heap.size]? = some (.deferred (some [])))
      W1 hx1 (fun n₁ k A h => hC n₁ k A h.1) ?_ ?_ ?_ ?_).mono ?_)
    · rintro n₁ k A A' hn ⟨hi, hl, hd⟩ hc
      have lt1 := (Array.getElem?_eq_some_iff.1 hl).1
      have lt2 := (Array.getElem?_eq_some_iff.1 hd).1
      exact ⟨hI n₁ k A A' (by omega) hi (hc.mono fun i _ hb => ⟨by have := hb.1; omega, hb.2⟩), (hc.block _ lt1 (fun hb => by have := hb.1; omega)).trans hl, (hc.block _ lt2 (fun hb => by have := hb.1; omega)).trans hd⟩
    · rintro n₁ A A' hn ⟨c, hi, hl, hd⟩ hc
      have lt1 := (Array.getElem?_eq_some_iff.1 hl).1
      have lt2 := (Array.getElem?_eq_some_iff.1 hd).1
      exact ⟨c, hIx n₁ c A A' (by omega) hi (hc.mono fun i _ hb => ⟨by have := hb.1; omega, hb.2⟩), (hc.block _ lt1 (fun hb => by have := hb.1; omega)).trans hl, (hc.block _ lt2 (fun hb => by have := hb.1; omega)).trans hd⟩
    · intro A hx
      exact ⟨h0 A (hx1.trans hx), (hx.block _ (by omega)).trans hL1, (hx.block _ (by omega)).trans hD1⟩
    · rintro n₁ k x A hn hnA ⟨hi, hl, hd⟩ hk hok
      have hy := run_yield (P := P) (args := encs x) hl (by rw [hrec]; exact hps x)
      rw [hrec] at hy
      refine ⟨fn, _, assign, body, hy, roundIn_of_wpIn hfn ?_⟩
      refine wpIn_mono (hround (w.heap.size + 1) n₁ k x A (by omega) (by omega) (by omega) hnA hi hk hok) ?_
      intro e a₁ A1 hp
      cases e with
      | normal =>
        obtain ⟨hst, hb⟩ := hp
        have hl1 := (hst.stay (w.heap.size + 1) (by omega) (by omega)).trans hl
        have hd1 := (hst.stay w.heap.size (Nat.le_refl _) (by omega)).trans hd
        have lt1 := (Array.getElem?_eq_some_iff.1 hl1).1
        refine ⟨_, run_beginRound hl1 (by rw [hrec]), ?_⟩
        have hc2 := putObj_chg A1 (w.heap.size + 1) (.loop { rec .ready none with state := .busy })
        have hl2 : (A1.putObj (w.heap.size + 1) (.loop { rec .ready none with state := .busy })).heap[w.heap.size + 1]? = some (.loop { rec .ready none with state := .busy }) := World.putObj_heap_same lt1
        have hd2 := (hc2.block w.heap.size (by omega) (by omega)).trans hd1
        have fin : ∀ (jump : Option Code) (W3 : World), Step w.heap.size n₁ (A1.putObj (w.heap.size + 1) (.loop { rec .ready none with state := .busy })) W3 →
            (Instr.endRound (w.heap.size + 1) jump).run P W3 = .ok (.bool jump.isNone) (W3.putObj (w.heap.size + 1) (.loop (rec (if jump.isNone then .ready else .done) jump))) ∧
            (W3.putObj (w.heap.size + 1) (.loop (rec (if jump.isNone then .ready else .done) jump))).heap[w.heap.size + 1]? = some (.loop (rec (if jump.isNone then .ready else .done) jump)) ∧
            (W3.putObj (w.heap.size + 1) (.loop (rec (if jump.isNone then .ready else .done) jump))).heap[w.heap.size]? = some (.deferred (some [])) ∧
            Step W1.heap.size n₁ A (W3.putObj (w.heap.size + 1) (.loop (rec (if jump.isNone then .ready else .done) jump))) := fun jump W3 hs3 => by
          have hl3 := (hs3.stay _ (by omega) (by omega)).trans hl2
          have hd3 := (hs3.stay _ (Nat.le_refl _) (by omega)).trans hd2
          have lt3 := (Array.getElem?_eq_some_iff.1 hl3).1
          have hr := run_endRound (P := P) jump hl3
          rw [hrec] at hr ⊢
          refine ⟨hr, World.putObj_heap_same lt3, (World.putObj_heap_other (by omega)).trans hd3, ?_⟩
          have s1 : Step W1.heap.size n₁ A A1 := ⟨fun i h1 h2 => hst.stay i (by omega) h2, hst.os, hst.tape, hst.output, hst.size⟩
          have s2 : Step W1.heap.size n₁ A1 (A1.putObj (w.heap.size + 1) (.loop { rec .ready none with state := .busy })) := ⟨fun i h1 h2 => World.putObj_heap_other (by omega), rfl, rfl, rfl, by simp⟩
          have s3 : Step W1.heap.size n₁ (A1.putObj (w.heap.size + 1) (.loop { rec .ready none with state := .busy })) W3 := ⟨fun i h1 h2 => hs3.stay i (by omega) h2, hs3.os, hs3.tape, hs3.output, hs3.size⟩
          exact ((s1.trans s2).trans s3).trans ⟨fun i h1 h2 => World.putObj_heap_other (by omega), rfl, rfl, rfl, by simp⟩
        have hchg : ∀ (W3 : World) (o : Obj), Chg (Btw w.heap.size n₁) W3 (W3.putObj (w.heap.size + 1) o) := fun W3 o => (putObj_chg W3 _ o).mono fun i _ e => ⟨by omega, by omega⟩
        refine wpIn_mono (hb _ hc2) ?_
        intro e a3 W3 hp
        cases e with
        | normal =>
          obtain ⟨hs3, hi3⟩ := hp
          obtain ⟨hr, hl4, hd4, hst4⟩ := fin none W3 hs3
          exact ⟨_, _, hr, hst4, .inl ⟨rfl, hI n₁ (k + 1) _ _ (by omega) hi3 (hchg _ _), hl4, hd4⟩⟩
        | ret =>
          obtain ⟨hs3, hi3⟩ := hp
          obtain ⟨hr, hl4, hd4, hst4⟩ := fin (some .ret) W3 hs3
          exact ⟨_, _, hr, hst4, .inr ⟨rfl, .ret, hIx n₁ _ _ _ (by omega) hi3 (hchg _ _), hl4, hd4⟩⟩
        | exit id =>
          obtain ⟨hs3, hi3⟩ := hp
          obtain ⟨hr, hl4, hd4, hst4⟩ := fin (some (.exit id)) W3 hs3
          exact ⟨_, _, hr, hst4, .inr ⟨rfl, .exit id, hIx n₁ _ _ _ (by omega) hi3 (hchg _ _), hl4, hd4⟩⟩
        | goto t =>
          obtain ⟨hs3, hi3⟩ := hp
          obtain ⟨hr, hl4, hd4, hst4⟩ := fin (some (.goto t)) W3 hs3
          exact ⟨_, _, hr, hst4, .inr ⟨rfl, .goto t, hIx n₁ _ _ _ (by omega) hi3 (hchg _ _), hl4, hd4⟩⟩
        | panic ch => exact hp.elim
        | outgrown => exact hp.elim
      | ret => exact hp.elim
      | exit id => exact hp.elim
      | goto t => exact hp.elim
      | panic ch => exact hp.elim
      | outgrown => exact hp.elim
    · rintro e W2 ⟨⟨v, rfl⟩, (⟨n₁, hn, hi, hl, hd⟩ | ⟨n₁, hn, c, hi, hl, hd⟩)⟩
      · have hr := run_endLoop (P := P) hl (by rw [hrec]; simp)
        rw [hrec] at hr
        exact ⟨none, _, hr, hdone _ n₁ _ (Nat.le_refl _) (by omega) (by omega) (hI n₁ len _ _ (by omega) hi ((putObj_chg _ _ _).mono fun i _ e => ⟨by omega, by omega⟩)) ((World.putObj_heap_other (by omega)).trans hd)⟩
      · have hr := run_endLoop (P := P) hl (by rw [hrec]; simp)
        rw [hrec] at hr
        exact ⟨some c, _, hr, hstop _ n₁ c _ (Nat.le_refl _) (by omega) (by omega) (hIx n₁ c _ _ (by omega) hi ((putObj_chg _ _ _).mono fun i _ e => ⟨by omega, by omega⟩)) ((World.putObj_heap_other (by omega)).trans hd)⟩

theorem IterB.iter {P : Program} {α : Type} {gf : Nat} {lb : Array Value} {len : Nat} {encs : α → Array Value} {Ok : Nat → Nat → α → World → Prop} {C : World → Prop} {w : World} (h : IterB P gf lb len encs Ok C w) : Iter P gf lb len encs Ok C w :=
  fun m l J Jx W hx h1 h2 h3 h4 h5 => (h m l J (fun _ A => Jx A) W hx h1 h2 (fun _ A A' _ hj hc => h3 A A' hj (hc.mono fun _ _ hb => hb.1)) h4 h5).mono fun _ _ ⟨hv, hh⟩ => ⟨hv, hh.imp id fun ⟨_, _, hj⟩ => hj⟩
end Go.Proofs.Ytgflhbpmkcggnaa

/- wal's rising, and the closure that it makes. -/
namespace Go.Proofs.Ytgflhbpmkcggnaa
open Go.ChangeShapes Go.WideShapes Go.ChangeAt Go.RowKit Go.Shelf

theorem rising_new (w : World) : Calls Try.prog 59 #[] w fun e w' => e = .returned (.func (.func 82) #[] #[.pointer (some ⟨w.heap.size, 0, none⟩)]) ∧ w' = w.alloc (.cells #[.int .i64 0] 2) := by
  go_enter Try.func59, Try.ntmps59
  go_wp2_with fail
  go_ret
  exact ⟨rfl, rfl⟩

/-- What is answered of the next payload. -/
def NextAns (w : World) (sb : Nat) (d : Int) (p : List Nat) (e : Ending) (w' : World) : Prop :=
  Chg (fun g => g = sb) w w' ∧ ((∃ x : Bx, IsBt p x.bat ∧ d < x.idx ∧ e = .returned (.tuple #[x.val, .bool true]) ∧ Gb w.heap.size x w' ∧ Boxed w' sb 2 (.int .i64 x.idx)) ∨
    ((∀ b, IsBt p b → ¬ d < b.idx) ∧ e = .returned (.tuple #[noB, .bool false]) ∧ Boxed w' sb 2 (.int .i64 d)))

set_option maxRecDepth 100000 in
set_option maxHeartbeats 4000000 in
theorem next_any {w : World} {lo hi sb : Nat} {v : Value} {b : List Nat} {d : Int} (hv : Bs w lo hi v b) (hhi : hi ≤ w.heap.size) (hb : ∀ x ∈ b, x < 256) (hl : b.length ≤ 1000000000000) (hbox : Boxed w sb 2 (.int .i64 d)) :
    Calls Try.prog 82 #[v, .pointer (some ⟨sb, 0, none⟩)] w (NextAns w sb d b) := by
  obtain ⟨w1, hw1⟩ : ∃ w1, w1 = w.alloc (.cells #[.int .i64 0, .slice none 0 0] 24) := ⟨_, rfl⟩
  have HX1 : Hid (Ext w w1) := by rw [hw1]; exact ext_alloc _ _
  have HZ1 : Hid (w1.heap.size = w.heap.size + 1) := by rw [hw1]; simp [Hid]
  have HR1 : Hid (w1.heap[w.heap.size]? = some (.cells #[.int .i64 0, .slice none 0 0] 24 (0, 0))) := by rw [hw1]; exact heap_at _ _ rfl
  have HB1 : Hid (Boxed w1 sb 2 (.int .i64 d)) := ext_heap HX1.out hbox
  have HSB : Hid (sb < w.heap.size) := hbox.lt
  have HBO := Lib.hid (batchOf_any (hv.below HX1.out hhi) (Nat.le_trans hhi HX1.out.size) hb hl)
  obtain ⟨A, c, rfl, _, _, _, _⟩ := hv
  clear hhi hb hl hbox
  go_enter Try.func82, Try.ntmps82
  go_wp2_with fail
  rw [← hw1]
  clear hw1
  refine Calls.mono HBO.out ?_
  rintro e w2 ⟨hx2, (⟨⟨n, eA, ec, lx⟩, his, rfl, hg⟩ | ⟨hno, rfl⟩)⟩
  · have HIS := Lib.hid his
    have HG := Lib.hid hg
    have HX2 := Lib.hid hx2
    have HB2 := Lib.hid (ext_heap hx2 HB1.out)
    have HR2 := Lib.hid (ext_heap hx2 HR1.out)
    clear his hg hx2 HBO
    dsimp only [Bx.val]
    go_upto_region 2 with (fail)
    obtain ⟨w3, hw3⟩ : ∃ w3, w3 = w2.alloc (.cells #[.int .i64 n, .slice eA lx.length ec] 24) := ⟨_, rfl⟩
    rw [← hw3]
    have HX3 : Hid (Ext w2 w3) := by rw [hw3]; exact ext_alloc _ _
    have HY3 : Hid (w3.heap[w2.heap.size]? = some (.cells #[.int .i64 n, .slice eA lx.length ec] 24 (0, 0))) := by rw [hw3]; exact heap_at _ _ rfl
    have HB3 : Hid (Boxed w3 sb 2 (.int .i64 d)) := ext_heap HX3.out HB2.out
    have HR3 := Lib.hid (ext_heap HX3.out HR2.out)
    have HG3 : Hid (Gb w1.heap.size ⟨n, eA, ec, lx⟩ w3) := HG.out.ext HX3.out
    have HZ3 : Hid (w1.heap.size ≤ w2.heap.size) := HX2.out.size
    have HXW : Hid (Ext w w3) := Ext.trans HX1.out (Ext.trans HX2.out HX3.out)
    clear hw3
    have y0 := cell_of HY3.out (k := 0) rfl
    have y1 := cell_of HY3.out (k := 1) rfl
    have s0 := HB3.out.cell
    have f0 := HB3.out.frozen
    have q0 := cell_of HR3.out (k := 0) rfl
    have q1 := cell_of HR3.out (k := 1) rfl
    have z0 := frozen_four HR3.out (j := 0)
    have z1 := frozen_four HR3.out (j := 1)
    by_cases hd : n ≤ d
    · have d1 : decide (n ≤ d) = true := decide_eq_true hd
      have HD := Lib.hid hd
      clear hd
      go_wp2_with fail
      refine batch_ret (p := 3) (q := 4) (by kernel_rfl) rfl rfl rfl (set_two HR3.out) ?_
      refine ⟨Chg.of_ext (Below.setCell (Below.setCell HXW.out (Nat.le_refl _) _) (Nat.le_refl _) _), .inr ⟨fun b' hb' => ?_, rfl, ?_⟩⟩
      · have e := hb'.unique HIS.out
        rw [e]
        show ¬ d < n
        have := HD.out; omega
      · have hs := HSB.out
        exact ((Below.heap_setCell _ _ _ _ (by show sb ≠ w.heap.size; omega)).trans (Below.heap_setCell _ _ _ _ (by show sb ≠ w.heap.size; omega))).trans HB3.out
    · have d1 : decide (n ≤ d) = false := decide_eq_false hd
      have HD := Lib.hid hd
      clear hd
      go_upto_region 5 with (fail)
      clear y0 y1 s0 f0 q0 q1 z0 z1
      obtain ⟨w4, hw4⟩ : ∃ w4, w4 = w3.setCell ⟨sb, 0, none⟩ (.int .i64 n) := ⟨_, rfl⟩
      rw [← hw4]
      have HC4 : Hid (Chg (fun g => g = sb) w3 w4) := by rw [hw4]; exact Chg.setCell _ _ _ rfl
      have HB4 : Hid (Boxed w4 sb 2 (.int .i64 n)) := by rw [hw4]; exact HB3.out.set _
      have HR4 : Hid (w4.heap[w.heap.size]? = some (.cells #[.int .i64 0, .slice none 0 0] 24 (0, 0))) := by
        have hs := HSB.out
        rw [hw4]; exact (Below.heap_setCell _ _ _ _ (by show w.heap.size ≠ sb; omega)).trans HR3.out
      have HY4 : Hid (w4.heap[w2.heap.size]? = some (.cells #[.int .i64 n, .slice eA lx.length ec] 24 (0, 0))) := by
        have hs := HSB.out
        have h1 := HX1.out.size
        have h2 := HX2.out.size
        rw [hw4]; exact (Below.heap_setCell _ _ _ _ (by show w2.heap.size ≠ sb; omega)).trans HY3.out
      have HG4 : Hid (Gb w1.heap.size ⟨n, eA, ec, lx⟩ w4) := HG3.out.chg HC4.out fun g hg => .inl (by have hs := HSB.out; have := HX1.out.size; omega)
      clear hw4
      have y0 := cell_of HY4.out (k := 0) rfl
      have y1 := cell_of HY4.out (k := 1) rfl
      have q0 := cell_of HR4.out (k := 0) rfl
      have q1 := cell_of HR4.out (k := 1) rfl
      have z0 := frozen_four HR4.out (j := 0)
      have z1 := frozen_four HR4.out (j := 1)
      go_wp2_with fail
      refine batch_ret (p := 3) (q := 4) (by kernel_rfl) rfl rfl rfl (set_two HR4.out) ?_
      have hs := HSB.out
      have hz := HZ1.out
      have hgot : Got w1.heap.size (.slice eA lx.length ec) lx ((w4.setCell ⟨w.heap.size, 0, none⟩ (.int .i64 n)).setCell ⟨w.heap.size, 1, none⟩ (.slice eA lx.length ec)) :=
        (HG4.out.got.far (by show w.heap.size < _; omega)).far (by show w.heap.size < _; omega)
      refine ⟨?_, .inl ⟨⟨n, eA, ec, lx⟩, HIS.out, (by show d < n; have := HD.out; omega), rfl, ⟨hgot.base HX1.out.size, HG4.out.i1, HG4.out.i2, HG4.out.ln⟩, ?_⟩⟩
      · have h1 : Chg (fun g => g = sb) w w4 := (Chg.of_ext HXW.out).trans HC4.out
        have h2 : Chg (fun g => g = w.heap.size) w4 (w4.setCell ⟨w.heap.size, 0, none⟩ (.int .i64 n)) := Chg.setCell _ _ _ rfl
        have h3 : Chg (fun g => g = w.heap.size) (w4.setCell ⟨w.heap.size, 0, none⟩ (.int .i64 n)) ((w4.setCell ⟨w.heap.size, 0, none⟩ (.int .i64 n)).setCell ⟨w.heap.size, 1, none⟩ (.slice eA lx.length ec)) := Chg.setCell _ _ _ rfl
        exact (h1.trans_new h2 (fun i h1 h2 => by omega)).trans_new h3 (fun i h1 h2 => by omega)
      · exact ((Below.heap_setCell _ _ _ _ (by show sb ≠ w.heap.size; omega)).trans (Below.heap_setCell _ _ _ _ (by show sb ≠ w.heap.size; omega))).trans HB4.out
  · have HNO := Lib.hid hno
    have HX2 := Lib.hid hx2
    have HB2 := Lib.hid (ext_heap hx2 HB1.out)
    have HR2 := Lib.hid (ext_heap hx2 HR1.out)
    clear hno hx2 HBO
    dsimp only [noB]
    go_upto_region 2 with (fail)
    obtain ⟨w3, hw3⟩ : ∃ w3, w3 = w2.alloc (.cells #[.int .i64 0, .slice none 0 0] 24) := ⟨_, rfl⟩
    rw [← hw3]
    have HX3 : Hid (Ext w2 w3) := by rw [hw3]; exact ext_alloc _ _
    have HB3 : Hid (Boxed w3 sb 2 (.int .i64 d)) := ext_heap HX3.out HB2.out
    have HR3 := Lib.hid (ext_heap HX3.out HR2.out)
    have HXW : Hid (Ext w w3) := Ext.trans HX1.out (Ext.trans HX2.out HX3.out)
    clear hw3
    have q0 := cell_of HR3.out (k := 0) rfl
    have q1 := cell_of HR3.out (k := 1) rfl
    have z0 := frozen_four HR3.out (j := 0)
    have z1 := frozen_four HR3.out (j := 1)
    go_wp2_with fail
    refine batch_ret (p := 3) (q := 4) (by kernel_rfl) rfl rfl rfl (set_two HR3.out) ?_
    refine ⟨Chg.of_ext (Below.setCell (Below.setCell HXW.out (Nat.le_refl _) _) (Nat.le_refl _) _), .inr ⟨fun b' hb' => absurd hb' (HNO.out b'), rfl, ?_⟩⟩
    have hs := HSB.out
    exact ((Below.heap_setCell _ _ _ _ (by show sb ≠ w.heap.size; omega)).trans (Below.heap_setCell _ _ _ _ (by show sb ≠ w.heap.size; omega))).trans HB3.out
theorem enters_next : ∀ args w, (callFunc 82 args).run Try.prog w = .ok (.enter 82 args) w := enters_of Try.func82 (by kernel_rfl) rfl
end Go.Proofs.Ytgflhbpmkcggnaa
