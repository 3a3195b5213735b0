/- The reference's Read. -/
import Derived.Test.YtfalpagimmaipaaIrefb
namespace Go.Proofs.Ytfalpagimmaipaa
open Go.ChangeShapes Go.WideShapes Go.ChangeAt Go.RowKit

/-- What is read of the first three parts, where an entry stands. -/
theorem read_is3 {b kb r1 r2 r3 : List Nat} {n d : Nat} {k1 k2 k3 : Int} (h1 : OutText 32 b kb k1 r1) (h2 : OutNum r1 n k2 r2) (h3 : OutNum r2 d k3 r3) {e : Ent} (he : IsE b e) :
    e.key = kb ∧ e.seq = n ∧ e.kind = d ∧ k1 = 0 ∧ k2 = 0 ∧ k3 = 0 ∧ (e.kind = 1 → r3 = bytesForm e.val) ∧ (e.kind = 2 → r3 = []) := by
  obtain ⟨hm, rfl⟩ := he
  obtain ⟨u1, u2, u3, u4⟩ := Ent.may_u64 hm
  obtain ⟨a1, a2, a3, a4, a5⟩ := mayN_iff.1 hm
  unfold Ent.form at h1
  obtain ⟨rfl, rfl, rfl⟩ := h1.same (.inl ⟨rfl, by omega, u1, rfl⟩)
  obtain ⟨rfl, rfl, rfl⟩ := h2.same (.inl ⟨rfl, u2, rfl⟩)
  obtain ⟨rfl, rfl, rfl⟩ := h3.same (.inl ⟨rfl, u3, rfl⟩)
  refine ⟨rfl, by omega, by rcases a5 with ⟨a5, _⟩ | ⟨a5, _⟩ <;> omega, rfl, rfl, rfl, fun h => by rw [if_pos h], fun h => by rw [if_neg (by omega)]⟩
theorem OutText.zero {most : Int} {l bs rest : List Nat} (h : OutText most l bs 0 rest) : l = bytesForm bs ++ rest := by
  rcases h with ⟨_, _, _, h⟩ | ⟨h, _⟩
  · exact h
  · exact absurd rfl h
theorem OutNum.zero {l rest : List Nat} {n : Nat} (h : OutNum l n 0 rest) : l = form n ++ rest := by
  rcases h with ⟨_, h⟩ | ⟨h, _⟩
  · exact h.eq
  · cases h

theorem Em.setCell {w : World} {lo hi : Nat} {e : Ent} {h : Hd} (m : Em w lo hi e h) {p : Addr} (hp : p.block < lo ∨ hi ≤ p.block) (u : Value) : Em (w.setCell p u) lo hi e h := ⟨m.k.setCell hp u, m.v.setCell hp u, m.bk, m.bv, m.s1, m.s2, m.d1, m.d2⟩

/-- What the reference's Read answers. -/
def RReadAns (w : World) (b : List Nat) (x : Ending) (w' : World) : Prop :=
  Ext w w' ∧ ((∃ (e : Ent) (g : Hd), IsE b e ∧ x = .returned (.tuple #[e.at_ g, .int .i64 0]) ∧ Em w' 0 w'.heap.size e g) ∨ ((∀ e, ¬ IsE b e) ∧ x = .returned (.tuple #[noE, .int .i64 4])))

/-- What the reference's Read answers, in memory that it made. -/
def RReadNew (w : World) (b : List Nat) (x : Ending) (w' : World) : Prop :=
  Ext w w' ∧ ((∃ (e : Ent) (g : Hd), IsE b e ∧ x = .returned (.tuple #[e.at_ g, .int .i64 0]) ∧ Em w' w.heap.size w'.heap.size e g) ∨ ((∀ e, ¬ IsE b e) ∧ x = .returned (.tuple #[noE, .int .i64 4])))

theorem RBytes_slice {q lo hi : Nat} {l : List Nat} {w : World} (h : Qd w q lo hi l) (hl : l.length ≤ 1000000000000) {most : Int} (hm1 : 0 ≤ most) (hm2 : most ≤ 9223372036854775807) :
    Calls Try.prog 56 #[.pointer (some ⟨q, 0, none⟩), .int .i64 most] w fun e w' => ∃ (A : Option Addr) (c : Nat) (bs : List Nat) (k : Int) (rest : List Nat), OutText most l bs k rest ∧ Bs w' w.heap.size w'.heap.size (.slice A bs.length c) bs ∧ e = .returned (.tuple #[.slice A bs.length c, .int .i64 k]) ∧ Qd w' q lo hi rest ∧ w.grownBy w' (some q) := by
  refine (RBytes_out h hl hm1 hm2).mono ?_
  rintro e w' ⟨v, bs, k, rest, ho, hb, rfl, hq, hg⟩
  have hb' := hb
  obtain ⟨A, c, rfl, _⟩ := hb
  exact ⟨A, c, bs, k, rest, ho, hb', rfl, hq, hg⟩

set_option maxRecDepth 100000 in
set_option maxHeartbeats 8000000 in
theorem rread_new {w : World} {lo hi : Nat} {v : Value} {b : List Nat} (hv : Bs w lo hi v b) (hhi : hi ≤ w.heap.size) (hb : ∀ x ∈ b, x < 256) (hl : b.length ≤ 1000000000000) : Calls Try.prog 28 #[v] w (RReadNew w b) := by
  obtain ⟨A, c, rfl, q1, q2, q3, q4⟩ := hv
  obtain ⟨w1, hw1⟩ : ∃ w1, w1 = (w.alloc (.cells #[.slice none 0 0, .int .i64 0, .int .i64 0, .slice none 0 0] 25)).alloc (.cells #[.slice A b.length c] 75) := ⟨_, rfl⟩
  have HX1 : Hid (Ext w w1) := by rw [hw1]; exact Ext.trans (ext_alloc _ _) (ext_alloc _ _)
  have HZ1 : Hid (w1.heap.size = w.heap.size + 2) := by rw [hw1]; simp [Hid]
  have HR1 : Hid (w1.heap[w.heap.size]? = some (.cells #[.slice none 0 0, .int .i64 0, .int .i64 0, .slice none 0 0] 25 (0, 0))) := by rw [hw1]; exact ext_heap (ext_alloc _ _) (heap_at _ _ rfl)
  have hq0 : Qd w1 (w.heap.size + 1) lo hi b := by
    have hbs : Bs w lo hi (.slice A b.length c) b := ⟨A, c, rfl, q1, q2, q3, q4⟩
    exact ⟨⟨.slice A b.length c, by rw [hw1]; exact heap_at _ _ (by simp), hbs.below HX1.out hhi⟩, by omega, Nat.le_trans hhi HX1.out.size, hb⟩
  have HQ1 := Lib.hid hq0
  have HL := Lib.hid hl
  have HBY := Lib.hid hb
  clear hhi hb hl q1 q2 q3 q4 hq0
  go_enter Try.func28, Try.ntmps28
  go_wp2_with fail
  rw [← hw1]
  clear hw1
  refine (RBytes_slice HQ1.out HL.out (by decide) (by decide)).mono ?_
  rintro x w3 ⟨kA, kc, kb, k1, r1, ho1, hbs, rfl, hqd, hg⟩
  have HO1 := Lib.hid ho1
  have HK3 := Lib.hid hbs
  have HQ3 := Lib.hid hqd
  have HX3 : Hid (Below (w.heap.size + 1) w1 w3) := (Below.refl _ _).grown hg (by rw [HZ1.out]; omega) (fun k hk => by injection hk with hk; omega)
  have HS3 : Hid (w1.heap.size ≤ w3.heap.size) := hg.size
  clear ho1 hbs hqd hg HQ1
  go_wp2_with fail
  refine (RNumber_out HQ3.out).mono ?_
  rintro x w4 ⟨n, k2, r2, ho2, rfl, hqd, hg⟩
  have HO2 := Lib.hid ho2
  have HK4 := Lib.hid ((HK3.out.grown hg (Nat.le_refl _) (fun k hk => by injection hk with hk; left; have := HZ1.out; omega)).wide (Nat.le_refl _) hg.size)
  have HQ4 := Lib.hid hqd
  have HX4 : Hid (Below (w.heap.size + 1) w1 w4) := HX3.out.grown hg (by have := HZ1.out; have := HS3.out; omega) (fun k hk => by injection hk with hk; omega)
  have HS4 : Hid (w1.heap.size ≤ w4.heap.size) := Nat.le_trans HS3.out hg.size
  clear ho2 hqd hg HQ3
  go_wp2_with fail
  refine (RNumber_out HQ4.out).mono ?_
  rintro x w5 ⟨d, k3, r3, ho3, rfl, hqd, hg⟩
  have HO3 := Lib.hid ho3
  have HK5 := Lib.hid ((HK4.out.grown hg (Nat.le_refl _) (fun k hk => by injection hk with hk; left; have := HZ1.out; omega)).wide (Nat.le_refl _) hg.size)
  have HQ5 := Lib.hid hqd
  have HX5 : Hid (Below (w.heap.size + 1) w1 w5) := HX4.out.grown hg (by have := HZ1.out; have := HS4.out; omega) (fun k hk => by injection hk with hk; omega)
  have HS5 : Hid (w1.heap.size ≤ w5.heap.size) := Nat.le_trans HS4.out hg.size
  clear ho3 hqd hg HQ4
  have hblk := HX5.out.block w.heap.size (by omega)
  rw [HR1.out] at hblk
  have HBLK := Lib.hid hblk
  have HE5 : Hid (Ext w w5) := ⟨HX5.out.os.trans HX1.out.os, HX5.out.tape.trans HX1.out.tape, HX5.out.output.trans HX1.out.output, Nat.le_trans HX1.out.size HS5.out, fun k hk => (HX5.out.block k (by omega)).trans (HX1.out.block k hk)⟩
  clear hblk
  by_cases hgo : k1 = 0 ∧ k2 = 0 ∧ k3 = 0 ∧ n ≤ 2147483647 ∧ d ≤ 2
  · obtain ⟨rfl, rfl, rfl, hn, hd⟩ := hgo
    have d1 : decide ((2147483647 : Int) < (n : Int)) = false := by simp; omega
    have d1n : decide (2147483647 < n) = false := by simp; omega
    have d2 : decide ((2 : Int) < (d : Int)) = false := by simp; omega
    have d2n : decide (2 < d) = false := by simp; omega
    have e1 : wrap64 (n : Int) = (n : Int) := by unfold wrap64; omega
    have e2 : wrap64 (d : Int) = (d : Int) := by unfold wrap64; omega
    have HND := Lib.hid (And.intro hn hd)
    have HSUB : Hid (∀ x ∈ r3, x ∈ b) := fun x hx => by
      rw [HO1.out.zero, HO2.out.zero, HO3.out.zero]; simp [hx]
    have HL3 : Hid (r3.length ≤ 1000000000000) := by
      have a1 := HO1.out.len.2.1; have a2 := HO2.out.len.1; have a3 := HO3.out.len.1; have a4 := HL.out
      unfold Hid; omega
    have HBYK : Hid (∀ x ∈ kb, x < 256) := fun x hx => HBY.out x (HO1.out.len.2.2 x hx)
    by_cases hd1 : d = 1
    · subst hd1
      have e3 : ((1 : Int) == 1) = true := rfl
      clear hn hd
      go_upto_region 8 with (fail)
      obtain ⟨w6, hw6⟩ : ∃ w6, w6 = w5.alloc (.cells #[.slice kA kb.length kc, .int .i64 (n : Int), .int .i64 1, .slice none 0 0] 25) := ⟨_, rfl⟩
      rw [← hw6]
      have HX6 : Hid (Ext w5 w6) := by rw [hw6]; exact ext_alloc _ _
      have HB6 : Hid (w6.heap[w5.heap.size]? = some (.cells #[.slice kA kb.length kc, .int .i64 (n : Int), .int .i64 1, .slice none 0 0] 25 (0, 0))) := by rw [hw6]; exact heap_at _ _ rfl
      have HQ6 := Lib.hid (HQ5.out.below HX6.out HQ5.out.top HQ5.out.lt)
      have HZ6 : Hid (w6.heap.size = w5.heap.size + 1) := by rw [hw6]; simp [Hid]
      clear hw6
      go_wp2_with fail
      refine (RBytes_slice HQ6.out HL3.out (by decide) (by decide)).mono ?_
      rintro x w7 ⟨vA, vc, vb, k4, r4, ho4, hbs, rfl, hqd, hg⟩
      have HO4 := Lib.hid ho4
      have HV7 := Lib.hid hbs
      have HQ7 := Lib.hid hqd
      have HG7 := Lib.hid hg
      have HIS : Hid (∀ e', IsE b e' → e' = ⟨kb, n, 1, vb⟩ ∧ k4 = 0 ∧ r4 = []) := fun e' he' => by
        obtain ⟨a1, a2, a3, _, _, _, a4, _⟩ := read_is3 HO1.out HO2.out HO3.out he'
        obtain ⟨u1, u2, u3, u4⟩ := Ent.may_u64 he'.1
        have hm5 := (mayN_iff.1 he'.1).2.2.2.2
        have hk1 : e'.kind = 1 := a3
        have h4 := HO4.out
        rw [a4 hk1] at h4
        obtain ⟨b1, b2, b3⟩ := h4.same (.inl ⟨rfl, by omega, u4, (List.append_nil _).symm⟩)
        exact ⟨Ent.ext a1 a2 a3 b1.symm, b2, b3⟩
      have hE7 : w7.heap[w5.heap.size]? = some (.cells #[.slice kA kb.length kc, .int .i64 (n : Int), .int .i64 1, .slice none 0 0] 25 (0, 0)) := (hg.block _ (by rw [HZ6.out]; omega) (fun e => by injection e with e; have := HS5.out; have := HZ1.out; omega)).trans HB6.out
      have hR7 : w7.heap[w.heap.size]? = some (.cells #[.slice none 0 0, .int .i64 0, .int .i64 0, .slice none 0 0] 25 (0, 0)) := (hg.block _ (by have := HZ6.out; have := HS5.out; have := HZ1.out; omega) (fun e => by injection e with e; omega)).trans (ext_heap HX6.out HBLK.out)
      have HR7 := Lib.hid hR7
      have HE7 := Lib.hid hE7
      have HX7 : Hid (Ext w w7) := by
        have h6 : Ext w w6 := Ext.trans HE5.out HX6.out
        exact h6.grown hg (by have := HZ6.out; have := HS5.out; have := HZ1.out; omega) (fun k hk => by injection hk with hk; omega)
      clear ho4 hbs hqd hg
      by_cases hk4 : k4 = 0
      · subst hk4
        have g3 := frozen_four hE7 (j := 3)
        have g3c := cell_of hE7 (k := 3) rfl
        clear hE7 hR7
        go_upto_region 13 with (fail)
        clear g3 g3c
        obtain ⟨w8, hw8⟩ : ∃ w8, w8 = w7.setCell ⟨w5.heap.size, 3, none⟩ (.slice vA vb.length vc) := ⟨_, rfl⟩
        rw [← hw8]
        have hlt5 : w.heap.size + 2 ≤ w5.heap.size := by have := HS5.out; have := HZ1.out; omega
        have HB8 : Hid (w8.heap[w5.heap.size]? = some (.cells #[.slice kA kb.length kc, .int .i64 (n : Int), .int .i64 1, .slice vA vb.length vc] 25 (0, 0))) := by rw [hw8]; unfold Hid; rw [heap_setCell_same _ w5.heap.size 3 _ _ _ HE7.out]; rfl
        have HR8 : Hid (w8.heap[w.heap.size]? = some (.cells #[.slice none 0 0, .int .i64 0, .int .i64 0, .slice none 0 0] 25 (0, 0))) := by rw [hw8]; exact (Below.heap_setCell _ _ _ _ (by show w.heap.size ≠ w5.heap.size; omega)).trans HR7.out
        have HX8 : Hid (Ext w w8) := by rw [hw8]; exact Below.setCell HX7.out (by show w.heap.size ≤ w5.heap.size; omega) _
        have HQ8 : Hid (Qd w8 (w.heap.size + 1) lo hi r4) := by
          obtain ⟨v', o1, o2⟩ := HQ7.out.ex
          have hap := HQ7.out.apart
          have htop := HQ5.out.top
          rw [hw8]
          have htop1 : hi ≤ w5.heap.size := htop
          refine ⟨⟨v', (Below.heap_setCell _ _ _ _ (by show w.heap.size + 1 ≠ w5.heap.size; omega)).trans o1, o2.setCell (.inr htop1) _⟩, hap, by simp [World.setCell]; exact HQ7.out.top, HQ7.out.byt⟩
        have HK8 : Hid (Bs w8 w1.heap.size w5.heap.size (.slice kA kb.length kc) kb) := by
          have h1 := HK5.out.below HX6.out (Nat.le_refl _)
          have h2 := h1.grown HG7.out (by have := HZ6.out; omega) (fun k hk => by injection hk with hk; left; have := HZ1.out; omega)
          rw [hw8]
          exact h2.setCell (.inr (Nat.le_refl _)) _
        have HV8 : Hid (Bs w8 w6.heap.size w7.heap.size (.slice vA vb.length vc) vb) := by
          rw [hw8]; exact HV7.out.setCell (.inl (by show w5.heap.size < w6.heap.size; rw [HZ6.out]; omega)) _
        have HZ8 : Hid (w8.heap.size = w7.heap.size) := by rw [hw8]; simp [Hid, World.setCell]
        have HFM : Hid (r4 = [] → (⟨kb, n, 1, vb⟩ : Ent).form = b) := fun hr => by
          unfold Ent.form
          have h4 := HO4.out.zero
          rw [hr, List.append_nil] at h4
          rw [HO1.out.zero, HO2.out.zero, HO3.out.zero, h4]
          simp
        have HGO : Hid (∀ wM, Ext w8 wM → mayN kb.length (n : Int) 1 vb.length = true → Em wM w1.heap.size wM.heap.size ⟨kb, n, 1, vb⟩ ⟨kA, kc, vA, vc⟩) := fun wM hM _ => by
          have hz6 := HZ6.out
          have hg7 := HG7.out.size
          have hz8 := HZ8.out
          have hs := hM.size
          have hs5 := HS5.out
          exact ⟨(HK8.out.below hM (by omega)).wide (Nat.le_refl _) (by omega), (HV8.out.below hM (by omega)).wide (by omega) (by omega), HBYK.out, fun x hx => HBY.out x (HSUB.out x (HO4.out.len.2.2 x hx)), by dsimp only; omega, by have := HND.out.1; dsimp only; omega, by dsimp only; omega, by dsimp only; omega⟩
        replace HIS : Hid (∀ e', IsE b e' → e' = ⟨kb, n, 1, vb⟩ ∧ r4 = []) := fun e' he' => ⟨(HIS.out e' he').1, (HIS.out e' he').2.2⟩
        clear hw8 hlt5
        have p0 := cell_of HB8.out (k := 0) rfl
        have p1 := cell_of HB8.out (k := 1) rfl
        have p2 := cell_of HB8.out (k := 2) rfl
        have p3 := cell_of HB8.out (k := 3) rfl
        have HLF := Lib.hid (RLeft_any _ _ _ _ _ HQ8.out)
        by_cases hrl : r4.length = 0
        · have f1 : decide ((0 : Int) < (r4.length : Int)) = false := decide_eq_false (by omega)
          have f1n : decide (0 < r4.length) = false := decide_eq_false (by omega)
          have HRL := Lib.hid hrl
          clear hrl
          go_wp2_with fail
          refine Calls.mono HLF.out ?_
          rintro x w' ⟨rfl, rfl⟩
          go_wp2_with fail
          refine (rmay_any kA vA kb.length kc vb.length vc (n : Int) 1 w8).mono ?_
          rintro x wM ⟨rfl, hxM⟩
          have HXM : Hid (Ext w8 wM) := hxM
          have HEM : Hid (Ext w wM) := Ext.trans HX8.out hxM
          have HRM := Lib.hid (ext_heap hxM HR8.out)
          have HBM := Lib.hid (ext_heap hxM HB8.out)
          clear hxM p0 p1 p2 p3
          cases hmay : mayN kb.length (n : Int) 1 vb.length with
          | false =>
            have q0 := cell_of HRM.out (k := 0) rfl
            have q1 := cell_of HRM.out (k := 1) rfl
            have q2 := cell_of HRM.out (k := 2) rfl
            have q3 := cell_of HRM.out (k := 3) rfl
            have z0 := frozen_four HRM.out (j := 0)
            have z1 := frozen_four HRM.out (j := 1)
            have z2 := frozen_four HRM.out (j := 2)
            have z3 := frozen_four HRM.out (j := 3)
            go_wp2_with fail
            refine entry_ret (p := 2) (q := 3) (by kernel_rfl) rfl rfl rfl (set_four HRM.out) ?_
            exact ⟨Below.setCell (Below.setCell (Below.setCell (Below.setCell HEM.out (Nat.le_refl _) _) (Nat.le_refl _) _) (Nat.le_refl _) _) (Nat.le_refl _) _, .inr ⟨fun e' he' => by
              have h1 := HIS.out e' he'
              have h2 := he'.1
              rw [h1.1] at h2
              exact absurd (h2.symm.trans hmay) (by decide), rfl⟩⟩
          | true =>
            have q0 := cell_of HRM.out (k := 0) rfl
            have q1 := cell_of HRM.out (k := 1) rfl
            have q2 := cell_of HRM.out (k := 2) rfl
            have q3 := cell_of HRM.out (k := 3) rfl
            have z0 := frozen_four HRM.out (j := 0)
            have z1 := frozen_four HRM.out (j := 1)
            have z2 := frozen_four HRM.out (j := 2)
            have z3 := frozen_four HRM.out (j := 3)
            have p0 := cell_of HBM.out (k := 0) rfl
            have p1 := cell_of HBM.out (k := 1) rfl
            have p2 := cell_of HBM.out (k := 2) rfl
            have p3 := cell_of HBM.out (k := 3) rfl
            have HMY := Lib.hid hmay
            clear hmay
            go_wp2_with fail
            refine entry_ret (p := 2) (q := 3) (by kernel_rfl) rfl rfl rfl (set_four HRM.out) ?_
            exact ⟨Below.setCell (Below.setCell (Below.setCell (Below.setCell HEM.out (Nat.le_refl _) _) (Nat.le_refl _) _) (Nat.le_refl _) _) (Nat.le_refl _) _, .inl ⟨⟨kb, n, 1, vb⟩, ⟨kA, kc, vA, vc⟩, ⟨HMY.out, HFM.out (List.eq_nil_of_length_eq_zero HRL.out)⟩, rfl, by
              have hz := HZ1.out
              have h0 : w.heap.size < w1.heap.size := by omega
              exact ((((HGO.out wM HXM.out HMY.out).setCell (.inl h0) _).setCell (.inl h0) _).setCell (.inl h0) _ |>.setCell (.inl h0) _).wide (Nat.le_of_lt h0) (by simp [World.setCell])⟩⟩
        · have f1 : decide ((0 : Int) < (r4.length : Int)) = true := decide_eq_true (by omega)
          have f1n : decide (0 < r4.length) = true := decide_eq_true (by omega)
          have HRL := Lib.hid hrl
          clear hrl p0 p1 p2 p3
          go_wp2_with fail
          refine Calls.mono HLF.out ?_
          rintro x w' ⟨rfl, rfl⟩
          have q0 := cell_of HR8.out (k := 0) rfl
          have q1 := cell_of HR8.out (k := 1) rfl
          have q2 := cell_of HR8.out (k := 2) rfl
          have q3 := cell_of HR8.out (k := 3) rfl
          have z0 := frozen_four HR8.out (j := 0)
          have z1 := frozen_four HR8.out (j := 1)
          have z2 := frozen_four HR8.out (j := 2)
          have z3 := frozen_four HR8.out (j := 3)
          go_wp2_with fail
          refine entry_ret (p := 2) (q := 3) (by kernel_rfl) rfl rfl rfl (set_four HR8.out) ?_
          exact ⟨Below.setCell (Below.setCell (Below.setCell (Below.setCell HX8.out (Nat.le_refl _) _) (Nat.le_refl _) _) (Nat.le_refl _) _) (Nat.le_refl _) _, .inr ⟨fun e' he' => HRL.out (by rw [(HIS.out e' he').2]; rfl), rfl⟩⟩
      · have g4 : (k4 != 0) = true := by simpa using hk4
        have HK4' := Lib.hid hk4
        clear hk4 hE7
        have HRX := Lib.hid hR7
        clear hR7
        have q0 := cell_of HRX.out (k := 0) rfl
        have q1 := cell_of HRX.out (k := 1) rfl
        have q2 := cell_of HRX.out (k := 2) rfl
        have q3 := cell_of HRX.out (k := 3) rfl
        have z0 := frozen_four HRX.out (j := 0)
        have z1 := frozen_four HRX.out (j := 1)
        have z2 := frozen_four HRX.out (j := 2)
        have z3 := frozen_four HRX.out (j := 3)
        go_wp2_with fail
        refine entry_ret (p := 2) (q := 3) (by kernel_rfl) rfl rfl rfl (set_four HRX.out) ?_
        exact ⟨Below.setCell (Below.setCell (Below.setCell (Below.setCell HX7.out (Nat.le_refl _) _) (Nat.le_refl _) _) (Nat.le_refl _) _) (Nat.le_refl _) _, .inr ⟨fun e' he' => HK4'.out (HIS.out e' he').2.1, rfl⟩⟩
    · have e3 : ((d : Int) == 1) = false := by simp; omega
      have e3n : (d == 1) = false := by simp; omega
      have HD1 := Lib.hid hd1
      clear hn hd hd1
      go_upto_region 13 with (fail)
      obtain ⟨w8, hw8⟩ : ∃ w8, w8 = w5.alloc (.cells #[.slice kA kb.length kc, .int .i64 (n : Int), .int .i64 (d : Int), .slice none 0 0] 25) := ⟨_, rfl⟩
      rw [← hw8]
      have HX58 : Hid (Ext w5 w8) := by rw [hw8]; exact ext_alloc _ _
      have HB8 : Hid (w8.heap[w5.heap.size]? = some (.cells #[.slice kA kb.length kc, .int .i64 (n : Int), .int .i64 (d : Int), .slice none 0 0] 25 (0, 0))) := by rw [hw8]; exact heap_at _ _ rfl
      have HQ8 := Lib.hid (HQ5.out.below HX58.out HQ5.out.top HQ5.out.lt)
      have HR8 := Lib.hid (ext_heap HX58.out HBLK.out)
      have HX8 : Hid (Ext w w8) := Ext.trans HE5.out HX58.out
      have HIS : Hid (∀ e', IsE b e' → e' = ⟨kb, n, d, []⟩ ∧ r3 = []) := fun e' he' => by
        obtain ⟨a1, a2, a3, _, _, _, _, a5⟩ := read_is3 HO1.out HO2.out HO3.out he'
        have hm5 := (mayN_iff.1 he'.1).2.2.2.2
        have hd1 := HD1.out
        have hk2 : e'.kind = 2 := by omega
        have hv : e'.val = [] := List.eq_nil_of_length_eq_zero (by omega)
        exact ⟨Ent.ext a1 a2 a3 hv, a5 hk2⟩
      have HFM : Hid (r3 = [] → (⟨kb, n, d, []⟩ : Ent).form = b) := fun hr => by
        unfold Ent.form
        have hd1 := HD1.out
        rw [HO1.out.zero, HO2.out.zero, HO3.out.zero, hr, if_neg (by dsimp only; omega)]
        simp
      have HGO : Hid (∀ wM, Ext w8 wM → mayN kb.length (n : Int) (d : Int) 0 = true → Em wM w1.heap.size wM.heap.size ⟨kb, n, d, []⟩ ⟨kA, kc, none, 0⟩) := fun wM hM _ => by
        have hs := hM.size
        have hs5 := HX58.out.size
        exact ⟨((HK5.out.below HX58.out (Nat.le_refl _)).below hM hs5).wide (Nat.le_refl _) (by omega), Bs.nil _ _ _, HBYK.out, by simp, by dsimp only; omega, by have := HND.out.1; dsimp only; omega, by dsimp only; omega, by have := HND.out.2; dsimp only; omega⟩
      clear hw8
      have p0 := cell_of HB8.out (k := 0) rfl
      have p1 := cell_of HB8.out (k := 1) rfl
      have p2 := cell_of HB8.out (k := 2) rfl
      have p3 := cell_of HB8.out (k := 3) rfl
      have HLF := Lib.hid (RLeft_any _ _ _ _ _ HQ8.out)
      by_cases hrl : r3.length = 0
      · have f1 : decide ((0 : Int) < (r3.length : Int)) = false := decide_eq_false (by omega)
        have f1n : decide (0 < r3.length) = false := decide_eq_false (by omega)
        have HRL := Lib.hid hrl
        clear hrl
        go_wp2_with fail
        refine Calls.mono HLF.out ?_
        rintro x w' ⟨rfl, rfl⟩
        go_wp2_with fail
        refine (rmay_any kA none kb.length kc 0 0 (n : Int) (d : Int) w8).mono ?_
        rintro x wM ⟨rfl, hxM⟩
        have HXM : Hid (Ext w8 wM) := hxM
        have HEM : Hid (Ext w wM) := Ext.trans HX8.out hxM
        have HRM := Lib.hid (ext_heap hxM HR8.out)
        have HBM := Lib.hid (ext_heap hxM HB8.out)
        clear hxM p0 p1 p2 p3
        cases hmay : mayN kb.length (n : Int) (d : Int) 0 with
        | false =>
          have q0 := cell_of HRM.out (k := 0) rfl
          have q1 := cell_of HRM.out (k := 1) rfl
          have q2 := cell_of HRM.out (k := 2) rfl
          have q3 := cell_of HRM.out (k := 3) rfl
          have z0 := frozen_four HRM.out (j := 0)
          have z1 := frozen_four HRM.out (j := 1)
          have z2 := frozen_four HRM.out (j := 2)
          have z3 := frozen_four HRM.out (j := 3)
          go_wp2_with fail
          refine entry_ret (p := 2) (q := 3) (by kernel_rfl) rfl rfl rfl (set_four HRM.out) ?_
          exact ⟨Below.setCell (Below.setCell (Below.setCell (Below.setCell HEM.out (Nat.le_refl _) _) (Nat.le_refl _) _) (Nat.le_refl _) _) (Nat.le_refl _) _, .inr ⟨fun e' he' => by
            have h1 := HIS.out e' he'
            have h2 := he'.1
            rw [h1.1] at h2
            exact absurd (h2.symm.trans hmay) (by decide), rfl⟩⟩
        | true =>
          have q0 := cell_of HRM.out (k := 0) rfl
          have q1 := cell_of HRM.out (k := 1) rfl
          have q2 := cell_of HRM.out (k := 2) rfl
          have q3 := cell_of HRM.out (k := 3) rfl
          have z0 := frozen_four HRM.out (j := 0)
          have z1 := frozen_four HRM.out (j := 1)
          have z2 := frozen_four HRM.out (j := 2)
          have z3 := frozen_four HRM.out (j := 3)
          have p0 := cell_of HBM.out (k := 0) rfl
          have p1 := cell_of HBM.out (k := 1) rfl
          have p2 := cell_of HBM.out (k := 2) rfl
          have p3 := cell_of HBM.out (k := 3) rfl
          have HMY := Lib.hid hmay
          clear hmay
          go_wp2_with fail
          refine entry_ret (p := 2) (q := 3) (by kernel_rfl) rfl rfl rfl (set_four HRM.out) ?_
          exact ⟨Below.setCell (Below.setCell (Below.setCell (Below.setCell HEM.out (Nat.le_refl _) _) (Nat.le_refl _) _) (Nat.le_refl _) _) (Nat.le_refl _) _, .inl ⟨⟨kb, n, d, []⟩, ⟨kA, kc, none, 0⟩, ⟨HMY.out, HFM.out (List.eq_nil_of_length_eq_zero HRL.out)⟩, rfl, by
              have hz := HZ1.out
              have h0 : w.heap.size < w1.heap.size := by omega
              exact ((((HGO.out wM HXM.out HMY.out).setCell (.inl h0) _).setCell (.inl h0) _).setCell (.inl h0) _ |>.setCell (.inl h0) _).wide (Nat.le_of_lt h0) (by simp [World.setCell])⟩⟩
      · have f1 : decide ((0 : Int) < (r3.length : Int)) = true := decide_eq_true (by omega)
        have f1n : decide (0 < r3.length) = true := decide_eq_true (by omega)
        have HRL := Lib.hid hrl
        clear hrl p0 p1 p2 p3
        go_wp2_with fail
        refine Calls.mono HLF.out ?_
        rintro x w' ⟨rfl, rfl⟩
        have q0 := cell_of HR8.out (k := 0) rfl
        have q1 := cell_of HR8.out (k := 1) rfl
        have q2 := cell_of HR8.out (k := 2) rfl
        have q3 := cell_of HR8.out (k := 3) rfl
        have z0 := frozen_four HR8.out (j := 0)
        have z1 := frozen_four HR8.out (j := 1)
        have z2 := frozen_four HR8.out (j := 2)
        have z3 := frozen_four HR8.out (j := 3)
        go_wp2_with fail
        refine entry_ret (p := 2) (q := 3) (by kernel_rfl) rfl rfl rfl (set_four HR8.out) ?_
        exact ⟨Below.setCell (Below.setCell (Below.setCell (Below.setCell HX8.out (Nat.le_refl _) _) (Nat.le_refl _) _) (Nat.le_refl _) _) (Nat.le_refl _) _, .inr ⟨fun e' he' => HRL.out (by rw [(HIS.out e' he').2]; rfl), rfl⟩⟩
  · have HNO : Hid (∀ e', ¬ IsE b e') := fun e' he' => by
      obtain ⟨a1, a2, a3, a4, a5, a6, _, _⟩ := read_is3 HO1.out HO2.out HO3.out he'
      have hm := mayN_iff.1 he'.1
      exact hgo ⟨a4, a5, a6, by omega, by omega⟩
    by_cases c1 : k1 = 0
    · subst c1
      by_cases c2 : k2 = 0
      · subst c2
        by_cases c3 : k3 = 0
        · subst c3
          by_cases c4 : n ≤ 2147483647
          · have c5 : ¬ d ≤ 2 := fun h => hgo ⟨rfl, rfl, rfl, c4, h⟩
            have d1 : decide ((2147483647 : Int) < (n : Int)) = false := by simp; omega
            have d1n : decide (2147483647 < n) = false := by simp; omega
            have d2 : decide ((2 : Int) < (d : Int)) = true := by simp; omega
            have d2n : decide (2 < d) = true := by simp; omega
            clear hgo c4 c5
            have q0 := cell_of HBLK.out (k := 0) rfl
            have q1 := cell_of HBLK.out (k := 1) rfl
            have q2 := cell_of HBLK.out (k := 2) rfl
            have q3 := cell_of HBLK.out (k := 3) rfl
            have z0 := frozen_four HBLK.out (j := 0)
            have z1 := frozen_four HBLK.out (j := 1)
            have z2 := frozen_four HBLK.out (j := 2)
            have z3 := frozen_four HBLK.out (j := 3)
            go_wp2_with fail
            refine entry_ret (p := 2) (q := 3) (by kernel_rfl) rfl rfl rfl (set_four HBLK.out) ?_
            exact ⟨Below.setCell (Below.setCell (Below.setCell (Below.setCell HE5.out (Nat.le_refl _) _) (Nat.le_refl _) _) (Nat.le_refl _) _) (Nat.le_refl _) _, .inr ⟨HNO.out, rfl⟩⟩
          · have d1 : decide ((2147483647 : Int) < (n : Int)) = true := by simp; omega
            have d1n : decide (2147483647 < n) = true := by simp; omega
            clear hgo c4
            have q0 := cell_of HBLK.out (k := 0) rfl
            have q1 := cell_of HBLK.out (k := 1) rfl
            have q2 := cell_of HBLK.out (k := 2) rfl
            have q3 := cell_of HBLK.out (k := 3) rfl
            have z0 := frozen_four HBLK.out (j := 0)
            have z1 := frozen_four HBLK.out (j := 1)
            have z2 := frozen_four HBLK.out (j := 2)
            have z3 := frozen_four HBLK.out (j := 3)
            go_wp2_with fail
            refine entry_ret (p := 2) (q := 3) (by kernel_rfl) rfl rfl rfl (set_four HBLK.out) ?_
            exact ⟨Below.setCell (Below.setCell (Below.setCell (Below.setCell HE5.out (Nat.le_refl _) _) (Nat.le_refl _) _) (Nat.le_refl _) _) (Nat.le_refl _) _, .inr ⟨HNO.out, rfl⟩⟩
        · have g3 : (k3 != 0) = true := by simpa using c3
          clear hgo c3
          have q0 := cell_of HBLK.out (k := 0) rfl
          have q1 := cell_of HBLK.out (k := 1) rfl
          have q2 := cell_of HBLK.out (k := 2) rfl
          have q3 := cell_of HBLK.out (k := 3) rfl
          have z0 := frozen_four HBLK.out (j := 0)
          have z1 := frozen_four HBLK.out (j := 1)
          have z2 := frozen_four HBLK.out (j := 2)
          have z3 := frozen_four HBLK.out (j := 3)
          go_wp2_with fail
          refine entry_ret (p := 2) (q := 3) (by kernel_rfl) rfl rfl rfl (set_four HBLK.out) ?_
          exact ⟨Below.setCell (Below.setCell (Below.setCell (Below.setCell HE5.out (Nat.le_refl _) _) (Nat.le_refl _) _) (Nat.le_refl _) _) (Nat.le_refl _) _, .inr ⟨HNO.out, rfl⟩⟩
      · have g2 : (k2 != 0) = true := by simpa using c2
        clear hgo c2
        have q0 := cell_of HBLK.out (k := 0) rfl
        have q1 := cell_of HBLK.out (k := 1) rfl
        have q2 := cell_of HBLK.out (k := 2) rfl
        have q3 := cell_of HBLK.out (k := 3) rfl
        have z0 := frozen_four HBLK.out (j := 0)
        have z1 := frozen_four HBLK.out (j := 1)
        have z2 := frozen_four HBLK.out (j := 2)
        have z3 := frozen_four HBLK.out (j := 3)
        go_wp2_with fail
        refine entry_ret (p := 2) (q := 3) (by kernel_rfl) rfl rfl rfl (set_four HBLK.out) ?_
        exact ⟨Below.setCell (Below.setCell (Below.setCell (Below.setCell HE5.out (Nat.le_refl _) _) (Nat.le_refl _) _) (Nat.le_refl _) _) (Nat.le_refl _) _, .inr ⟨HNO.out, rfl⟩⟩
    · have g1 : (k1 != 0) = true := by simpa using c1
      clear hgo c1
      have q0 := cell_of HBLK.out (k := 0) rfl
      have q1 := cell_of HBLK.out (k := 1) rfl
      have q2 := cell_of HBLK.out (k := 2) rfl
      have q3 := cell_of HBLK.out (k := 3) rfl
      have z0 := frozen_four HBLK.out (j := 0)
      have z1 := frozen_four HBLK.out (j := 1)
      have z2 := frozen_four HBLK.out (j := 2)
      have z3 := frozen_four HBLK.out (j := 3)
      go_wp2_with fail
      refine entry_ret (p := 2) (q := 3) (by kernel_rfl) rfl rfl rfl (set_four HBLK.out) ?_
      exact ⟨Below.setCell (Below.setCell (Below.setCell (Below.setCell HE5.out (Nat.le_refl _) _) (Nat.le_refl _) _) (Nat.le_refl _) _) (Nat.le_refl _) _, .inr ⟨HNO.out, rfl⟩⟩
theorem rread_any {w : World} {lo hi : Nat} {v : Value} {b : List Nat} (hv : Bs w lo hi v b) (hhi : hi ≤ w.heap.size) (hb : ∀ x ∈ b, x < 256) (hl : b.length ≤ 1000000000000) : Calls Try.prog 28 #[v] w (RReadAns w b) := by
  refine (rread_new hv hhi hb hl).mono ?_
  rintro x w' ⟨hx, (⟨e, g, h1, h2, h3⟩ | h)⟩
  · exact ⟨hx, .inl ⟨e, g, h1, h2, h3.wide (Nat.zero_le _) (Nat.le_refl _)⟩⟩
  · exact ⟨hx, .inr h⟩
end Go.Proofs.Ytfalpagimmaipaa
