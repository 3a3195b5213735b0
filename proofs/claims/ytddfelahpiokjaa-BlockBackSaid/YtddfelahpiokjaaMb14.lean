/- Krread Krbget, joined. -/
import Derived.Test.YtddfelahpiokjaaMb13
import Derived.Test.YtddfelahpiokjaaMb12
import Derived.Test.YtddfelahpiokjaaMb9
import Derived.OwnWalk
import Derived.Test.YtddfelahpiokjaaMb10

/- The reference's Read of a block. -/
namespace Go.Proofs.Ytddfelahpiokjaa
open Go.ChangeShapes Go.WideShapes Go.ChangeAt Go.RowKit

def vlen : Value → Nat
  | .slice _ n _ => n
  | _ => 0
/-- What the reference's Read answers. -/
def RReadBAns (w : World) (b : List Nat) (x : Ending) (w' : World) : Prop :=
  Ext w w' ∧ ((∃ (R : List (Ent × Hd)) (A RA : Option Addr) (c rc : Nat), IsB b (R.map Prod.fst) ∧ x = .returned (.tuple #[.slice A R.length c, .slice RA (ats (R.map Prod.fst) (R.map Prod.fst).length).length rc, .int .i64 0]) ∧ Es w' w.heap.size w'.heap.size A R ∧ OwnI w.heap.size (ats (R.map Prod.fst) (R.map Prod.fst).length) (.slice RA (ats (R.map Prod.fst) (R.map Prod.fst).length).length rc) w' ∧ R.length ≤ c) ∨
    ((∀ L, ¬ IsB b L) ∧ x = .returned (.tuple #[.slice none 0 0, .slice none 0 0, .int .i64 4])))
theorem Held.esB {B : Nat} {A : Option Addr} {c : Nat} {R : List (Ent × Hd)} {w : World} (h : Held B (.slice A R.length c) R w) : Es w B w.heap.size A R := by
  refine ⟨?_, fun p hp => ?_⟩
  · rcases h.row.2 with ⟨h1, h2⟩ | ⟨g, cap, cur, hv, hg, hh, r⟩
    · injection h1 with e1 e2 _
      have : R = [] := List.eq_nil_of_length_eq_zero e2
      subst this; exact Sl.nil _ _ _ _
    · injection hv with e1 _ _
      subst e1
      refine .inr ⟨g, 0, rfl, hg, (Array.getElem?_eq_some_iff.1 hh).1, fun i u hu => ?_⟩
      have := h.row.cells (g := g) rfl i u hu
      rwa [addr_add] at this
  · obtain ⟨lo, hi, h1, h2, h3, _⟩ := h.each p hp
    exact h3.wide h1 h2
theorem Held.cap {B : Nat} {A : Option Addr} {c : Nat} {R : List (Ent × Hd)} {w : World} (h : Held B (.slice A R.length c) R w) : R.length ≤ c := by
  rcases h.row.2 with ⟨h1, _⟩ | ⟨g, cap, cur, hv, _, _, hn, _⟩
  · injection h1 with _ e2 _; omega
  · injection hv with _ _ e3; omega
/-- Where the reading of the entries is. -/
structure RdSt (w : World) (B q lo hi : Nat) (bd : List Nat) (v : Value) (R : List (Ent × Hd)) (bA : Option Addr) (bc : Nat) (ah rest : List Nat) (u : World) : Prop where
  ahead : Ahead bd R.length ah rest
  took : ∀ L, BodyIs L bd → R.map Prod.fst = L.take R.length
  qd : Qd u q lo hi rest
  held : Held B v R u
  may : ∀ p ∈ R, p.1.may = true
  bf : Bs u B u.heap.size (.slice bA ah.length bc) ah
  ahb : ∀ x ∈ ah, x < 256
  ahl : ah.length ≤ 32
  few : R.length ≤ 1025
  x : Ext w u
  size : B ≤ u.heap.size
  len : rest.length ≤ 1000000000000

theorem wpList_pushgrown {ops : Array Oper} {rest : List Oper} {o : Oper} {a : Act} {Q : Exit → Act → World → Prop} {u : World} (hgd : o.guard = none) (s x : Operand)
    (ho : o.op = .call { callee := .builtin .append, args := #[s, x], argTypes := #[24, 24] }) (B : Nat) (v : Value) (R : List (Ent × Hd)) (hs : a.eval s = v) (hgot : Held B v R u)
    (p : Ent × Hd) (gb : Nat) (hx : a.eval x = .slice (some ⟨gb, 0, none⟩) 1 1) (hblk : u.heap[gb]? = some (.cells (ecells p).toArray 37 (0, 0)))
    (hp : ∃ lo hi, B ≤ lo ∧ hi ≤ u.heap.size ∧ Em u lo hi p.1 p.2 ∧ ∀ g, v.ownBlock = some g → g < lo ∨ hi ≤ g) (hlen : R.length ≤ 1000000000000) (hB : B ≤ u.heap.size)
    (h : ∀ A' c' w', Held B (.slice A' (R.length + 1) c') (R ++ [p]) w' → u.grownBy w' v.ownBlock → wpList Try.prog ops Q rest (a.put o.dst (.slice A' (R.length + 1) c')) w') :
    wpList Try.prog ops Q (o :: rest) a u := by
  obtain ⟨i0, hi0', ix0, ix1, ix2⟩ := info_parts einfo
  refine wpList_append_own_at _ hgd s x 24 ho B 37 i0 _ 4 64 Try.underlying24 hi0' ix0 ix1 ix2 rfl (by decide) v R.length (erow R) hs hgot.row ⟨gb, 0, none⟩ 1 1 (ecells p) hx rfl (fun j q hj => ?n1) (fun q hq => ?n2) ?n3 ?n4 hB (fun v' w5 ho hgr _ hat => ?rest)
  case n1 => rw [addr_add, Nat.zero_add]; exact cell_of hblk (by simpa using hj)
  case n2 => exact erow_one [p] q (by simpa [erow] using hq)
  case n3 => unfold maxLen; omega
  case n4 => omega
  case rest =>
    have hlt := rowN_lt hgot.row
    have hke : ∀ q : Ent × Hd, (∃ lo hi, B ≤ lo ∧ hi ≤ u.heap.size ∧ Em u lo hi q.1 q.2 ∧ ∀ g, v.ownBlock = some g → g < lo ∨ hi ≤ g) → ∃ lo hi, B ≤ lo ∧ hi ≤ w5.heap.size ∧ Em w5 lo hi q.1 q.2 ∧ ∀ g, v'.ownBlock = some g → g < lo ∨ hi ≤ g := by
      rintro q ⟨lo, hi, h1, h2, h3, h4⟩
      refine ⟨lo, hi, h1, Nat.le_trans h2 hgr.size, h3.grown hgr h2 h4, fun g hg => ?_⟩
      rcases hat with e | e
      · exact h4 g (e ▸ hg)
      · rw [e] at hg; injection hg with hg; omega
    have hgot' : Held B v' (R ++ [p]) w5 := by
      refine ⟨by rw [List.length_append, erow_append]; simpa [erow] using ho, fun q hq => ?_⟩
      rcases List.mem_append.1 hq with hq | hq
      · exact hke q (hgot.each q hq)
      · rw [List.mem_singleton] at hq; subst hq; exact hke q hp
    obtain ⟨A', c', rfl⟩ := rowN_slice ho
    exact h A' c' w5 hgot' hgr

set_option maxRecDepth 100000 in
set_option maxHeartbeats 16000000 in
theorem rread_any {w : World} {lo hi c : Nat} {A : Option Addr} {b : List Nat} (hv : Bs w lo hi (.slice A b.length c) b) (hhi : hi ≤ w.heap.size) (hb : ∀ x ∈ b, x < 256) (hl : b.length ≤ 1000000000) :
    Calls Try.prog 8 #[.slice A b.length c] w (RReadBAns w b) := by
  have HV := Lib.hid hv
  have HHI := Lib.hid hhi
  have HBY := Lib.hid hb
  have HL := Lib.hid hl
  have HC : Hid (b.length ≤ c ∧ c ≤ maxLen) := by obtain ⟨_, _, e1, h1, h2, _⟩ := hv; injection e1 with _ _ e3; rw [e3]; exact ⟨h1, h2⟩
  have HLAST : Hid (∀ L, IsB b L → 1 ≤ L.length ∧ L.length ≤ 1024 ∧ num4 (b.drop (b.length - 4)) = (L.length + 3) / 4 ∧ 4 * num4 (b.drop (b.length - 4)) + 4 ≤ b.length) := fun L h => by
    obtain ⟨_, _, h3, h4⟩ := h.last
    have h1 := h.1.1
    have h2 := h.1.2.1
    refine ⟨h1, h2, h3, ?_⟩
    omega
  clear hv hhi hb hl
  go_enter Try.func8, Try.ntmps8
  by_cases h8 : b.length < 8
  · have d : decide ((b.length : Int) < 8) = true := by simp; omega
    have dn : decide (b.length < 8) = true := decide_eq_true h8
    have HNO : Hid (∀ L, ¬ IsB b L) := fun L h => by have := HLAST.out L h; omega
    clear h8
    go_wp2_with fail
    go_ret3
    exact ⟨Ext.refl _, .inr ⟨HNO.out, rfl⟩⟩
  have d8 : decide ((b.length : Int) < 8) = false := by simp; omega
  have d8n : decide (b.length < 8) = false := decide_eq_false h8
  obtain ⟨m, hm⟩ : ∃ m, m = b.length - 4 := ⟨_, rfl⟩
  have HM : Hid (m + 4 = b.length ∧ 4 ≤ m) := by unfold Hid; omega
  have hw : wrap64 ((b.length : Int) - 4) = (m : Int) := by have := HL.out; unfold wrap64; omega
  obtain ⟨t, ht⟩ : ∃ t, t = b.drop m := ⟨_, rfl⟩
  have htl : t.length = b.length - m := by rw [ht, List.length_drop]
  obtain ⟨A2, hA2, hA2n, hrun⟩ := tail_run A b.length c m (by omega) HC.out.1
  have hrun' : ∀ w, (Instr.slice 22 (.slice A b.length c) (some (.int .i64 (m : Int))) none none).run Try.prog w = .ok (.slice A2 t.length (c - m)) w := by rw [htl]; exact hrun
  have HT : Hid (Bs w lo hi (.slice A2 t.length (c - m)) t) := by
    obtain ⟨A', c', e1, h1, h2, h3, h4⟩ := HV.out
    injection e1 with e1 e2 e3
    subst e1 e3
    have h6 := hA2 b rfl _ _ _ h4
    rw [← ht] at h6
    exact ⟨A2, _, rfl, by rw [htl]; omega, by omega, fun e => by have := h3 (hA2n e); omega, h6⟩
  have HT4 : Hid (t.length = 4) := by unfold Hid; omega
  have HTB : Hid (∀ x ∈ t, x < 256) := fun x hx => HBY.out x (List.mem_of_mem_drop (by rw [← ht]; exact hx))
  obtain ⟨N, hN⟩ : ∃ N, N = num4 t := ⟨_, rfl⟩
  have HNL : Hid (N < 4294967296) := by rw [hN]; exact num4_lt HT4.out HTB.out
  have HNN : Hid (num4 (b.drop (b.length - 4)) = N) := by rw [← hm, ← ht]; exact hN.symm
  have HNT := Lib.hid hN
  clear h8 hA2 hA2n hrun hm ht htl hN
  go_wp2_with fail
  refine (rnum8_any HT.out HT4.out HTB.out).mono ?_
  rintro x w1 ⟨rfl, hx1⟩
  have HX1 := Lib.hid hx1
  clear hx1 hrun'
  rw [← HNT.out]
  by_cases hc : 1 ≤ N
  rotate_left
  · have HNO : Hid (∀ L, ¬ IsB b L) := fun L h => by have := HLAST.out L h; have := HNN.out; omega
    have g : decide ((N : Int) < 1) = true := by simp; omega
    obtain rfl : N = 0 := by omega
    clear hc
    go_wp2_with fail
    go_ret3
    exact ⟨HX1.out, .inr ⟨HNO.out, rfl⟩⟩
  have g1 : decide ((N : Int) < 1) = false := by simp; omega
  have g1n : decide (N < 1) = false := by simp; omega
  have g1z : decide (N = 0) = false := by simp; omega
  have g1e : (N == 0) = false := by simp; omega
  have HN1 := Lib.hid hc
  clear hc
  by_cases hc : N ≤ 1024
  rotate_left
  · have HNO : Hid (∀ L, ¬ IsB b L) := fun L h => by have := HLAST.out L h; have := HNN.out; omega
    have g : decide ((1024 : Int) < (N : Int)) = true := by simp; omega
    have gn : decide (1024 < N) = true := by simp; omega
    clear hc
    go_wp2_with fail
    go_ret3
    exact ⟨HX1.out, .inr ⟨HNO.out, rfl⟩⟩
  have g2 : decide ((1024 : Int) < (N : Int)) = false := by simp; omega
  have g2n : decide (1024 < N) = false := by simp; omega
  have HN2 := Lib.hid hc
  clear hc
  obtain ⟨q4, hq4⟩ : ∃ q, q = 4 * N := ⟨_, rfl⟩
  have hw2 : wrap64 (4 * (N : Int)) = (q4 : Int) := by have := HN2.out; unfold wrap64; omega
  obtain ⟨r4, hr4⟩ : ∃ q, q = q4 + 4 := ⟨_, rfl⟩
  have hw3 : wrap64 ((q4 : Int) + 4) = (r4 : Int) := by have := HN2.out; unfold wrap64; omega
  have HQR : Hid (q4 = 4 * N ∧ r4 = q4 + 4) := ⟨hq4, hr4⟩
  clear hq4 hr4
  by_cases hc : r4 ≤ b.length
  rotate_left
  · have HNO : Hid (∀ L, ¬ IsB b L) := fun L h => by have := HLAST.out L h; have := HNN.out; have := HQR.out; omega
    have g : decide ((b.length : Int) < (r4 : Int)) = true := by simp; omega
    have gn : decide (b.length < r4) = true := by simp; omega
    clear hc
    go_wp2_with fail
    go_ret3
    exact ⟨HX1.out, .inr ⟨HNO.out, rfl⟩⟩
  have g3 : decide ((b.length : Int) < (r4 : Int)) = false := by simp; omega
  have g3n : decide (b.length < r4) = false := by simp; omega
  obtain ⟨k, hk⟩ : ∃ k, k = m - q4 := ⟨_, rfl⟩
  have HK : Hid (k + q4 = m ∧ k ≤ b.length) := by have := HM.out; have := HQR.out; unfold Hid; omega
  have hw4 : wrap64 ((m : Int) - (q4 : Int)) = (k : Int) := by have := HK.out; have := HM.out; have := HL.out; unfold wrap64; omega
  obtain ⟨bd, hbd⟩ : ∃ bd, bd = bodyOf b := ⟨_, rfl⟩
  have HBD := Lib.hid hbd
  have hbk : bd = b.take k := by rw [hbd]; unfold bodyOf; rw [HNN.out]; have := HK.out; have := HM.out; have := HQR.out; congr 1; omega
  have hbl : bd.length = k := by rw [hbk, List.length_take]; have := HK.out; omega
  obtain ⟨A3, hA3, hA3n, hrun3⟩ := head_run .i64 A b.length c k HK.out.2 HC.out.1
  have hrun' : ∀ w, (Instr.slice 22 (.slice A b.length c) none (some (.int .i64 (k : Int))) none).run Try.prog w = .ok (.slice A3 bd.length c) w := by rw [hbl]; exact hrun3
  have HB3 : Hid (Bs w1 lo hi (.slice A3 bd.length c) bd) := by
    obtain ⟨A', c', e1, h1, h2, h3, h4⟩ := HV.out.below HX1.out HHI.out
    injection e1 with e1 e2 e3
    subst e1 e3
    have h6 := hA3 b rfl _ _ _ h4
    rw [← hbk] at h6
    exact ⟨A3, _, rfl, by have := HK.out; omega, h2, fun e => h3 (hA3n e), h6⟩
  have HBDL : Hid (bd.length ≤ 1000000000) := by have := HK.out; have := HL.out; unfold Hid; omega
  have HBDB : Hid (∀ x ∈ bd, x < 256) := fun x hx => HBY.out x (List.mem_of_mem_take (by rw [← hbk]; exact hx))
  clear hc hk hbd hbk hbl hA3 hA3n hrun3
  go_upto_region 7 with (fail)
  obtain ⟨w2, hw2'⟩ : ∃ w2, w2 = w1.alloc (.cells #[.slice A3 bd.length c] 56) := ⟨_, rfl⟩
  rw [← hw2']
  have HX2 : Hid (Ext w w2) := by rw [hw2']; exact Ext.trans HX1.out (ext_alloc _ _)
  obtain ⟨q, hq⟩ : ∃ q, q = w1.heap.size := ⟨_, rfl⟩
  rw [← hq]
  have HZ2 : Hid (w2.heap.size = q + 1 ∧ w.heap.size ≤ q) := ⟨by rw [hw2', hq]; simp, by rw [hq]; exact HX1.out.size⟩
  have HQ2 : Hid (Qd w2 q lo hi bd) := ⟨⟨.slice A3 bd.length c, by rw [hw2', hq]; exact heap_at _ _ rfl, by rw [hw2']; exact HB3.out.below (ext_alloc _ _) (Nat.le_trans HHI.out HX1.out.size)⟩, by have := HHI.out; have := HZ2.out; omega, by have := HHI.out; have := HZ2.out; omega, HBDB.out⟩
  clear hw2' hq hrun' hw hw2 hw3 hw4 d8 d8n g1 g1n g1z g1e g2 g2n g3 g3n
  go_wp2_with fail
  go_loopw [7, 8, 9, 10] (fun v bf _ _ wr => ∃ (R : List (Ent × Hd)) (vA : Option Addr) (vc : Nat) (bA : Option Addr) (bc : Nat) (ah rest : List Nat), v = .slice vA R.length vc ∧ bf = .slice bA ah.length bc ∧ Hid (RdSt w w2.heap.size q lo hi bd (.slice vA R.length vc) R bA bc ah rest wr)) (fun v _ _ _ _ => 1100 - vlen v)
  case atStart => exact ⟨[], none, 0, none, 0, [], bd, rfl, rfl, ⟨Ahead.start _, fun L _ => (List.take_zero).symm, HQ2.out, Held.nil _ _, by simp, Bs.nil _ _ _, by simp, by simp, by simp, HX2.out, Nat.le_refl _, by have := HBDL.out; omega⟩⟩
  case round =>
    obtain ⟨R, vA, vc, bA, bc, ah, rest, rfl, rfl, HST⟩ := hrel
    have HLEFT := Lib.hid (RLeft_any _ _ _ _ _ HST.out.qd)
    have HEND : Hid (∀ L, IsB b L → R.length ≤ L.length) := fun L h => by have := h.body; rw [← HBD.out] at this; exact (HST.out.ahead.is L this).1
    by_cases hr0 : rest.length = 0
    · have HR0 : Hid (rest = []) := List.eq_nil_of_length_eq_zero hr0
      have f1 : decide ((0 : Int) < (rest.length : Int)) = false := decide_eq_false (by omega)
      have f1n : decide (0 < rest.length) = false := decide_eq_false (by omega)
      have HALL : Hid (∀ L, IsB b L → L = R.map Prod.fst) := fun L h => by
        have hb := h.body
        rw [← HBD.out] at hb
        have ha := HST.out.ahead
        rw [HR0.out] at ha
        have h1 := ha.ends hb
        have h2 := HST.out.took L hb
        rw [h2, ← h1, List.take_length]
      have hes := HST.out.held.es
      have HMB := Lib.hid (rmayb_any (c := vc) hes (Nat.le_refl _) (by have := HST.out.few; omega) (fun p hp => by have := mayN_iff.1 (HST.out.may p hp); omega))
      clear hr0 hes
      go_wp2_with fail
      refine HLEFT.out.mono ?_
      rintro x _ ⟨rfl, rfl⟩
      go_wp2_with fail
      refine HMB.out.mono ?_
      rintro x w3 ⟨z, hz, rfl, hx3⟩
      have HX3 := Lib.hid hx3
      have HZ := Lib.hid hz
      clear hx3 hz
      rcases z with _ | _
      · have HNO : Hid (∀ L, ¬ IsB b L) := fun L h => by
          have h1 := h.1
          rw [HALL.out L h] at h1
          exact absurd (HZ.out.2 h1) (by decide)
        go_wp2_with fail
        go_ret3
        exact ⟨Ext.trans HST.out.x HX3.out, .inr ⟨HNO.out, rfl⟩⟩
      have HMY : Hid (MayB (R.map Prod.fst)) := HZ.out.1 rfl
      obtain ⟨Ls, hLs⟩ : ∃ Ls, Ls = R.map Prod.fst := ⟨_, rfl⟩
      have HW := Lib.hid (rwrite_any (c := vc) (HST.out.held.es.below HX3.out (Nat.le_refl _)) HX3.out.size HMY.out)
      rw [← hLs] at HW HMY HALL
      have HLS := Lib.hid hLs
      clear hLs
      go_wp2_with fail
      refine HW.out.mono ?_
      rintro x w4 ⟨WA, wc, RA, rc, rfl, hst⟩
      have HW4 := Lib.hid hst
      have HBW : Hid (∀ x ∈ _root_.Go.Proofs.Ytddfelahpiokjaa.wr Ls, x < 256) := wr_lt HMY.out (fun e he => by
        rw [HLS.out] at he
        obtain ⟨p, hp, rfl⟩ := List.mem_map.1 he
        obtain ⟨_, _, _, _, hem, _⟩ := HST.out.held.each p hp
        exact ⟨hem.bk, hem.bv⟩)
      obtain ⟨W, hW⟩ : ∃ W, W = _root_.Go.Proofs.Ytddfelahpiokjaa.wr Ls := ⟨_, rfl⟩
      have HWE := Lib.hid hW
      rw [← hW] at HW4 HBW ⊢
      have v1 := cv_any HW4.out.b.bs
      have v2 := cv_any (HV.out.below (Ext.trans (Ext.trans HST.out.x HX3.out) HW4.out.x) HHI.out)
      have t1 := tx_same HBW.out HBY.out
      clear hst hW
      by_cases he : W = b
      · rw [decide_eq_true he] at t1
        have HE := Lib.hid he
        clear he
        go_wp2_with fail
        go_ret3
        have hs := HLS.out
        subst hs
        exact ⟨Ext.trans (Ext.trans HST.out.x HX3.out) HW4.out.x, .inl ⟨R, vA, RA, vc, rc, ⟨HMY.out, by rw [← HWE.out]; exact HE.out⟩, rfl, (HST.out.held.esB.below (Ext.trans HX3.out HW4.out.x) (Nat.le_refl _)).wide (by have := HZ2.out; omega) (Ext.trans HX3.out HW4.out.x).size, HW4.out.r.base (Ext.trans HST.out.x HX3.out).size, HST.out.held.cap⟩⟩
      · rw [decide_eq_false he] at t1
        have HNO : Hid (∀ L, ¬ IsB b L) := fun L h => he (by rw [HWE.out, ← HALL.out L h]; exact h.2)
        clear he
        go_wp2_with fail
        go_ret3
        exact ⟨Ext.trans (Ext.trans HST.out.x HX3.out) HW4.out.x, .inr ⟨HNO.out, rfl⟩⟩
    have f1 : decide ((0 : Int) < (rest.length : Int)) = true := decide_eq_true (by omega)
    have f1n : decide (0 < rest.length) = true := decide_eq_true (by omega)
    have HRN : Hid (rest ≠ []) := fun h => hr0 (by rw [h]; rfl)
    clear hr0
    by_cases hf : R.length ≤ 1024
    rotate_left
    · have f2 : decide ((R.length : Int) ≤ 1024) = false := by simp; omega
      have f2n : decide (R.length ≤ 1024) = false := by simp; omega
      have HNO : Hid (∀ L, ¬ IsB b L) := fun L h => by have := HEND.out L h; have := HLAST.out L h; omega
      have hes := HST.out.held.es
      have HMB := Lib.hid (rmayb_any (c := vc) hes (Nat.le_refl _) (by have := HST.out.few; omega) (fun p hp => by have := mayN_iff.1 (HST.out.may p hp); omega))
      have HMN : Hid (¬ MayB (R.map Prod.fst)) := fun h => by have := h.2.1; rw [List.length_map] at this; omega
      clear hf hes
      go_wp2_with fail
      refine HLEFT.out.mono ?_
      rintro x _ ⟨rfl, rfl⟩
      go_wp2_with fail
      refine HMB.out.mono ?_
      rintro x w3 ⟨z, hz, rfl, hx3⟩
      have HX3 := Lib.hid hx3
      have hzf : z = false := by
        rcases z with _ | _
        · rfl
        · exact absurd (hz.1 rfl) HMN.out
      subst hzf
      clear hx3 hz
      go_wp2_with fail
      go_ret3
      exact ⟨Ext.trans HST.out.x HX3.out, .inr ⟨HNO.out, rfl⟩⟩
    have f2 : decide ((R.length : Int) ≤ 1024) = true := by simp; omega
    have f2n : decide (R.length ≤ 1024) = true := by simp; omega
    have HF := Lib.hid hf
    have HENT := Lib.hid (rent_any HST.out.qd HST.out.bf (Nat.le_refl _) (.inl (by have := HZ2.out; omega)) HST.out.ahb (by have := HST.out.ahl; omega) HST.out.len)
    clear hf
    go_wp2_with fail
    refine HLEFT.out.mono ?_
    rintro x _ ⟨rfl, rfl⟩
    go_wp2_with fail
    refine HENT.out.mono ?_
    rintro x w3 ⟨hg, (⟨e, g, rest', hs, rfl, hqd, hem⟩ | ⟨⟨a0, a1, a2, a3, rfl⟩, hno⟩)⟩
    rotate_left
    · have HX3 : Hid (Ext w w3) := HST.out.x.grown hg HST.out.x.size (fun k hk => by injection hk with hk; have := HZ2.out; omega)
      have HNO : Hid (∀ L, ¬ IsB b L) := fun L h => by
        have hb := h.body
        rw [← HBD.out] at hb
        obtain ⟨e, _, hs⟩ := HST.out.ahead.stands hb HRN.out
        exact hno _ _ hs
      clear hg hno
      unfold Ent.at_
      go_wp2_with fail
      go_ret3
      exact ⟨Ext.trans HX3.out (ext_alloc _ _), .inr ⟨HNO.out, rfl⟩⟩
    have HG3 := Lib.hid hg
    have HS3 := Lib.hid hs
    have HQ3 := Lib.hid hqd
    have HEM3 := Lib.hid hem
    have HX3 : Hid (Ext w w3) := HST.out.x.grown hg HST.out.x.size (fun k hk => by injection hk with hk; have := HZ2.out; omega)
    have HH3 := Lib.hid (HST.out.held.grown hg (by have := HZ2.out; omega))
    clear hg hs hqd hem
    unfold Ent.at_
    go_upto_region 13 with (fail)
    obtain ⟨w5, hw5⟩ : ∃ w5, w5 = w3.alloc (.cells #[.slice g.kA e.key.length g.kc, .int .i64 e.seq, .int .i64 e.kind, .slice g.vA e.val.length g.vc] 37) := ⟨_, rfl⟩
    rw [← hw5]
    have HX5 : Hid (Ext w3 w5) := by rw [hw5]; exact ext_alloc _ _
    have HB5 : Hid (w5.heap[w3.heap.size]? = some (.cells #[.slice g.kA e.key.length g.kc, .int .i64 e.seq, .int .i64 e.kind, .slice g.vA e.val.length g.vc] 37 (0, 0))) := by rw [hw5]; exact heap_at _ _ rfl
    have c0 := cell_of HB5.out (k := 0) rfl
    have c1 := cell_of HB5.out (k := 1) rfl
    have c2 := cell_of HB5.out (k := 2) rfl
    have c3 := cell_of HB5.out (k := 3) rfl
    have HH5 := Lib.hid (HH3.out.below HX5.out)
    have HEM5 := Lib.hid (HEM3.out.below HX5.out (Nat.le_refl _))
    have HROW := Lib.hid (rowN_lt HST.out.held.row)
    have HSZ : Hid (w2.heap.size ≤ wr.heap.size ∧ wr.heap.size ≤ w3.heap.size ∧ w3.heap.size ≤ w5.heap.size) := ⟨HST.out.size, HG3.out.size, HX5.out.size⟩
    obtain ⟨g5, hg5⟩ : ∃ g5, g5 = w3.heap.size := ⟨_, rfl⟩
    rw [← hg5] at c0 c1 c2 c3 HB5 ⊢
    have HG5 := Lib.hid hg5
    clear hw5 hg5
    go_wp2_with (at_builtin; refine wpList_pushgrown rfl (.tmp 62) (.tmp 64) rfl w2.heap.size _ R rfl (HH5.out.below (ext_alloc _ _)) (e, g) w5.heap.size rfl ?blk ?each ?len ?hB ?_)
    case blk => exact heap_at _ _ rfl
    case each => exact ⟨wr.heap.size, HSZ.out.1, w3.heap.size, Nat.le_trans HSZ.out.2.2 (Nat.le_succ _), HEM5.out.below (ext_alloc _ _) HSZ.out.2.2, fun g' hg' => .inl (HROW.out g' hg').2.1⟩
    case len => have := HF.out; omega
    case hB => have := HSZ.out; exact Nat.le_trans (Nat.le_trans (Nat.le_trans HSZ.out.1 HSZ.out.2.1) HSZ.out.2.2) (ext_alloc _ _).size
    intro A6 c6 w6 hh6 hg6
    have hne : ∀ k, (Value.slice vA R.length vc).ownBlock = some k → w2.heap.size ≤ k ∧ k < g5 := fun k hk => by have := HROW.out k hk; have := HSZ.out; have := HG5.out; omega
    have HB6 : Hid (w6.heap[g5]? = some (.cells #[.slice g.kA e.key.length g.kc, .int .i64 e.seq, .int .i64 e.kind, .slice g.vA e.val.length g.vc] 37 (0, 0))) :=
      (hg6.block g5 (Nat.lt_of_lt_of_le (Array.getElem?_eq_some_iff.1 HB5.out).1 (ext_alloc _ _).size) (fun h => by have := hne _ h.symm; omega)).trans (ext_heap (ext_alloc _ _) HB5.out)
    have HX6 : Hid (Below w2.heap.size w3 w6) := ((HX5.out.mono (Nat.le_trans HSZ.out.1 HSZ.out.2.1)).trans ((ext_alloc _ _).mono (by have := HSZ.out; omega))).grown hg6 (by have := HSZ.out; exact Nat.le_trans (by omega) (ext_alloc _ _).size) (fun k hk => (hne k hk).1)
    have HH6 := Lib.hid hh6
    have HQ6 := Lib.hid (HQ3.out.below HX6.out (by have := HQ2.out.top; omega) (by have := HZ2.out; omega))
    have HXW : Hid (Ext w w6) := Below.trans HX3.out (HX6.out.mono (by have := HZ2.out; omega))
    have k0 := cell_of HB6.out (k := 0) rfl
    clear hh6 hg6 hne c0 c1 c2 c3
    go_wp2_with fail
    go_roundw
    case rel =>
      obtain ⟨h1, h2⟩ := HST.out.ahead.next HRN.out (fun e' r' hs' => by obtain ⟨a, b⟩ := hs'.unique HS3.out; exact ⟨a, b⟩)
      have hlen : (R ++ [(e, g)]).length = R.length + 1 := by simp
      refine ⟨R ++ [(e, g)], A6, c6, g.kA, g.kc, e.key, rest', by rw [hlen], rfl, ?_⟩
      rw [hlen]
      obtain ⟨elo, ehi, q1, q2, q3, _⟩ := HH6.out.each (e, g) (by simp)
      refine ⟨by rw [hlen]; exact h1, fun L hL => ?_, HQ6.out, by simpa using HH6.out, fun p hp => ?_, q3.k.wide q1 q2, q3.bk, (mayN_iff.1 HS3.out.1).2.1, by rw [hlen]; have := HF.out; omega, HXW.out, ?_, ?_⟩
      · rw [hlen, List.map_append, HST.out.took L hL, List.take_add_one, h2 L hL]; rfl
      · rcases List.mem_append.1 hp with hp | hp
        · exact HST.out.may p hp
        · rw [List.mem_singleton] at hp; rw [hp]; exact HS3.out.1
      · have := HX6.out.size; have := HSZ.out; omega
      · have hle : rest'.length ≤ rest.length := by
          obtain ⟨_, n, _, _, _, h⟩ := HS3.out
          have := congrArg List.length h
          simp only [List.length_append] at this
          omega
        exact Nat.le_trans hle HST.out.len
    case measure => have := HF.out; simp [vlen]; omega
end Go.Proofs.Ytddfelahpiokjaa

/- The reference's Get of a block. -/
namespace Go.Proofs.Ytddfelahpiokjaa
open Go.ChangeShapes Go.WideShapes Go.ChangeAt Go.RowKit

end Go.Proofs.Ytddfelahpiokjaa
