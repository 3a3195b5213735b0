/- JMframes JMrodd JMrone Yrbat Ylaws Ywide, joined. -/
import Derived.Test.YtgflhbpmkcggnaaMa12
import Derived.Test.YtgflhbpmkcggnaaMa9
import Derived.Maps.AppendAt
import Derived.Deep.DeepCutAuto
import Derived.Test.YtgflhbpmkcggnaaMa11
import Derived.Test.YtgflhbpmkcggnaaMa7

/- The document's own frames. -/
namespace Go.Proofs.Ytgflhbpmkcggnaa.Fm
open Go.ChangeShapes Go.WideShapes Go.ChangeAt Go.RowKit

theorem tx_ne {l r : List Nat} (hl : ∀ n ∈ l, n < 256) (hr : ∀ n ∈ r, n < 256) (h : l ≠ r) : ((tx l).toList == (tx r).toList) = false := by
  rw [beq_eq_false_iff_ne]
  intro he
  apply h
  apply tx_inj hl hr
  rw [ByteArray.toList_eq, ByteArray.toList_eq] at he
  cases hx : tx l with
  | mk d =>
    cases hy : tx r with
    | mk e =>
      rw [hx, hy] at he
      have := Array.toList_inj.1 he
      simp at this
      rw [this]
/-- 'string(b)' of bytes that read as l. -/
theorem cv {w : World} {lo hi : Nat} {A : Option Addr} {n c : Nat} {l : List Nat} (h : Bs w lo hi (.slice A n c) l) : (convert 29 9 (.slice A n c)).run Try.prog w = .ok (.string (tx l)) w := by
  obtain ⟨A', c', he, _, _, _, h4⟩ := h
  have h5 : A = A' ∧ n = l.length ∧ c = c' := by injection he with a b c; exact ⟨a, b, c⟩
  obtain ⟨rfl, rfl, rfl⟩ := h5
  exact run_text (P := Try.prog) w 29 5 Try.underlying29 Try.underlying5 h4 l.length c rfl 9 Try.underlying9

/-- Rows of unlike things lie in unlike blocks. -/
theorem own_apart {w : World} {B B' s s' n n' : Nat} {e e' : TypeId} {v v' : Value} {xs xs' : List Value} (h : w.ownsRow B e s v n xs) (k : w.ownsRow B' e' s' v' n' xs') (hne : e ≠ e') : ∀ g, v.ownBlock = some g → some g ≠ v'.ownBlock := by
  intro g hg he
  rcases h.2 with ⟨rfl, _⟩ | ⟨g1, cap1, cur1, rfl, _, h1, _⟩
  · cases hg
  · rcases k.2 with ⟨rfl, _⟩ | ⟨g2, cap2, cur2, rfl, _, h2, _⟩
    · cases he
    · injection hg with hg
      injection he with he
      subst hg
      subst he
      rw [h1] at h2
      injection h2 with h2
      injection h2 with _ h2
      exact hne h2
/-- A row stays while a row of unlike things grows. -/
theorem own_while {w w' : World} {B B' s' n n' : Nat} {e e' : TypeId} {v v' : Value} {xs xs' : List Value} {o : Obj} (h : w.ownsRow B e 1 v n xs) (k : w.ownsRow B' e' s' v' n' xs') (hne : e ≠ e') (hg : (w.alloc o).grownBy w' v'.ownBlock) : w'.ownsRow B e 1 v n xs := by
  refine row_kept h fun g hv => ?_
  have hlt := (row_lt h g hv).2
  rw [hg.block g (by simp; omega) (own_apart h k hne g hv)]
  exact Below.heap_alloc _ _ _ hlt
theorem tintinfo : (Try.prog.info? 3).map (fun i => (i.zero, i.size, i.bytes)) = some (some (.int .i64 0), 1, 8) := by kernel_rfl
theorem tbytesinfo : (Try.prog.info? 29).map (fun i => (i.zero, i.size, i.bytes)) = some (some (.slice none 0 0), 1, 24) := by kernel_rfl

/-- 'out = append(out, u)' onto a row of the call's own: all else stays. -/
theorem wpList_pushrow {P : Program} {ops : Array Oper} {rest : List Oper} {o : Oper} {a : Act} {Q : Exit → Act → World → Prop} {wr : World} (hgd : o.guard = none) (s x : Operand) (t : TypeId)
    (ho : o.op = .call { callee := .builtin .append, args := #[s, x], argTypes := #[t, t] })
    (B : Nat) (e : TypeId) (i : TypeInfo) (z : Value) (bytes : Nat) (ht : P.underlying t = some (.slice e)) (hi : P.info? e = some i) (hz : i.zero = some z)
    (hsize : i.size = 1) (hby : i.bytes = bytes) (hzs : z.cells.size = 1)
    (v : Value) (n : Nat) (xs : List Value) (hs : a.eval s = v) (hown : wr.ownsRow B e 1 v n xs) (u : Value) (hu : u.oneCell' = true) (g : Nat) (hg : g = wr.heap.size)
    (hx : a.eval x = .slice (some ⟨g, 0, none⟩) 1 1) (h63 : n + 1 ≤ maxLen) (hbytes : (n + 1) * bytes ≤ 140737488355328) (hB : B ≤ wr.heap.size)
    (h : ∀ A' c' w', w'.ownsRow B e 1 (.slice A' (n + 1) c') (n + 1) (xs ++ [u]) → (wr.alloc (.cells #[u] e)).grownBy w' v.ownBlock → wpList P ops Q rest (a.put o.dst (.slice A' (n + 1) c')) w') :
    wpList P ops Q (o :: rest) a (wr.alloc (.cells #[u] e)) := by
  subst hg
  refine wpList_append_own _ hgd s x t ho B e i z 1 bytes ht hi hz hsize hby hzs (by omega) v n xs hs (hown.alloc _) ⟨wr.heap.size, 0, none⟩ 1 1 [u] hx rfl (fun j q hj => ?_) (fun q hq => ?_) h63 hbytes
    (Nat.le_trans hB (by simp)) (fun v' w' h2 h3 _ => ?_)
  · rcases j with _ | j
    · simp at hj
      subst hj
      rw [addr_add, World.cell?_alloc_at _ _ _ _ rfl]
      rfl
    · simp at hj
  · rw [List.mem_singleton] at hq
    subst hq
    exact hu
  · have h2' := h2
    obtain ⟨A', c', rfl, _, _, _, _⟩ := Sl.of_own h2'
    exact h A' c' w' h2 h3
theorem grown_below {w w' : World} {B : Nat} {r : Option Nat} {o : Obj} (hg : (w.alloc o).grownBy w' r) (hr : ∀ g, r = some g → B ≤ g) (hB : B ≤ w.heap.size) : Below B w w' :=
  ((Below.refl B w).alloc hB o).grown hg (Nat.le_trans hB (by simp)) hr

/-- Where frames begin. -/
def iv (fs : List (Nat × List Nat)) : List Value := fs.map fun x => .int .i64 (x.1 : Int)
/-- The frames, as they are answered. -/
structure Fr (w : World) (B : Nat) (fs : List (Nat × List Nat)) (a l : Value) : Prop where
  at_ : w.ownsRow B 3 1 a fs.length (iv fs)
  pay : ∃ vs : List Value, w.ownsRow B 29 1 l fs.length vs ∧ ∀ (i : Nat) (v : Value), vs[i]? = some v → ∃ x, fs[i]? = some x ∧ Own B x.2 v w
theorem Fr.below {w w' : World} {B : Nat} {fs : List (Nat × List Nat)} {a l : Value} (h : Fr w B fs a l) (hb : Ext w w') : Fr w' B fs a l := by
  obtain ⟨h1, vs, h2, h3⟩ := h
  exact ⟨own_below h1 hb (Nat.le_refl _), vs, own_below h2 hb (Nat.le_refl _), fun i v hv => by obtain ⟨x, hx, ho⟩ := h3 i v hv; exact ⟨x, hx, ho.below hb⟩⟩
theorem Fr.nil (w : World) (B : Nat) : Fr w B [] (.slice none 0 0) (.slice none 0 0) := ⟨World.ownsRow_nil _ _ _ _, [], World.ownsRow_nil _ _ _ _, fun i v h => by simp at h⟩
/-- What Frames answers. -/
def FramesAns (w : World) (b : List Nat) (e : Ending) (w' : World) : Prop := ∃ A1 c1 A2 c2, e = .returned (.tuple #[.slice A1 (frs b 0).length c1, .slice A2 (frs b 0).length c2, .int .i64 (fend b 0 : Int)]) ∧
  Fr w' w.heap.size (frs b 0) (.slice A1 (frs b 0).length c1) (.slice A2 (frs b 0).length c2) ∧ Below w.heap.size w w'

set_option maxRecDepth 100000 in
set_option maxHeartbeats 8000000 in
theorem frames_any {w : World} {lo hi : Nat} {v : Value} {b : List Nat} (hv : Bs w lo hi v b) (hhi : hi ≤ w.heap.size) (hb : ∀ x ∈ b, x < 256) (hlen : b.length ≤ 1099511627776) :
    Calls Try.prog 41 #[v] w (FramesAns w b) := by
  have HV := Lib.hid hv
  have HBB := Lib.hid hb
  have HLEN := Lib.hid hlen
  obtain ⟨A, c, rfl, q1, q2, q3, _⟩ := hv
  have hbc : b.length ≤ c := q1
  have hl63 : (b.length : Int) ≤ 1099511627776 := by omega
  clear q1 q2 q3 hb hlen
  go_enter Try.func41, Try.ntmps41
  go_wp2_with fail
  go_loopw [5, 6, 7, 8, 9, 10] (fun a l k _ _ _ wr => ∃ (cnt m : Nat) (A1 A2 : Option Addr) (c1 c2 : Nat), m ≤ b.length ∧ a = .slice A1 cnt c1 ∧ l = .slice A2 cnt c2 ∧ k = .int .i64 (m : Int) ∧ Hid (Upto b cnt m) ∧ Hid (Fr wr w.heap.size ((frs b 0).take cnt) (.slice A1 cnt c1) (.slice A2 cnt c2)) ∧ Hid (Below w.heap.size w wr))
    (fun _ _ k _ _ _ _ => b.length - (intOf k).toNat)
  case atStart => exact ⟨0, 0, none, none, 0, 0, Nat.zero_le _, rfl, rfl, rfl, Upto.start b, by simpa [Hid] using Fr.nil w w.heap.size, Below.refl _ _⟩
  case round =>
    obtain ⟨cnt, m, A1, A2, c1, c2, hm, rfl, rfl, rfl, HU, HF, HB⟩ := hrel
    obtain ⟨r, hr⟩ : ∃ r, r = b.drop m := ⟨_, rfl⟩
    have hrl : (r.length : Int) = (b.length : Int) - (m : Int) := by rw [hr, List.length_drop]; omega
    have HRL := Lib.hid hrl
    by_cases h8 : r.length < 8
    · have hd : decide ((8 : Int) ≤ (b.length : Int) - (m : Int)) = false := by simp; omega
      have HST := Lib.hid (HU.out.stop (by rw [← hr]; exact whole1_few h8))
      clear h8 hr hrl
      go_wp2_with fail
      go_ret3
      have hfr := HF.out
      rw [HST.out.1, List.take_length] at hfr
      exact ⟨A1, c1, A2, c2, by rw [HST.out.1, HST.out.2]; rfl, hfr, HB.out⟩
    · have hd : decide ((8 : Int) ≤ (b.length : Int) - (m : Int)) = true := by simp; omega
      have h8' : 8 ≤ r.length := by omega
      obtain ⟨n, hn⟩ : ∃ n, n = num4 (r.take 4) := ⟨_, rfl⟩
      have hrb : ∀ x ∈ r, x < 256 := fun x hx => HBB.out x (List.mem_of_mem_drop (by rw [← hr]; exact hx))
      obtain ⟨A3, hA3, hrun⟩ := drop_run A b.length c m hm hbc
      have hbr : Bs wr lo hi (.slice A3 (b.length - m) (c - m)) r := by have := hA3 _ _ _ _ (HV.out.below HB.out hhi); rwa [← hr] at this
      have hrl2 : b.length - m = r.length := by rw [hr, List.length_drop]
      have hrun1 := hrun wr
      have HLN := Lib.hid (rlength_any _ lo hi r wr hbr hrb (by omega))
      rw [← hn] at HLN
      have HRB := Lib.hid hrb
      have HR := Lib.hid hr
      have HN := Lib.hid hn
      have H8 := Lib.hid h8'
      have HRL2 := Lib.hid hrl2
      have hn32 : n < 4294967296 := by rw [hn]; exact num4_lt (by simp; omega) (fun x hx => hrb x (List.mem_of_mem_take hx))
      obtain ⟨g, hg⟩ : ∃ g, (decide (1 ≤ (n : Int)) && decide ((n : Int) ≤ 1048576)) = g := ⟨_, rfl⟩
      have HMAY : Hid (∀ w, Calls Try.prog 66 #[.int .i64 (n : Int)] w fun e w' => e = .returned (.bool g) ∧ w = w') := fun w => by
        have h := rmay_any (n : Int) w
        rw [hg] at h
        exact h
      have HG := Lib.hid hg
      clear h8 hr hrl hn hrb hA3 hrun hbr h8' hrl2 hg
      cases g with
      | false =>
        have hno : whole1 r = none := whole1_bad H8.out (by have h := HG.out; rw [← HN.out]; simp at h; omega)
        have HST := Lib.hid (HU.out.stop (by rw [← HR.out]; exact hno))
        clear hno
        go_wp2_with fail
        refine HLN.out.mono ?_
        rintro e w1 ⟨rfl, hb1⟩
        have HB1 := Lib.hid hb1
        clear hb1
        go_wp2_with fail
        refine (HMAY.out _).mono ?_
        rintro e w2 ⟨rfl, rfl⟩
        go_wp2_with fail
        go_ret3
        have hfr := HF.out.below HB1.out
        rw [HST.out.1, List.take_length] at hfr
        exact ⟨A1, c1, A2, c2, by rw [HST.out.1, HST.out.2]; rfl, hfr, Ext.trans HB.out HB1.out⟩
      | true =>
        by_cases hlong : r.length < n + 8
        · have hd2 : decide ((b.length : Int) - (m : Int) - 8 < (n : Int)) = true := by simp; have := HRL.out; omega
          have hno : whole1 r = none := whole1_long H8.out (by rw [← HN.out]; exact hlong)
          have HST := Lib.hid (HU.out.stop (by rw [← HR.out]; exact hno))
          clear hno hlong
          go_wp2_with fail
          refine HLN.out.mono ?_
          rintro e w1 ⟨rfl, hb1⟩
          have HB1 := Lib.hid hb1
          clear hb1
          go_wp2_with fail
          refine (HMAY.out _).mono ?_
          rintro e w2 ⟨rfl, rfl⟩
          go_wp2_with fail
          go_ret3
          have hfr := HF.out.below HB1.out
          rw [HST.out.1, List.take_length] at hfr
          exact ⟨A1, c1, A2, c2, by rw [HST.out.1, HST.out.2]; rfl, hfr, Ext.trans HB.out HB1.out⟩
        · have hd2 : decide ((b.length : Int) - (m : Int) - 8 < (n : Int)) = false := by simp; have := HRL.out; omega
          have hnl : n + 8 ≤ r.length := by omega
          have hmn : 1 ≤ n ∧ n ≤ 1048576 := by have h := HG.out; simp at h; omega
          have hsum := whole1_sum HRB.out H8.out (by rw [← HN.out]; exact hmn) (by rw [← HN.out]; exact hnl)
          rw [← HN.out, HR.out, mid_drop, mid_drop] at hsum
          have HSUM := Lib.hid hsum
          obtain ⟨Ap, hAp, hrp, _⟩ := cut_run A b.length c (m + 8) (m + (n + 8)) (by omega) (by have := HRL2.out; omega) hbc
          obtain ⟨As, hAs, hrs, _⟩ := cut_run A b.length c (m + 4) (m + 8) (by omega) (by have := HRL2.out; omega) hbc
          have HAP := Lib.hid hAp
          have HAS := Lib.hid hAs
          have hrp2 : ∀ w, (Instr.slice 29 (.slice A b.length c) (some (.int .i64 ((m : Int) + 8))) (some (.int .i64 ((m : Int) + 8 + (n : Int)))) none).run Try.prog w = .ok (.slice Ap n (c - (m + 8))) w := fun w => by
            have h := hrp w
            rw [show m + (n + 8) - (m + 8) = n by omega] at h
            rw [← h]
            congr 4
            omega
          have hrs2 : ∀ w, (Instr.slice 29 (.slice A b.length c) (some (.int .i64 ((m : Int) + 4))) (some (.int .i64 ((m : Int) + 8))) none).run Try.prog w = .ok (.slice As 4 (c - (m + 4))) w := fun w => by
            have h := hrs w
            rw [show m + 8 - (m + 4) = 4 by omega] at h
            exact h
          have HRP := Lib.hid hrp2
          have HRS := Lib.hid hrs2
          have hmn63 : (m : Int) + 8 + (n : Int) ≤ 1099511627776 := by have := HRL2.out; omega
          have HNL := Lib.hid hnl
          have HMN := Lib.hid hmn
          have hconv : (n : Int) % 4294967296 = (n : Int) := by omega
          clear hlong hsum hAp hAs hrp hrs hrp2 hrs2 hnl hmn
          go_wp2_with fail
          refine HLN.out.mono ?_
          rintro e w1 ⟨rfl, hb1⟩
          have HB1 := Lib.hid hb1
          clear hb1
          go_wp2_with fail
          refine (HMAY.out _).mono ?_
          rintro e w2 ⟨rfl, rfl⟩
          have hrp1 := HRP.out w1
          go_wp2_with fail
          refine (rword_any n (by have := HMN.out; omega) w1).mono ?_
          rintro e w3 ⟨v3, rfl, hown3, hb3⟩
          have HX3 : Hid (Ext w1 w3) := hb3
          have HO3 : Hid (Own w1.heap.size (be4 n) v3 w3) := hown3
          obtain ⟨A4, c4, rfl, _, _, _, _⟩ := Sl.of_own hown3
          obtain ⟨P, hP⟩ : ∃ P, P = mid b (m + 8) (m + (n + 8)) := ⟨_, rfl⟩
          obtain ⟨M, hM⟩ : ∃ M, M = mid b (m + 4) (m + 8) := ⟨_, rfl⟩
          have HPL : Hid (P.length = n) := by rw [hP]; unfold Hid; rw [mid_length (by have := HRL2.out; have := HNL.out; omega)]; omega
          have HPB : Hid (∀ x ∈ P, x < 256) := fun x hx => HBB.out x (by rw [hP] at hx; exact List.mem_of_mem_drop (List.mem_of_mem_take hx))
          have HMB : Hid (∀ x ∈ M, x < 256) := fun x hx => HBB.out x (by rw [hM] at hx; exact List.mem_of_mem_drop (List.mem_of_mem_take hx))
          have HPS : Hid (∀ u, Below w.heap.size w u → Bs u lo hi (.slice Ap n (c - (m + 8))) P) := fun u hu => by
            have h := HAP.out _ _ _ _ (HV.out.below hu hhi)
            rw [show m + (n + 8) - (m + 8) = n by omega] at h
            rw [hP]
            unfold mid
            rw [show m + (n + 8) - (m + 8) = n by omega]
            exact h
          have HMS : Hid (∀ u, Below w.heap.size w u → Bs u lo hi (.slice As 4 (c - (m + 4))) M) := fun u hu => by
            have h := HAS.out _ _ _ _ (HV.out.below hu hhi)
            rw [show m + 8 - (m + 4) = 4 by omega] at h
            rw [hM]
            unfold mid
            rw [show m + 8 - (m + 4) = 4 by omega]
            exact h
          have HSUM2 : Hid (whole1 (b.drop m) = if be4 (crc (be4 n ++ P)) = M then some P else none) := by rw [hP, hM]; exact HSUM.out
          have HB13 : Hid (Below w.heap.size w w3) := Ext.trans HB.out (Ext.trans HB1.out HX3.out)
          have HNB := Lib.hid (be4_length n)
          clear hown3 hb3 hP hM hrp1 HSUM
          go_wp2_with (at_builtin; refine wpList_addbytes rfl (.tmp 42) (.tmp 43) rfl w1.heap.size _ (be4 n) rfl HO3.out lo hi (.slice Ap n (c - (m + 8))) P rfl (HPS.out _ HB13.out) ?l1 HX3.out.size ?_)
          case l1 => have := HPL.out; have := HMN.out; rw [be4_length]; omega
          intro A5 c5 w5 hown5 hb5
          have HX5 : Hid (Ext w1 w5) := hb5 w1 HX3.out
          have HO5 := Lib.hid hown5
          clear hown5 hb5
          go_wp2_with fail
          refine (rsum_any _ _ _ (be4 n ++ P) w5 HO5.out.bs (fun x hx => by rcases List.mem_append.1 hx with hx | hx; exact be4_lt _ x hx; exact HPB.out x hx)).mono ?_
          rintro e w6 ⟨rfl, rfl⟩
          go_wp2_with fail
          refine (rword_any _ (crc_lt (fun x hx => by rcases List.mem_append.1 hx with hx | hx; exact be4_lt _ x hx; exact HPB.out x hx)) w5).mono ?_
          rintro e w6 ⟨v6, rfl, hown6, hb6⟩
          obtain ⟨S, hS⟩ : ∃ S, S = be4 (crc (be4 n ++ P)) := ⟨_, rfl⟩
          rw [← hS] at hown6
          have HSB : Hid (∀ x ∈ S, x < 256) := by rw [hS]; exact be4_lt _
          have HSL : Hid (S.length = 4) := by rw [hS]; exact be4_length _
          rw [← hS] at HSUM2
          obtain ⟨A6, c6, rfl, _, _, _, _⟩ := Sl.of_own hown6
          have HX6 : Hid (Ext w1 w6) := Ext.trans HX5.out hb6
          have HO6 : Hid (Own w5.heap.size S (.slice A6 S.length c6) w6) := hown6
          have HB16 : Hid (Below w.heap.size w w6) := Ext.trans HB.out (Ext.trans HB1.out HX6.out)
          clear hown6 hb6 hS
          go_upto_region 9 with (fail)
          have HC1 : Hid (∀ q, (convert 29 9 (.slice A6 S.length c6)).run Try.prog (w6.drewN q) = .ok (.string (tx S)) (w6.drewN q)) := fun q => cv (show Bs (w6.drewN q) _ _ _ _ from (HO6.out.bs))
          have HC2 : Hid (∀ q, (convert 29 9 (.slice As 4 (c - (m + 4)))).run Try.prog (w6.drewN q) = .ok (.string (tx M)) (w6.drewN q)) := fun q => cv (show Bs (w6.drewN q) _ _ _ _ from (HMS.out w6 HB16.out))
          by_cases hSM : S = M
          · have heq : ((tx S).toList == (tx M).toList) = true := by rw [hSM]; simp
            have HNX := Lib.hid (HU.out.next (by rw [HSUM2.out, if_pos hSM]))
            clear hSM
            have hc1 := HC1.out
            have hc2 := HC2.out
            have hrs := HRS.out
            go_quiet (fail)
            clear hc1 hc2 hrs
            obtain ⟨w7, hw7⟩ : ∃ w7, w7 = w6.drewN nq := ⟨_, rfl⟩
            have HX67 : Hid (Ext w6 w7) := by rw [hw7]; exact ⟨rfl, rfl, rfl, Nat.le_refl _, fun _ _ => rfl⟩
            rw [← hw7]
            clear hw7
            have HB17 : Hid (Below w.heap.size w w7) := Ext.trans HB16.out HX67.out
            have HF7 := Lib.hid (HF.out.below (Ext.trans (Ext.trans HB1.out HX6.out) HX67.out))
            have hcl : cnt ≤ b.length := by have := frs_len b; have := HNX.out.1; omega
            have htl : ((frs b 0).take cnt).length = cnt := by rw [List.length_take]; have := HNX.out.1; omega
            have HTL := Lib.hid htl
            have HCL := Lib.hid hcl
            have hat := HF7.out.at_
            rw [htl] at hat
            have HAT := Lib.hid hat
            obtain ⟨i1, hi1, y1, y2, y3⟩ := info_parts tintinfo
            have HI1 := Lib.hid hi1
            obtain ⟨i2, hi2, z1, z2, z3⟩ := info_parts tbytesinfo
            have HI2 := Lib.hid hi2
            clear hcl htl hat hi1 hi2
            go_wp2_with (at_builtin; refine wpList_pushrow rfl (.tmp 57) (.tmp 59) 69 rfl w.heap.size 3 i1 (.int .i64 0) 8 Try.underlying69 HI1.out y1 y2 y3 rfl _ _ _ rfl HAT.out _ rfl _ rfl rfl ?k1 ?k2 HB17.out.size ?_)
            case k1 => have := HCL.out; have := HLEN.out; unfold maxLen; omega
            case k2 => have := HCL.out; have := HLEN.out; omega
            intro A8 c8 w8 hown8 hg8
            have HB78 : Hid (Below w.heap.size w7 w8) := grown_below hg8 (fun g hg => (row_lt HAT.out g hg).1) HB17.out.size
            have HB18 : Hid (Below w.heap.size w w8) := HB17.out.trans HB78.out
            obtain ⟨vs, hvs, hpay⟩ := HF7.out.pay
            rw [HTL.out] at hvs
            have hvs8 := own_while hvs HAT.out (by decide) hg8
            have hpay8 : ∀ (i : Nat) (v : Value), vs[i]? = some v → ∃ x, ((frs b 0).take cnt)[i]? = some x ∧ Own w.heap.size x.2 v w8 := fun i v hv => by
              obtain ⟨x, hx, ho⟩ := hpay i v hv
              exact ⟨x, hx, own_while ho HAT.out (by decide) hg8⟩
            have HVS8 := Lib.hid hvs8
            have HPAY8 := Lib.hid hpay8
            have HOWN8 := Lib.hid hown8
            clear hvs hpay hvs8 hpay8 hown8 hg8
            go_wp2_with (at_builtin; refine wpList_addbytes rfl (.const (.slice none 0 0)) (.tmp 62) rfl w8.heap.size _ [] rfl (Own.nil _ w8) lo hi (.slice Ap n (c - (m + 8))) P rfl (HPS.out _ HB18.out) ?k3 (Nat.le_refl _) ?_)
            case k3 => have := HPL.out; have := HMN.out; simp; omega
            intro A9 c9 w9 hown9 hb9
            have HX9 : Hid (Ext w8 w9) := hb9 w8 (Below.refl _ _)
            have HO9 : Hid (Own w8.heap.size P (.slice A9 P.length c9) w9) := hown9
            have HB19 : Hid (Below w.heap.size w w9) := Ext.trans HB18.out HX9.out
            have HVS9 := Lib.hid (own_below HVS8.out HX9.out (Nat.le_refl _))
            clear hown9 hb9
            go_wp2_with (at_builtin; refine wpList_pushrow rfl (.tmp 61) (.tmp 64) 70 rfl w.heap.size 29 i2 (.slice none 0 0) 24 Try.underlying70 HI2.out z1 z2 z3 rfl _ _ _ rfl HVS9.out _ rfl _ rfl rfl ?k4 ?k5 HB19.out.size ?_)
            case k4 => have := HCL.out; have := HLEN.out; unfold maxLen; omega
            case k5 => have := HCL.out; have := HLEN.out; omega
            intro A10 c10 w10 hown10 hg10
            have HB910 : Hid (Below w.heap.size w9 w10) := grown_below hg10 (fun g hg => (row_lt HVS9.out g hg).1) HB19.out.size
            have htk : (frs b 0).take (cnt + 1) = (frs b 0).take cnt ++ [(m, P)] := by rw [List.take_add_one, HNX.out.2.1]; rfl
            have HFIN : Hid (Fr w10 w.heap.size ((frs b 0).take (cnt + 1)) (.slice A8 (cnt + 1) c8) (.slice A10 (cnt + 1) c10)) := by
              have hl1 : ((frs b 0).take (cnt + 1)).length = cnt + 1 := by rw [htk, List.length_append, HTL.out]; rfl
              have hvl : vs.length = cnt := HVS8.out.1.trans (by omega)
              refine ⟨?_, vs ++ [.slice A9 P.length c9], ?_, fun i v hv => ?_⟩
              · rw [hl1, htk, iv, List.map_append]
                exact own_while (own_below HOWN8.out HX9.out (Nat.le_refl _)) HVS9.out (by decide) hg10
              · rw [hl1]; exact hown10
              · rw [htk]
                rcases Nat.lt_or_ge i cnt with hi | hi
                · rw [List.getElem?_append_left (by omega)] at hv
                  obtain ⟨x, hx, ho⟩ := HPAY8.out i v hv
                  exact ⟨x, by rw [List.getElem?_append_left (by rw [HTL.out]; exact hi)]; exact hx, own_while (ho.below HX9.out) HVS9.out (by decide) hg10⟩
                · have hic : i = cnt := by
                    have := (List.getElem?_eq_some_iff.1 hv).1
                    simp at this
                    omega
                  subst hic
                  rw [List.getElem?_append_right (by omega), hvl, Nat.sub_self] at hv
                  simp at hv
                  subst hv
                  exact ⟨(m, P), by rw [List.getElem?_append_right (by rw [HTL.out]; omega), HTL.out]; simp, own_while (ownsRow_base HO9.out HB18.out.size) HVS9.out (by decide) hg10⟩
            have HB110 : Hid (Below w.heap.size w w10) := HB19.out.trans HB910.out
            clear hown10 hg10 htk
            go_wp2_with fail
            go_roundw
            case rel => exact ⟨cnt + 1, m + (n + 8), A8, A10, c8, c10, by have := HRL2.out; have := HNL.out; omega, rfl, rfl, by have := HMN.out; simp; omega, by have := HNX.out.2.2; rw [HPL.out] at this; exact this, HFIN.out, HB110.out⟩
            case measure => have := HRL2.out; have := HNL.out; simp [intOf]; omega
          · have heq : ((tx S).toList == (tx M).toList) = false := tx_ne HSB.out HMB.out hSM
            have HST := Lib.hid (HU.out.stop (by rw [HSUM2.out, if_neg hSM]))
            clear hSM
            have hc1 := HC1.out
            have hc2 := HC2.out
            have hrs := HRS.out
            go_quiet (fail)
            clear hc1 hc2 hrs
            go_wp2_with fail
            go_ret3
            have hfr := HF.out.below (Ext.trans HB1.out HX6.out)
            rw [HST.out.1, List.take_length] at hfr
            exact ⟨A1, c1, A2, c2, by rw [HST.out.1, HST.out.2]; rfl, hfr.below ⟨rfl, rfl, rfl, Nat.le_refl _, fun _ _ => rfl⟩, Ext.trans HB16.out ⟨rfl, rfl, rfl, Nat.le_refl _, fun _ _ => rfl⟩⟩
end Go.Proofs.Ytgflhbpmkcggnaa.Fm

/- The document's own: what is odd; one frame. -/
namespace Go.Proofs.Ytgflhbpmkcggnaa.Fm
open Go.ChangeShapes Go.WideShapes Go.ChangeAt Go.RowKit

set_option maxRecDepth 100000 in
set_option maxHeartbeats 4000000 in
theorem rodd_any {w : World} {lo hi : Nat} {v : Value} {b : List Nat} (hv : Bs w lo hi v b) (hhi : hi ≤ w.heap.size) (hb : ∀ x ∈ b, x < 256) (hlen : b.length ≤ 1099511627776) :
    Calls Try.prog 43 #[v] w fun e w' => e = .returned (.bool (odd b)) ∧ Below w.heap.size w w' := by
  have HC := Lib.hid (frames_any hv hhi hb hlen)
  have HV := Lib.hid hv
  obtain ⟨A, c, rfl, q1, q2, q3, _⟩ := hv
  have hfe := fend_le b
  obtain ⟨k, hk⟩ : ∃ k, k = fend b 0 := ⟨_, rfl⟩
  rw [← hk] at hfe
  obtain ⟨A2, hA2, hrun⟩ := drop_run A b.length c k hfe q1
  obtain ⟨l, hl⟩ : ∃ l, l = b.drop k := ⟨_, rfl⟩
  have hll : b.length - k = l.length := by rw [hl]; simp
  have hlb : ∀ x ∈ l, x < 256 := fun x hx => hb x (List.mem_of_mem_drop (by rw [← hl]; exact hx))
  have HL := Lib.hid hlb
  have HLL := Lib.hid (show l.length ≤ 1099511627776 by omega)
  rw [hll] at hrun
  have HR : Hid (∀ W lo hi, Bs W lo hi (.slice A b.length c) b → Bs W lo hi (.slice A2 l.length (c - k)) l) := by
    intro W lo hi h
    have h2 := hA2 W lo hi b h
    rw [← hl, hll] at h2
    exact h2
  have HO : Hid (odd b = (decide (8 ≤ l.length) && (decide (claimed l = 0) || decide (claimed l ≤ l.length)))) := by unfold Hid odd; rw [← hk, ← hl]
  have HCK : Hid (∃ N, Calls Try.prog 41 #[.slice A b.length c] w fun e w' => (∃ A1 c1 A2 c2, e = .returned (.tuple #[.slice A1 N c1, .slice A2 N c2, .int .i64 (k : Int)])) ∧ Below w.heap.size w w') := ⟨_, HC.out.mono fun e w' ⟨A1, c1, A2, c2, he, _, hb⟩ => ⟨⟨A1, c1, A2, c2, by rw [hk]; exact he⟩, hb⟩⟩
  clear hb hlb hA2 hk hl q1 q2 q3 hfe HC hlen hll
  obtain ⟨N, hck⟩ := HCK.out
  have HCN := Lib.hid hck
  clear hck HCK
  by_cases h8 : l.length < 8
  · have hd : decide ((l.length : Int) < 8) = true := by simp; omega
    have ho : odd b = false := by rw [HO.out, decide_eq_false (p := 8 ≤ l.length) (by omega)]; rfl
    rw [ho]
    clear h8
    go_enter Try.func43, Try.ntmps43
    go_wp2_with fail
    refine HCN.out.mono ?_
    rintro e w1 ⟨⟨A1, c1, A3, c3, rfl⟩, hb1⟩
    have HB := Lib.hid hb1
    clear hb1
    go_wp2_with fail
    go_ret
    exact ⟨rfl, HB.out⟩
  · have hd : decide ((l.length : Int) < 8) = false := by simp; omega
    obtain ⟨n, hn⟩ : ∃ n, n = num4 (l.take 4) := ⟨_, rfl⟩
    have ho : odd b = (decide (claimed l = 0) || decide (claimed l ≤ l.length)) := by rw [HO.out, decide_eq_true (p := 8 ≤ l.length) (by omega)]; rfl
    have hcl : claimed l = fsize n := by rw [hn]; exact claimed_may (by omega)
    obtain ⟨g, hg⟩ : ∃ g, (decide (1 ≤ (n : Int)) && decide ((n : Int) ≤ 1048576)) = g := ⟨_, rfl⟩
    have HMAY : Hid (∀ w, Calls Try.prog 66 #[.int .i64 (n : Int)] w fun e w' => e = .returned (.bool g) ∧ w = w') := fun w => by
      have h := rmay_any (n : Int) w
      rw [hg] at h
      exact h
    have HLN : Hid (∀ w1 : World, Bs w1 lo hi (.slice A2 l.length (c - k)) l → Calls Try.prog 65 #[.slice A2 l.length (c - k)] w1 fun e w' => e = .returned (.int .i64 (n : Int)) ∧ Below w1.heap.size w1 w') := fun w1 h => by rw [hn]; exact rlength_any _ _ _ l w1 h HL.out (by omega)
    have hn32 : n < 4294967296 := by rw [hn]; exact num4_lt (by simp; omega) (fun x hx => HL.out x (List.mem_of_mem_take hx))
    clear h8 hn HO
    cases g with
    | false =>
      have hr : odd b = true := by
        rw [ho, hcl, show fsize n = 0 by unfold fsize; rw [if_neg (by simp at hg; omega)]]; simp
      rw [hr]
      clear hg ho hcl hr
      go_enter Try.func43, Try.ntmps43
      go_wp2_with fail
      refine HCN.out.mono ?_
      rintro e w1 ⟨⟨A1, c1, A3, c3, rfl⟩, hb1⟩
      have HB := Lib.hid hb1
      have HR1 := Lib.hid (HR.out _ _ _ (HV.out.below hb1 hhi))
      clear hb1
      go_wp2_with fail
      refine (HLN.out w1 HR1.out).mono ?_
      rintro e w2 ⟨rfl, hb2⟩
      have HB2 := Lib.hid (HB.out.trans (hb2.mono HB.out.size))
      clear hb2
      go_wp2_with fail
      refine (HMAY.out _).mono ?_
      rintro e w3 ⟨rfl, rfl⟩
      go_wp2_with fail
      go_ret
      exact ⟨rfl, HB2.out⟩
    | true =>
      obtain ⟨z, hz⟩ : ∃ z, decide (8 + (n : Int) ≤ (l.length : Int)) = z := ⟨_, rfl⟩
      have hr : odd b = z := by
        rw [ho, hcl, show fsize n = n + 8 by unfold fsize; rw [if_pos (by simp at hg; omega)], ← hz, Bool.eq_iff_iff]
        simp; omega
      rw [hr]
      clear hg ho hcl hr
      go_enter Try.func43, Try.ntmps43
      go_wp2_with fail
      refine HCN.out.mono ?_
      rintro e w1 ⟨⟨A1, c1, A3, c3, rfl⟩, hb1⟩
      have HB := Lib.hid hb1
      have HR1 := Lib.hid (HR.out _ _ _ (HV.out.below hb1 hhi))
      clear hb1
      go_wp2_with fail
      refine (HLN.out w1 HR1.out).mono ?_
      rintro e w2 ⟨rfl, hb2⟩
      have HB2 := Lib.hid (HB.out.trans (hb2.mono HB.out.size))
      clear hb2
      go_wp2_with fail
      refine (HMAY.out _).mono ?_
      rintro e w3 ⟨rfl, rfl⟩
      go_wp2_with fail
      go_ret
      exact ⟨by first | rfl | (rw [← hz]; simp), HB2.out⟩
end Go.Proofs.Ytgflhbpmkcggnaa.Fm

/- The document's own: one frame. -/
namespace Go.Proofs.Ytgflhbpmkcggnaa.Fm
open Go.ChangeShapes Go.WideShapes Go.ChangeAt Go.RowKit

theorem one_frs {b : List Nat} : one b = if (frs b 0).length = 1 ∧ fend b 0 = b.length then (frs b 0)[0]?.map Prod.snd else none := by
  unfold one
  cases hw : whole1 b with
  | none =>
    have h0 : whole1 (b.drop 0) = none := by rw [List.drop_zero]; exact hw
    rw [frs_none h0]; simp
  | some p =>
    have h0 : whole1 (b.drop 0) = some p := by rw [List.drop_zero]; exact hw
    have hs := whole1_spec hw
    rw [frs_some h0, fend_some h0, Nat.zero_add]
    by_cases hl : b.length ≤ p.length + 8
    · have hn : whole1 (b.drop (p.length + 8)) = none := by rw [List.drop_eq_nil_of_le hl]; exact whole1_nil
      simp only [hl, if_true, frs_none hn, fend_none hn]
      rw [if_pos ⟨rfl, by omega⟩]; rfl
    · simp only [hl, if_false]
      rw [if_neg]
      rintro ⟨h1, h2⟩
      cases hn : whole1 (b.drop (p.length + 8)) with
      | none => rw [fend_none hn] at h2; omega
      | some q => rw [frs_some hn] at h1; simp at h1
theorem row_at {w : World} {B n c : Nat} {A : Option Addr} {t : TypeId} {xs : List Value} (h : w.ownsRow B t 1 (.slice A n c) n xs) {k : Nat} (hk : k < xs.length) : ∃ b, A = some ⟨b, 0, none⟩ ∧ w.cell? ⟨b, k, none⟩ = some xs[k] := by
  rcases h.2 with ⟨e, h0⟩ | ⟨g, cap, cur, e, _, hh, hn, _, hc, ht⟩
  · have := h.1; omega
  · injection e with e1 e2 e3
    subst e1 e3
    refine ⟨g, rfl, ?_⟩
    rw [h.cellAt k (by have := h.1; omega), List.getElem?_eq_getElem hk]

end Go.Proofs.Ytgflhbpmkcggnaa.Fm

/- The reference's Batches. -/
namespace Go.Proofs.Ytgflhbpmkcggnaa
open Go.ChangeShapes Go.WideShapes Go.ChangeAt Go.RowKit
attribute [local go_sem] Oper.semAt_some

/-- What the reference's Batches answers. -/
def RBatsAns (w : World) (b : List Nat) (R : List (Nat × Bat)) (e : Ending) (w' : World) : Prop :=
  ∃ (X : List Bx) (A : Option Addr) (c : Nat), X.map Bx.bat = R.map Prod.snd ∧ e = .returned (.tuple #[.slice A X.length c, .int .i64 (endAt 0 R R.length : Int), .bool (wellB b R)]) ∧ Bts w' 0 w'.heap.size A X ∧ Ext w w'
/-- Between two rounds. -/
structure RBatsI (w2 : World) (R : List (Nat × Bat)) (k : Nat) (A : Option Addr) (c : Nat) (X : List Bx) (u : World) : Prop where
  map : X.map Bx.bat = (R.take k).map Prod.snd
  kr : k ≤ R.length
  rbs : Rbs w2.heap.size (.slice A X.length c) X u
  ext : Ext w2 u
theorem RBatsI.len {w2 : World} {R : List (Nat × Bat)} {k : Nat} {A : Option Addr} {c : Nat} {X : List Bx} {u : World} (h : RBatsI w2 R k A c X u) : X.length = k := by
  have h1 := congrArg List.length h.map
  rw [List.length_map, List.length_map, List.length_take] at h1
  have := h.kr
  omega

set_option maxRecDepth 100000 in
set_option maxHeartbeats 16000000 in
theorem rbatches_any {w : World} {lo hi : Nat} {v : Value} {b : List Nat} {R : List (Nat × Bat)} (hv : Bs w lo hi v b) (hhi : hi ≤ w.heap.size) (hb : ∀ x ∈ b, x < 256) (hlen : b.length ≤ 1000000000000) (hR : Batl (Fm.frs b 0) 0 R) :
    Calls Try.prog 20 #[v] w (RBatsAns w b R) := by
  have HFR := Lib.hid (Fm.frames_any hv hhi hb (by omega))
  have HV := Lib.hid hv
  have HHI := Lib.hid hhi
  have HBB := Lib.hid hb
  have HBL := Lib.hid hlen
  have HRR := Lib.hid hR
  obtain ⟨A, c, rfl, _, _, _, _⟩ := hv
  have hnI : ((Fm.frs b 0).length : Int) ≤ 1000000000000 := by have := Fm.frs_len b; omega
  obtain ⟨n, hn⟩ : ∃ n, n = (Fm.frs b 0).length := ⟨_, rfl⟩
  rw [← hn] at hnI
  have HNN := Lib.hid hn
  clear hhi hb hlen hR
  go_enter Try.func20, Try.ntmps20
  go_wp2_with fail
  refine HFR.out.mono ?_
  rintro e w2 ⟨A1, c1, A2, c2, rfl, hfr, hx2⟩
  rw [← hn] at hfr ⊢
  obtain ⟨vs, hrow, hpay⟩ := hfr.pay
  have HAT := Lib.hid hfr.at_
  have HROW : Hid (w2.ownsRow w.heap.size 29 1 (.slice A2 n c2) n vs) := by have h := hrow; rw [← hn] at h; exact h
  have HPAY := Lib.hid hpay
  have HX2 : Hid (Ext w w2) := hx2
  have HVL : Hid (vs.length = n) := by have := HROW.out.1; unfold Hid; simpa using this
  obtain ⟨fe, hfe⟩ : ∃ fe, fe = Fm.fend b 0 := ⟨_, rfl⟩
  rw [← hfe]
  have HFE := Lib.hid hfe
  clear hfr hrow hpay hx2 HFR hn hfe
  go_wp2_with fail
  go_loopw [8, 9] (fun x a wr => ∃ (k : Nat) (V : Option Addr) (vc : Nat) (X : List Bx), a = .int .i64 (k : Int) ∧ x = .slice V X.length vc ∧ k ≤ n ∧ Hid (RBatsI w2 R k V vc X wr)) (fun _ a _ => n - (intOf a).toNat)
  case atStart => exact ⟨0, none, 0, [], rfl, rfl, by omega, by simp, Nat.zero_le _, Rbs.nil _ _, Ext.refl _⟩
  case round =>
    obtain ⟨k, V, vc, X, rfl, rfl, hm, HI⟩ := hrel
    by_cases hlt : k < n
    rotate_left
    · have d : decide ((k : Int) < (n : Int)) = false := decide_eq_false (by omega)
      have dn : decide (k < n) = false := decide_eq_false hlt
      have HKR : Hid (R.length = n) := by have h1 := HRR.out.le; have h2 := HI.out.kr; have h3 := HNN.out; unfold Hid; omega
      have HXR : Hid (Ext w wr) := Ext.trans HX2.out HI.out.ext
      have HOD := Lib.hid (Fm.rodd_any (HV.out.below HXR.out HHI.out) (Nat.le_trans HHI.out HXR.out.size) HBB.out (by have := HBL.out; omega))
      have HK : Hid (k = R.length) := by have h1 := HKR.out; have h2 := HI.out.kr; unfold Hid; omega
      clear hlt hm
      go_wp2_with fail
      refine HOD.out.mono ?_
      rintro e w9 ⟨rfl, hx9⟩
      have HX9 : Hid (Ext wr w9) := hx9
      clear hx9
      obtain ⟨N, hN⟩ : ∃ N, N = X.length := ⟨_, rfl⟩
      rw [← hN]
      have HNX := Lib.hid hN
      clear hN
      go_wp2_with fail
      refine ⟨rfl, _, results_tmp3 rfl _ _ _, X, V, vc, ?_, ?_, (HI.out.rbs.ext HX9.out).bts, Ext.trans HXR.out HX9.out⟩
      · have h1 := HI.out.map
        rw [HK.out, List.take_of_length_le (Nat.le_refl _)] at h1
        exact h1
      · have h1 := (HRR.out.ends (chain_frs b)).1 (by rw [HKR.out, HNN.out])
        have h2 : wellB b R = !Fm.odd b := by unfold wellB; rw [decide_eq_true (by rw [HKR.out, HNN.out]), Bool.true_and]
        rw [h1, h2, ← HNX.out, ← HFE.out]
        rfl
    have d : decide ((k : Int) < (n : Int)) = true := decide_eq_true (by omega)
    have dn : decide (k < n) = true := decide_eq_true hlt
    have hkv : k < vs.length := by have := HVL.out; omega
    obtain ⟨b2, hA2, hc2⟩ := Fm.row_at HROW.out hkv
    obtain ⟨y, hy, hpo⟩ := HPAY.out k vs[k] (List.getElem?_eq_getElem hkv)
    subst hA2
    obtain ⟨m', p⟩ := y
    have HY := Lib.hid hy
    have HPO : Hid (Own w.heap.size p vs[k] w2) := hpo
    obtain ⟨vk, hvk⟩ : ∃ vk, vk = vs[k] := ⟨_, rfl⟩
    rw [← hvk] at hc2 HPO
    obtain ⟨Ak, ck, rfl⟩ := HPO.out.slice
    have HMEM := Lib.hid (Fm.frF_mem b _ _ _ (List.mem_of_getElem? hy))
    have HPB : Hid (∀ x ∈ p, x < 256) := Fm.whole1_lt HMEM.out fun x hx => HBB.out x (List.mem_of_mem_drop hx)
    have HPL : Hid (p.length ≤ 1048576) := Fm.frs_pay hy
    have q0 := ext_cell HI.out.ext hc2
    have n1 : (0 : Int) ≤ (k : Int) := by omega
    have n2 : (k : Int) < (n : Int) := by omega
    have HRD := Lib.hid (read13_any ((HPO.out.below HI.out.ext).bs) (Nat.le_refl _) HPB.out HPL.out)
    have HLT := Lib.hid (And.intro hlt hm)
    have HN12 := Lib.hid (And.intro n1 n2)
    clear hvk hy hpo hkv hc2 d dn
    go_wp2_with fail
    refine HRD.out.mono ?_
    clear q0 HRD
    -- where it stops
    have HSTOP : Hid (k = R.length → ∀ u (X' : List Bx) V' vc', Ext wr u → Rbs w2.heap.size (.slice V' X'.length vc') X' u → X'.map Bx.bat = (R.take k).map Prod.snd → RBatsAns w b R (.returned (.tuple #[.slice V' X'.length vc', .int .i64 (m' : Int), .bool false])) u) := fun hk u X' V' vc' hu hr hmap => by
      have h1 : R.length < (Fm.frs b 0).length := by have := HNN.out; have := HLT.out.1; omega
      obtain ⟨_, y2, hy2, h3⟩ := (HRR.out.ends (chain_frs b)).2 h1
      have h4 : y2 = (m', p) := by
        have h5 := HY.out
        rw [hk, hy2] at h5
        injection h5
      rw [h4] at h3
      have h6 : wellB b R = false := by unfold wellB; rw [decide_eq_false (by omega), Bool.false_and]
      refine ⟨X', V', vc', ?_, ?_, hr.bts, Ext.trans HX2.out (Ext.trans HI.out.ext hu)⟩
      · rw [hk, List.take_of_length_le (Nat.le_refl _)] at hmap; exact hmap
      · rw [h6, ← h3]
    have HAT2 : Hid (∃ b1, A1 = some ⟨b1, 0, none⟩ ∧ ∀ u, Ext wr u → u.cell? ⟨b1, k, none⟩ = some (.int .i64 (m' : Int))) := by
      have hl : (Fm.iv (Fm.frs b 0)).length = n := by rw [HNN.out]; simp [Fm.iv]
      have hk1 : k < (Fm.iv (Fm.frs b 0)).length := by rw [hl]; exact HLT.out.1
      have hat := HAT.out
      rw [← HNN.out] at hat
      obtain ⟨b1, e1, hc⟩ := Fm.row_at hat hk1
      refine ⟨b1, e1, fun u hu => ?_⟩
      have hc' := ext_cell (Ext.trans HI.out.ext hu) hc
      rw [hc']
      have hy := HY.out
      obtain ⟨hk2, e2⟩ := List.getElem?_eq_some_iff.1 hy
      simp [Fm.iv, e2]
    obtain ⟨b1, hA1, hat1⟩ := HAT2.out
    subst hA1
    have HAT1 := Lib.hid hat1
    clear hat1 HAT2 HAT
    obtain ⟨N, hN⟩ : ∃ N, N = X.length := ⟨_, rfl⟩
    have HNX := Lib.hid hN
    rw [← hN]
    clear hN
    rintro e w3 ⟨hx3, (⟨⟨xi, eA, ec, lx⟩, his, rfl, hbm⟩ | ⟨hno, xn, xA, xk, xc, rfl⟩)⟩
    · have HX3 : Hid (Ext wr w3) := hx3
      have HIS := Lib.hid his
      have HBM := Lib.hid hbm
      clear his hbm hx3
      dsimp only [Bx.val]
      go_upto_region 7 with (fail)
      obtain ⟨w4, hw4⟩ : ∃ w4, w4 = w3.alloc (.cells #[.int .i64 xi, .slice eA lx.length ec] 24) := ⟨_, rfl⟩
      rw [← hw4]
      have HX4 : Hid (Ext w3 w4) := by rw [hw4]; exact ext_alloc _ _
      have HY4 : Hid (w4.heap[w3.heap.size]? = some (.cells #[.int .i64 xi, .slice eA lx.length ec] 24 (0, 0))) := by rw [hw4]; exact heap_at _ _ rfl
      have HX34 : Hid (Ext wr w4) := Ext.trans HX3.out HX4.out
      clear hw4
      have HRBS : Hid (Rbs w2.heap.size (.slice V N vc) X w4) := by have h := HI.out.rbs.ext HX34.out; rw [← HNX.out] at h; exact h
      have HBM4 : Hid (Bm w4 wr.heap.size w3.heap.size ⟨xi, eA, ec, lx⟩) := HBM.out.ext HX4.out (Nat.le_refl _)
      have hxi : 1 ≤ xi := HIS.out.1.1
      have y0 := cell_of HY4.out (k := 0) rfl
      have y1 := cell_of HY4.out (k := 1) rfl
      -- the next round
      have HNEXT : Hid (lastAt 0 R k < xi → ∃ r, R[k]? = some r ∧ r.2 = (⟨xi, lx.map Prod.fst⟩ : Bat)) := fun hd => by
        rcases Nat.lt_or_ge k R.length with h | h
        · obtain ⟨r, hr⟩ : ∃ r, R[k]? = some r := ⟨_, List.getElem?_eq_getElem h⟩
          obtain ⟨_, h2, _⟩ := HRR.out.at_ hr HY.out
          exact ⟨r, hr, h2.unique HIS.out⟩
        · have hk' : k = R.length := Nat.le_antisymm HI.out.kr h
          have h3 := HRR.out.stop (by rw [← hk']; exact HY.out) _ HIS.out
          rw [← hk'] at h3
          exact absurd hd h3
      have HEND : Hid (¬ lastAt 0 R k < xi → k = R.length) := fun hd => by
        rcases Nat.lt_or_ge k R.length with h | h
        · obtain ⟨r, hr⟩ : ∃ r, R[k]? = some r := ⟨_, List.getElem?_eq_getElem h⟩
          obtain ⟨_, h2, h3⟩ := HRR.out.at_ hr HY.out
          rw [h2.unique HIS.out] at h3
          exact absurd h3 hd
        · exact Nat.le_antisymm HI.out.kr h
      by_cases hk0 : k = 0
      · have d2 : decide ((0 : Int) < (N : Int)) = false := decide_eq_false (by have := HI.out.len; have := HNX.out; omega)
        have d2n : decide (0 < N) = false := decide_eq_false (by have := HI.out.len; have := HNX.out; omega)
        have HGO := Lib.hid (HNEXT.out (by rw [hk0]; exact hxi))
        clear hk0 hxi
        refine flow (by kernel_rfl) [Is (.bool true), Is (.bool false), Is (.bool false), Is (.slice V N vc), Is (.int .i64 (N : Int)), Is (.bool false), Is (.bool false), Is undef, Is undef, Is undef, Is undef, Is undef, Is undef, Is undef, Is undef, Is undef, Is undef, Is (.bool false), Is (.bool false)] (by kernel_rfl) (by kernel_rfl) ?mono (fun f1 => ?obl) ?fin
        case mono =>
          simp only [List.forall_mem_cons, List.not_mem_nil, false_imp_iff, implies_true, and_true]
          exact ⟨.is _, .is _, .is _, .is _, .is _, .is _, .is _, .is _, .is _, .is _, .is _, .is _, .is _, .is _, .is _, .is _, .is _, .is _, .is _⟩
        case fin =>
          intro g1 u hu hg
          simp only [puts, Act.put, List.setIfInBounds_toArray, List.set_cons_zero, List.set_cons_succ]
          have h18 : g1 18 = .bool false := hg 18 (by decide)
          rw [h18]
          clear h18
          have hxu : Ext w4 u := Ext.trans (Ext.drew w4) hu
          have HXU := Lib.hid hxu
          have HYU := Lib.hid (ext_heap hxu HY4.out)
          have HRU := Lib.hid (HRBS.out.ext hxu)
          have HBU := Lib.hid (HBM4.out.ext hxu HX4.out.size)
          have HOWN : Hid (∀ g, (Value.slice V N vc).ownBlock = some g → g < wr.heap.size) := fun g hg => by have h := HI.out.rbs.row; rw [← HNX.out] at h; exact (rowN_lt h g hg).2.1
          clear hg hu hxu y0 y1
          have y0 := cell_of HYU.out (k := 0) rfl
          have y1 := cell_of HYU.out (k := 1) rfl
          have HLW : Hid (w3.heap.size ≤ u.heap.size ∧ w2.heap.size ≤ u.heap.size) := by have h1 := (Ext.trans HX4.out HXU.out).size; have h2 := HI.out.ext.size; have h3 := HX3.out.size; exact ⟨h1, by omega⟩
          have HNL : Hid (X.length ≤ 1000000000000) := by have h1 := HI.out.len; have h2 := HLT.out.1; unfold Hid; omega
          rw [HNX.out] at HRU HOWN ⊢
          obtain ⟨N1, hN1⟩ : ∃ N1, N1 = X.length + 1 := ⟨_, rfl⟩
          have HN1 := Lib.hid hN1
          clear hN1
          go_wp2_with (at_builtin; refine wpList_pushb rfl (.tmp 56) (.tmp 58) rfl w2.heap.size _ X rfl (HRU.out.ext (ext_alloc _ _)) ⟨xi, eA, ec, lx⟩ u.heap.size rfl (heap_at _ _ rfl) ⟨wr.heap.size, w3.heap.size, Nat.le_trans HLW.out.1 (by simp), HBU.out.ext (ext_alloc _ _) HLW.out.1, fun g hg => .inl (HOWN.out g hg)⟩ HNL.out (Nat.le_trans HLW.out.2 (by simp)) ?_; rw [← HN1.out]; intro A5 c5 w5 hr5 _ hb5; have HR5 := Lib.hid hr5; have HX5 : Hid (Ext w2 w5) := hb5 w2 (Ext.trans (Ext.trans HI.out.ext (Ext.trans HX34.out HXU.out)) (ext_alloc _ _)); clear hr5 hb5)
          go_roundw
          case rel =>
            have hl1 : N1 = (X ++ [⟨xi, eA, ec, lx⟩] : List Bx).length := by rw [HN1.out]; simp
            refine ⟨k + 1, A5, c5, X ++ [⟨xi, eA, ec, lx⟩], by go_num, by rw [← hl1], HLT.out.1, ?_⟩
            obtain ⟨r, hr, h2⟩ := HGO.out
            refine Lib.hid ⟨?_, (List.getElem?_eq_some_iff.1 hr).1, by rw [← hl1]; exact HR5.out, HX5.out⟩
            rw [List.map_append, HI.out.map, List.take_add_one, hr]
            simp [h2, Bx.bat]
          case measure => have := HLT.out.1; simp [intOf]; omega
        case obl =>
          refine ⟨fun u hu hd => ?_, ?_⟩
          · go_simp
            exact ⟨Ext.refl _, rfl⟩
          refine ⟨fun u hu hd => ?_, ?_⟩
          · simp only [Act.put, List.setIfInBounds_toArray, List.set_cons_zero, List.set_cons_succ]
            have e0 : f1 0 = .bool true := hd 0 (by kernel_rfl)
            go_simp
            exact ⟨Ext.refl _, rfl⟩
          refine ⟨fun u hu hd => ?_, ?_⟩
          · simp only [Act.put, List.setIfInBounds_toArray, List.set_cons_zero, List.set_cons_succ]
            have e1 : f1 1 = .bool false := hd 1 (by kernel_rfl)
            go_simp
            exact ⟨Ext.refl _, rfl⟩
          refine ⟨fun u hu hd => ?_, ?_⟩
          · simp only [Act.put, List.setIfInBounds_toArray, List.set_cons_zero, List.set_cons_succ]
            have e2 : f1 2 = .bool false := hd 2 (by kernel_rfl)
            go_simp
            exact ⟨Ext.refl _, rfl⟩
          refine ⟨fun u hu hd => ?_, ?_⟩
          · simp only [Act.put, List.setIfInBounds_toArray, List.set_cons_zero, List.set_cons_succ]
            have e2 : f1 2 = .bool false := hd 2 (by kernel_rfl)
            have e3 : f1 3 = .slice V N vc := hd 3 (by kernel_rfl)
            go_simp
            exact ⟨Ext.refl _, rfl⟩
          refine ⟨fun u hu hd => ?_, ?_⟩
          · simp only [Act.put, List.setIfInBounds_toArray, List.set_cons_zero, List.set_cons_succ]
            have e2 : f1 2 = .bool false := hd 2 (by kernel_rfl)
            have e4 : f1 4 = .int .i64 (N : Int) := hd 4 (by kernel_rfl)
            go_simp
            exact ⟨Ext.refl _, rfl⟩
          refine ⟨fun u hu hd => ?_, ?_⟩
          · simp only [Act.put, List.setIfInBounds_toArray, List.set_cons_zero, List.set_cons_succ]
            have e2 : f1 2 = .bool false := hd 2 (by kernel_rfl)
            have e5 : f1 5 = .bool false := hd 5 (by kernel_rfl)
            go_simp
            exact ⟨Ext.refl _, rfl⟩
          refine ⟨fun u hu hd => ?_, ?_⟩
          · simp only [Act.put, List.setIfInBounds_toArray, List.set_cons_zero, List.set_cons_succ]
            have e6 : f1 6 = .bool false := hd 6 (by kernel_rfl)
            go_simp
            rfl
          refine ⟨fun u hu hd => ?_, ?_⟩
          · simp only [Act.put, List.setIfInBounds_toArray, List.set_cons_zero, List.set_cons_succ]
            have e6 : f1 6 = .bool false := hd 6 (by kernel_rfl)
            go_simp
            rfl
          refine ⟨fun u hu hd => ?_, ?_⟩
          · simp only [Act.put, List.setIfInBounds_toArray, List.set_cons_zero, List.set_cons_succ]
            have e6 : f1 6 = .bool false := hd 6 (by kernel_rfl)
            go_simp
            rfl
          refine ⟨fun u hu hd => ?_, ?_⟩
          · simp only [Act.put, List.setIfInBounds_toArray, List.set_cons_zero, List.set_cons_succ]
            have e6 : f1 6 = .bool false := hd 6 (by kernel_rfl)
            go_simp
            rfl
          refine ⟨fun u hu hd => ?_, ?_⟩
          · simp only [Act.put, List.setIfInBounds_toArray, List.set_cons_zero, List.set_cons_succ]
            have e6 : f1 6 = .bool false := hd 6 (by kernel_rfl)
            go_simp
            rfl
          refine ⟨fun u hu hd => ?_, ?_⟩
          · simp only [Act.put, List.setIfInBounds_toArray, List.set_cons_zero, List.set_cons_succ]
            have e6 : f1 6 = .bool false := hd 6 (by kernel_rfl)
            go_simp
            rfl
          refine ⟨fun u hu hd => ?_, ?_⟩
          · simp only [Act.put, List.setIfInBounds_toArray, List.set_cons_zero, List.set_cons_succ]
            have e6 : f1 6 = .bool false := hd 6 (by kernel_rfl)
            go_simp
            rfl
          refine ⟨fun u hu hd => ?_, ?_⟩
          · simp only [Act.put, List.setIfInBounds_toArray, List.set_cons_zero, List.set_cons_succ]
            have e6 : f1 6 = .bool false := hd 6 (by kernel_rfl)
            go_simp
            rfl
          refine ⟨fun u hu hd => ?_, ?_⟩
          · simp only [Act.put, List.setIfInBounds_toArray, List.set_cons_zero, List.set_cons_succ]
            have e6 : f1 6 = .bool false := hd 6 (by kernel_rfl)
            go_simp
            rfl
          refine ⟨fun u hu hd => ?_, ?_⟩
          · simp only [Act.put, List.setIfInBounds_toArray, List.set_cons_zero, List.set_cons_succ]
            have e6 : f1 6 = .bool false := hd 6 (by kernel_rfl)
            go_simp
            rfl
          refine ⟨fun u hu hd => ?_, ?_⟩
          · simp only [Act.put, List.setIfInBounds_toArray, List.set_cons_zero, List.set_cons_succ]
            have e2 : f1 2 = .bool false := hd 2 (by kernel_rfl)
            have e6 : f1 6 = .bool false := hd 6 (by kernel_rfl)
            go_simp
            exact ⟨Ext.refl _, rfl⟩
          refine ⟨fun u hu hd => ?_, ?_⟩
          · simp only [Act.put, List.setIfInBounds_toArray, List.set_cons_zero, List.set_cons_succ]
            have e2 : f1 2 = .bool false := hd 2 (by kernel_rfl)
            have e17 : f1 17 = .bool false := hd 17 (by kernel_rfl)
            go_simp
            exact ⟨Ext.refl _, rfl⟩
          trivial
      obtain ⟨m, hm1⟩ : ∃ m, k = m + 1 := ⟨k - 1, by omega⟩
      have hml : m < X.length := by have := HI.out.len; omega
      obtain ⟨px, hpx⟩ : ∃ px, X[m]? = some px := ⟨_, List.getElem?_eq_getElem hml⟩
      have HPX : Hid (px.idx = lastAt 0 R k) := by
        have h1 := congrArg (fun l => l[m]?) HI.out.map
        simp only [List.getElem?_map, hpx, Option.map_some] at h1
        rw [List.getElem?_take_of_lt (by omega)] at h1
        rw [hm1]
        cases hr : R[m]? with
        | none => rw [hr] at h1; cases h1
        | some r =>
          rw [hr] at h1
          simp only [Option.map_some, Option.some.injEq] at h1
          rw [lastAt_succ hr, ← h1]
          exact Lib.hid rfl
      have hbts : Bts w4 0 w4.heap.size V X := by have h := HRBS.out; rw [HNX.out] at h; exact h.bts
      obtain ⟨bo, oo, hVo⟩ := hbts.base (by omega)
      subst hVo
      have p0 := (hbts.get hpx).1
      have d2 : decide ((0 : Int) < (N : Int)) = true := decide_eq_true (by have := HNX.out; omega)
      have d2n : decide (0 < N) = true := decide_eq_true (by have := HNX.out; omega)
      have hnI' := hnI
      have hsub : IntKind.i64.wrap ((N : Int) - 1) = (m : Int) := by have := HNX.out; have := HI.out.len; have := HLT.out.1; rw [IntKind.wrap_i64]; omega
      clear hnI'
      have m1 : (0 : Int) ≤ (m : Int) := by omega
      have m2 : (m : Int) < (N : Int) := by have := HNX.out; omega
      clear hbts hpx hml hxi hm1 hk0
      by_cases hge : xi ≤ px.idx
      · have d3 : decide (xi ≤ px.idx) = true := decide_eq_true hge
        have HK := Lib.hid (HEND.out (by have := HPX.out; omega))
        clear hge
        refine flow (by kernel_rfl) [Is (.bool true), Is (.bool false), Is (.bool false), Is (.slice (some ⟨bo, oo, none⟩) N vc), Is (.int .i64 (N : Int)), Is (.bool true), Is (.bool true), Is (.slice (some ⟨bo, oo, none⟩) N vc), Is (.slice (some ⟨bo, oo, none⟩) N vc), Is (.int .i64 (N : Int)), Is (.int .i64 (m : Int)), Is (.pointer (some ⟨bo, oo + m * 2, none⟩)), Is (.pointer (some ⟨bo, oo + m * 2, none⟩)), Is (.int .i64 px.idx), Is (.pointer (some ⟨w3.heap.size, 0, none⟩)), Is (.int .i64 xi), Is (.bool true), Is (.bool true), Is (.bool true)] (by kernel_rfl) (by kernel_rfl) ?mono (fun f1 => ?obl) ?fin
        case mono =>
          simp only [List.forall_mem_cons, List.not_mem_nil, false_imp_iff, implies_true, and_true]
          exact ⟨.is _, .is _, .is _, .is _, .is _, .is _, .is _, .is _, .is _, .is _, .is _, .is _, .is _, .is _, .is _, .is _, .is _, .is _, .is _⟩
        case fin =>
          intro g1 u hu hg
          simp only [puts, Act.put, List.setIfInBounds_toArray, List.set_cons_zero, List.set_cons_succ]
          have h18 : g1 18 = .bool true := hg 18 (by decide)
          rw [h18]
          have HXX : Hid (Ext wr u) := Ext.trans HX34.out (Ext.trans (Ext.drew w4) hu)
          clear h18 hg hu y0 y1 p0
          go_wp2_with fail
          have a0 := HAT1.out _ HXX.out
          have n1 := HN12.out.1
          have n2 := HN12.out.2
          refine flow (by kernel_rfl) [Is (.slice (some ⟨bo, oo, none⟩) N vc), Is (.slice (some ⟨b1, 0, none⟩) n c1), Is (.int .i64 (k : Int)), Is (.pointer (some ⟨b1, k, none⟩)), Is (.int .i64 (m' : Int)), Is (.slice (some ⟨bo, oo, none⟩) N vc), Is (.int .i64 (m' : Int)), Is (.bool false)] (by kernel_rfl) (by kernel_rfl) ?mono2 (fun f1 => ?obl2) ?fin2
          case mono2 =>
            simp only [List.forall_mem_cons, List.not_mem_nil, false_imp_iff, implies_true, and_true]
            exact ⟨.is _, .is _, .is _, .is _, .is _, .is _, .is _, .is _⟩
          case fin2 =>
            intro g2 u2 hu2 hg2
            simp only [puts, Act.put, List.setIfInBounds_toArray, List.set_cons_zero, List.set_cons_succ]
            have h5 : g2 5 = .slice (some ⟨bo, oo, none⟩) N vc := hg2 5 (by decide)
            have h6 : g2 6 = .int .i64 (m' : Int) := hg2 6 (by decide)
            have h7 : g2 7 = .bool false := hg2 7 (by decide)
            rw [h5, h6, h7]
            have hxu : Ext wr u2 := Ext.trans HXX.out (Ext.trans (Ext.drew u) hu2)
            have HXU := Lib.hid hxu
            clear h5 h6 h7 hg2 hu2 hxu
            go_wp2_with fail
            refine ⟨rfl, _, results_tmp3 rfl _ _ _, ?_⟩
            have hfin := HSTOP.out HK.out _ X (some ⟨bo, oo, none⟩) vc HXU.out (HI.out.rbs.ext HXU.out) HI.out.map
            rw [← HNX.out] at hfin
            exact hfin
          case obl2 =>
            refine ⟨fun u3 hu hd => ?_, ?_⟩
            · go_simp
              exact ⟨Ext.refl _, rfl⟩
            refine ⟨fun u3 hu hd => ?_, ?_⟩
            · simp only [Act.put, List.setIfInBounds_toArray, List.set_cons_zero, List.set_cons_succ]
              go_simp
              exact ⟨Ext.refl _, rfl⟩
            refine ⟨fun u3 hu hd => ?_, ?_⟩
            · simp only [Act.put, List.setIfInBounds_toArray, List.set_cons_zero, List.set_cons_succ]
              go_simp
              exact ⟨Ext.refl _, rfl⟩
            refine ⟨fun u3 hu hd => ?_, ?_⟩
            · simp only [Act.put, List.setIfInBounds_toArray, List.set_cons_zero, List.set_cons_succ]
              have e1 : f1 1 = .slice (some ⟨b1, 0, none⟩) n c1 := hd 1 (by kernel_rfl)
              have e2 : f1 2 = .int .i64 (k : Int) := hd 2 (by kernel_rfl)
              go_simp
              exact ⟨Ext.refl _, rfl⟩
            refine ⟨fun u3 hu hd => ?_, ?_⟩
            · simp only [Act.put, List.setIfInBounds_toArray, List.set_cons_zero, List.set_cons_succ]
              have e3 : f1 3 = .pointer (some ⟨b1, k, none⟩) := hd 3 (by kernel_rfl)
              have hu2 := Ext.trans (Ext.drew u) hu
              have q0 := ext_cell hu2 a0
              go_simp
              exact ⟨Ext.refl _, rfl⟩
            refine ⟨fun u3 hu hd => ?_, ?_⟩
            · simp only [Act.put, List.setIfInBounds_toArray, List.set_cons_zero, List.set_cons_succ]
              have e0 : f1 0 = .slice (some ⟨bo, oo, none⟩) N vc := hd 0 (by kernel_rfl)
              go_simp
              exact ⟨Ext.refl _, rfl⟩
            refine ⟨fun u3 hu hd => ?_, ?_⟩
            · simp only [Act.put, List.setIfInBounds_toArray, List.set_cons_zero, List.set_cons_succ]
              have e4 : f1 4 = .int .i64 (m' : Int) := hd 4 (by kernel_rfl)
              go_simp
              exact ⟨Ext.refl _, rfl⟩
            refine ⟨fun u3 hu hd => ?_, ?_⟩
            · simp only [Act.put, List.setIfInBounds_toArray, List.set_cons_zero, List.set_cons_succ]
              go_simp
              exact ⟨Ext.refl _, rfl⟩
            trivial
        case obl =>
          refine ⟨fun u hu hd => ?_, ?_⟩
          · go_simp
            exact ⟨Ext.refl _, rfl⟩
          refine ⟨fun u hu hd => ?_, ?_⟩
          · simp only [Act.put, List.setIfInBounds_toArray, List.set_cons_zero, List.set_cons_succ]
            have e0 : f1 0 = .bool true := hd 0 (by kernel_rfl)
            go_simp
            exact ⟨Ext.refl _, rfl⟩
          refine ⟨fun u hu hd => ?_, ?_⟩
          · simp only [Act.put, List.setIfInBounds_toArray, List.set_cons_zero, List.set_cons_succ]
            have e1 : f1 1 = .bool false := hd 1 (by kernel_rfl)
            go_simp
            exact ⟨Ext.refl _, rfl⟩
          refine ⟨fun u hu hd => ?_, ?_⟩
          · simp only [Act.put, List.setIfInBounds_toArray, List.set_cons_zero, List.set_cons_succ]
            have e2 : f1 2 = .bool false := hd 2 (by kernel_rfl)
            go_simp
            exact ⟨Ext.refl _, rfl⟩
          refine ⟨fun u hu hd => ?_, ?_⟩
          · simp only [Act.put, List.setIfInBounds_toArray, List.set_cons_zero, List.set_cons_succ]
            have e2 : f1 2 = .bool false := hd 2 (by kernel_rfl)
            have e3 : f1 3 = .slice (some ⟨bo, oo, none⟩) N vc := hd 3 (by kernel_rfl)
            go_simp
            exact ⟨Ext.refl _, rfl⟩
          refine ⟨fun u hu hd => ?_, ?_⟩
          · simp only [Act.put, List.setIfInBounds_toArray, List.set_cons_zero, List.set_cons_succ]
            have e2 : f1 2 = .bool false := hd 2 (by kernel_rfl)
            have e4 : f1 4 = .int .i64 (N : Int) := hd 4 (by kernel_rfl)
            go_simp
            exact ⟨Ext.refl _, rfl⟩
          refine ⟨fun u hu hd => ?_, ?_⟩
          · simp only [Act.put, List.setIfInBounds_toArray, List.set_cons_zero, List.set_cons_succ]
            have e2 : f1 2 = .bool false := hd 2 (by kernel_rfl)
            have e5 : f1 5 = .bool true := hd 5 (by kernel_rfl)
            go_simp
            exact ⟨Ext.refl _, rfl⟩
          refine ⟨fun u hu hd => ?_, ?_⟩
          · simp only [Act.put, List.setIfInBounds_toArray, List.set_cons_zero, List.set_cons_succ]
            have e6 : f1 6 = .bool true := hd 6 (by kernel_rfl)
            go_simp
            exact ⟨Ext.refl _, rfl⟩
          refine ⟨fun u hu hd => ?_, ?_⟩
          · simp only [Act.put, List.setIfInBounds_toArray, List.set_cons_zero, List.set_cons_succ]
            have e6 : f1 6 = .bool true := hd 6 (by kernel_rfl)
            go_simp
            exact ⟨Ext.refl _, rfl⟩
          refine ⟨fun u hu hd => ?_, ?_⟩
          · simp only [Act.put, List.setIfInBounds_toArray, List.set_cons_zero, List.set_cons_succ]
            have e6 : f1 6 = .bool true := hd 6 (by kernel_rfl)
            have e8 : f1 8 = .slice (some ⟨bo, oo, none⟩) N vc := hd 8 (by kernel_rfl)
            go_simp
            exact ⟨Ext.refl _, rfl⟩
          refine ⟨fun u hu hd => ?_, ?_⟩
          · simp only [Act.put, List.setIfInBounds_toArray, List.set_cons_zero, List.set_cons_succ]
            have e6 : f1 6 = .bool true := hd 6 (by kernel_rfl)
            have e9 : f1 9 = .int .i64 (N : Int) := hd 9 (by kernel_rfl)
            go_simp
            exact ⟨Ext.refl _, rfl⟩
          refine ⟨fun u hu hd => ?_, ?_⟩
          · simp only [Act.put, List.setIfInBounds_toArray, List.set_cons_zero, List.set_cons_succ]
            have e6 : f1 6 = .bool true := hd 6 (by kernel_rfl)
            have e7 : f1 7 = .slice (some ⟨bo, oo, none⟩) N vc := hd 7 (by kernel_rfl)
            have e10 : f1 10 = .int .i64 (m : Int) := hd 10 (by kernel_rfl)
            go_simp
            exact ⟨Ext.refl _, rfl⟩
          refine ⟨fun u hu hd => ?_, ?_⟩
          · simp only [Act.put, List.setIfInBounds_toArray, List.set_cons_zero, List.set_cons_succ]
            have e6 : f1 6 = .bool true := hd 6 (by kernel_rfl)
            have e11 : f1 11 = .pointer (some ⟨bo, oo + m * 2, none⟩) := hd 11 (by kernel_rfl)
            go_simp
            exact ⟨Ext.refl _, rfl⟩
          refine ⟨fun u hu hd => ?_, ?_⟩
          · simp only [Act.put, List.setIfInBounds_toArray, List.set_cons_zero, List.set_cons_succ]
            have e6 : f1 6 = .bool true := hd 6 (by kernel_rfl)
            have e12 : f1 12 = .pointer (some ⟨bo, oo + m * 2, none⟩) := hd 12 (by kernel_rfl)
            have hu2 := Ext.trans (Ext.drew w4) hu
            have q0 := ext_cell hu2 p0
            go_simp
            exact ⟨Ext.refl _, rfl⟩
          refine ⟨fun u hu hd => ?_, ?_⟩
          · simp only [Act.put, List.setIfInBounds_toArray, List.set_cons_zero, List.set_cons_succ]
            have e6 : f1 6 = .bool true := hd 6 (by kernel_rfl)
            go_simp
            exact ⟨Ext.refl _, rfl⟩
          refine ⟨fun u hu hd => ?_, ?_⟩
          · simp only [Act.put, List.setIfInBounds_toArray, List.set_cons_zero, List.set_cons_succ]
            have e6 : f1 6 = .bool true := hd 6 (by kernel_rfl)
            have e14 : f1 14 = .pointer (some ⟨w3.heap.size, 0, none⟩) := hd 14 (by kernel_rfl)
            have hu2 := Ext.trans (Ext.drew w4) hu
            have q0 := ext_cell hu2 y0
            go_simp
            exact ⟨Ext.refl _, rfl⟩
          refine ⟨fun u hu hd => ?_, ?_⟩
          · simp only [Act.put, List.setIfInBounds_toArray, List.set_cons_zero, List.set_cons_succ]
            have e6 : f1 6 = .bool true := hd 6 (by kernel_rfl)
            have e13 : f1 13 = .int .i64 px.idx := hd 13 (by kernel_rfl)
            have e15 : f1 15 = .int .i64 xi := hd 15 (by kernel_rfl)
            go_simp
            exact ⟨Ext.refl _, rfl⟩
          refine ⟨fun u hu hd => ?_, ?_⟩
          · simp only [Act.put, List.setIfInBounds_toArray, List.set_cons_zero, List.set_cons_succ]
            have e2 : f1 2 = .bool false := hd 2 (by kernel_rfl)
            have e6 : f1 6 = .bool true := hd 6 (by kernel_rfl)
            have e16 : f1 16 = .bool true := hd 16 (by kernel_rfl)
            go_simp
            exact ⟨Ext.refl _, rfl⟩
          refine ⟨fun u hu hd => ?_, ?_⟩
          · simp only [Act.put, List.setIfInBounds_toArray, List.set_cons_zero, List.set_cons_succ]
            have e2 : f1 2 = .bool false := hd 2 (by kernel_rfl)
            have e17 : f1 17 = .bool true := hd 17 (by kernel_rfl)
            go_simp
            exact ⟨Ext.refl _, rfl⟩
          trivial
      have d3 : decide (xi ≤ px.idx) = false := decide_eq_false hge
      have HGO := Lib.hid (HNEXT.out (by have := HPX.out; omega))
      clear hge
      refine flow (by kernel_rfl) [Is (.bool true), Is (.bool false), Is (.bool false), Is (.slice (some ⟨bo, oo, none⟩) N vc), Is (.int .i64 (N : Int)), Is (.bool true), Is (.bool true), Is (.slice (some ⟨bo, oo, none⟩) N vc), Is (.slice (some ⟨bo, oo, none⟩) N vc), Is (.int .i64 (N : Int)), Is (.int .i64 (m : Int)), Is (.pointer (some ⟨bo, oo + m * 2, none⟩)), Is (.pointer (some ⟨bo, oo + m * 2, none⟩)), Is (.int .i64 px.idx), Is (.pointer (some ⟨w3.heap.size, 0, none⟩)), Is (.int .i64 xi), Is (.bool false), Is (.bool false), Is (.bool false)] (by kernel_rfl) (by kernel_rfl) ?mono (fun f1 => ?obl) ?fin
      case mono =>
        simp only [List.forall_mem_cons, List.not_mem_nil, false_imp_iff, implies_true, and_true]
        exact ⟨.is _, .is _, .is _, .is _, .is _, .is _, .is _, .is _, .is _, .is _, .is _, .is _, .is _, .is _, .is _, .is _, .is _, .is _, .is _⟩
      case fin =>
        intro g1 u hu hg
        simp only [puts, Act.put, List.setIfInBounds_toArray, List.set_cons_zero, List.set_cons_succ]
        have h18 : g1 18 = .bool false := hg 18 (by decide)
        rw [h18]
        clear h18 p0
        have hxu : Ext w4 u := Ext.trans (Ext.drew w4) hu
        have HXU := Lib.hid hxu
        have HYU := Lib.hid (ext_heap hxu HY4.out)
        have HRU := Lib.hid (HRBS.out.ext hxu)
        have HBU := Lib.hid (HBM4.out.ext hxu HX4.out.size)
        have HOWN : Hid (∀ g, (Value.slice (some ⟨bo, oo, none⟩) N vc).ownBlock = some g → g < wr.heap.size) := fun g hg => by have h := HI.out.rbs.row; rw [← HNX.out] at h; exact (rowN_lt h g hg).2.1
        clear hg hu hxu y0 y1
        have y0 := cell_of HYU.out (k := 0) rfl
        have y1 := cell_of HYU.out (k := 1) rfl
        have HLW : Hid (w3.heap.size ≤ u.heap.size ∧ w2.heap.size ≤ u.heap.size) := by have h1 := (Ext.trans HX4.out HXU.out).size; have h2 := HI.out.ext.size; have h3 := HX3.out.size; exact ⟨h1, by omega⟩
        have HNL : Hid (X.length ≤ 1000000000000) := by have h1 := HI.out.len; have h2 := HLT.out.1; unfold Hid; omega
        rw [HNX.out] at HRU HOWN ⊢
        obtain ⟨N1, hN1⟩ : ∃ N1, N1 = X.length + 1 := ⟨_, rfl⟩
        have HN1 := Lib.hid hN1
        clear hN1
        go_wp2_with (at_builtin; refine wpList_pushb rfl (.tmp 56) (.tmp 58) rfl w2.heap.size _ X rfl (HRU.out.ext (ext_alloc _ _)) ⟨xi, eA, ec, lx⟩ u.heap.size rfl (heap_at _ _ rfl) ⟨wr.heap.size, w3.heap.size, Nat.le_trans HLW.out.1 (by simp), HBU.out.ext (ext_alloc _ _) HLW.out.1, fun g hg => .inl (HOWN.out g hg)⟩ HNL.out (Nat.le_trans HLW.out.2 (by simp)) ?_; rw [← HN1.out]; intro A5 c5 w5 hr5 _ hb5; have HR5 := Lib.hid hr5; have HX5 : Hid (Ext w2 w5) := hb5 w2 (Ext.trans (Ext.trans HI.out.ext (Ext.trans HX34.out HXU.out)) (ext_alloc _ _)); clear hr5 hb5)
        go_roundw
        case rel =>
          have hl1 : N1 = (X ++ [⟨xi, eA, ec, lx⟩] : List Bx).length := by rw [HN1.out]; simp
          refine ⟨k + 1, A5, c5, X ++ [⟨xi, eA, ec, lx⟩], by go_num, by rw [← hl1], HLT.out.1, ?_⟩
          obtain ⟨r, hr, h2⟩ := HGO.out
          refine Lib.hid ⟨?_, (List.getElem?_eq_some_iff.1 hr).1, by rw [← hl1]; exact HR5.out, HX5.out⟩
          rw [List.map_append, HI.out.map, List.take_add_one, hr]
          simp [h2, Bx.bat]
        case measure => have := HLT.out.1; simp [intOf]; omega
      case obl =>
        refine ⟨fun u hu hd => ?_, ?_⟩
        · go_simp
          exact ⟨Ext.refl _, rfl⟩
        refine ⟨fun u hu hd => ?_, ?_⟩
        · simp only [Act.put, List.setIfInBounds_toArray, List.set_cons_zero, List.set_cons_succ]
          have e0 : f1 0 = .bool true := hd 0 (by kernel_rfl)
          go_simp
          exact ⟨Ext.refl _, rfl⟩
        refine ⟨fun u hu hd => ?_, ?_⟩
        · simp only [Act.put, List.setIfInBounds_toArray, List.set_cons_zero, List.set_cons_succ]
          have e1 : f1 1 = .bool false := hd 1 (by kernel_rfl)
          go_simp
          exact ⟨Ext.refl _, rfl⟩
        refine ⟨fun u hu hd => ?_, ?_⟩
        · simp only [Act.put, List.setIfInBounds_toArray, List.set_cons_zero, List.set_cons_succ]
          have e2 : f1 2 = .bool false := hd 2 (by kernel_rfl)
          go_simp
          exact ⟨Ext.refl _, rfl⟩
        refine ⟨fun u hu hd => ?_, ?_⟩
        · simp only [Act.put, List.setIfInBounds_toArray, List.set_cons_zero, List.set_cons_succ]
          have e2 : f1 2 = .bool false := hd 2 (by kernel_rfl)
          have e3 : f1 3 = .slice (some ⟨bo, oo, none⟩) N vc := hd 3 (by kernel_rfl)
          go_simp
          exact ⟨Ext.refl _, rfl⟩
        refine ⟨fun u hu hd => ?_, ?_⟩
        · simp only [Act.put, List.setIfInBounds_toArray, List.set_cons_zero, List.set_cons_succ]
          have e2 : f1 2 = .bool false := hd 2 (by kernel_rfl)
          have e4 : f1 4 = .int .i64 (N : Int) := hd 4 (by kernel_rfl)
          go_simp
          exact ⟨Ext.refl _, rfl⟩
        refine ⟨fun u hu hd => ?_, ?_⟩
        · simp only [Act.put, List.setIfInBounds_toArray, List.set_cons_zero, List.set_cons_succ]
          have e2 : f1 2 = .bool false := hd 2 (by kernel_rfl)
          have e5 : f1 5 = .bool true := hd 5 (by kernel_rfl)
          go_simp
          exact ⟨Ext.refl _, rfl⟩
        refine ⟨fun u hu hd => ?_, ?_⟩
        · simp only [Act.put, List.setIfInBounds_toArray, List.set_cons_zero, List.set_cons_succ]
          have e6 : f1 6 = .bool true := hd 6 (by kernel_rfl)
          go_simp
          exact ⟨Ext.refl _, rfl⟩
        refine ⟨fun u hu hd => ?_, ?_⟩
        · simp only [Act.put, List.setIfInBounds_toArray, List.set_cons_zero, List.set_cons_succ]
          have e6 : f1 6 = .bool true := hd 6 (by kernel_rfl)
          go_simp
          exact ⟨Ext.refl _, rfl⟩
        refine ⟨fun u hu hd => ?_, ?_⟩
        · simp only [Act.put, List.setIfInBounds_toArray, List.set_cons_zero, List.set_cons_succ]
          have e6 : f1 6 = .bool true := hd 6 (by kernel_rfl)
          have e8 : f1 8 = .slice (some ⟨bo, oo, none⟩) N vc := hd 8 (by kernel_rfl)
          go_simp
          exact ⟨Ext.refl _, rfl⟩
        refine ⟨fun u hu hd => ?_, ?_⟩
        · simp only [Act.put, List.setIfInBounds_toArray, List.set_cons_zero, List.set_cons_succ]
          have e6 : f1 6 = .bool true := hd 6 (by kernel_rfl)
          have e9 : f1 9 = .int .i64 (N : Int) := hd 9 (by kernel_rfl)
          go_simp
          exact ⟨Ext.refl _, rfl⟩
        refine ⟨fun u hu hd => ?_, ?_⟩
        · simp only [Act.put, List.setIfInBounds_toArray, List.set_cons_zero, List.set_cons_succ]
          have e6 : f1 6 = .bool true := hd 6 (by kernel_rfl)
          have e7 : f1 7 = .slice (some ⟨bo, oo, none⟩) N vc := hd 7 (by kernel_rfl)
          have e10 : f1 10 = .int .i64 (m : Int) := hd 10 (by kernel_rfl)
          go_simp
          exact ⟨Ext.refl _, rfl⟩
        refine ⟨fun u hu hd => ?_, ?_⟩
        · simp only [Act.put, List.setIfInBounds_toArray, List.set_cons_zero, List.set_cons_succ]
          have e6 : f1 6 = .bool true := hd 6 (by kernel_rfl)
          have e11 : f1 11 = .pointer (some ⟨bo, oo + m * 2, none⟩) := hd 11 (by kernel_rfl)
          go_simp
          exact ⟨Ext.refl _, rfl⟩
        refine ⟨fun u hu hd => ?_, ?_⟩
        · simp only [Act.put, List.setIfInBounds_toArray, List.set_cons_zero, List.set_cons_succ]
          have e6 : f1 6 = .bool true := hd 6 (by kernel_rfl)
          have e12 : f1 12 = .pointer (some ⟨bo, oo + m * 2, none⟩) := hd 12 (by kernel_rfl)
          have hu2 := Ext.trans (Ext.drew w4) hu
          have q0 := ext_cell hu2 p0
          go_simp
          exact ⟨Ext.refl _, rfl⟩
        refine ⟨fun u hu hd => ?_, ?_⟩
        · simp only [Act.put, List.setIfInBounds_toArray, List.set_cons_zero, List.set_cons_succ]
          have e6 : f1 6 = .bool true := hd 6 (by kernel_rfl)
          go_simp
          exact ⟨Ext.refl _, rfl⟩
        refine ⟨fun u hu hd => ?_, ?_⟩
        · simp only [Act.put, List.setIfInBounds_toArray, List.set_cons_zero, List.set_cons_succ]
          have e6 : f1 6 = .bool true := hd 6 (by kernel_rfl)
          have e14 : f1 14 = .pointer (some ⟨w3.heap.size, 0, none⟩) := hd 14 (by kernel_rfl)
          have hu2 := Ext.trans (Ext.drew w4) hu
          have q0 := ext_cell hu2 y0
          go_simp
          exact ⟨Ext.refl _, rfl⟩
        refine ⟨fun u hu hd => ?_, ?_⟩
        · simp only [Act.put, List.setIfInBounds_toArray, List.set_cons_zero, List.set_cons_succ]
          have e6 : f1 6 = .bool true := hd 6 (by kernel_rfl)
          have e13 : f1 13 = .int .i64 px.idx := hd 13 (by kernel_rfl)
          have e15 : f1 15 = .int .i64 xi := hd 15 (by kernel_rfl)
          go_simp
          exact ⟨Ext.refl _, rfl⟩
        refine ⟨fun u hu hd => ?_, ?_⟩
        · simp only [Act.put, List.setIfInBounds_toArray, List.set_cons_zero, List.set_cons_succ]
          have e2 : f1 2 = .bool false := hd 2 (by kernel_rfl)
          have e6 : f1 6 = .bool true := hd 6 (by kernel_rfl)
          have e16 : f1 16 = .bool false := hd 16 (by kernel_rfl)
          go_simp
          exact ⟨Ext.refl _, rfl⟩
        refine ⟨fun u hu hd => ?_, ?_⟩
        · simp only [Act.put, List.setIfInBounds_toArray, List.set_cons_zero, List.set_cons_succ]
          have e2 : f1 2 = .bool false := hd 2 (by kernel_rfl)
          have e17 : f1 17 = .bool false := hd 17 (by kernel_rfl)
          go_simp
          exact ⟨Ext.refl _, rfl⟩
        trivial
    · have HX3 : Hid (Ext wr w3) := hx3
      have HK : Hid (k = R.length) := by
        rcases Nat.lt_or_ge k R.length with h | h
        · obtain ⟨r, hr⟩ : ∃ r, R[k]? = some r := ⟨_, List.getElem?_eq_getElem h⟩
          obtain ⟨_, h2, _⟩ := HRR.out.at_ hr HY.out
          exact absurd h2 (hno _)
        · exact Nat.le_antisymm HI.out.kr h
      clear hno hx3
      go_upto_region 7 with (fail)
      obtain ⟨w4, hw4⟩ : ∃ w4, w4 = w3.alloc (.cells #[.int .i64 xn, .slice xA xk xc] 24) := ⟨_, rfl⟩
      rw [← hw4]
      have HX4 : Hid (Ext w3 w4) := by rw [hw4]; exact ext_alloc _ _
      have HY4 : Hid (w4.heap[w3.heap.size]? = some (.cells #[.int .i64 xn, .slice xA xk xc] 24 (0, 0))) := by rw [hw4]; exact heap_at _ _ rfl
      have HX34 : Hid (Ext wr w4) := Ext.trans HX3.out HX4.out
      clear hw4
      refine flow (by kernel_rfl) [Is (.bool false), Is (.bool true), Is (.bool true), Is undef, Is undef, Is undef, Is undef, Is undef, Is undef, Is undef, Is undef, Is undef, Is undef, Is undef, Is undef, Is undef, Is undef, Is undef, Is (.bool true)] (by kernel_rfl) (by kernel_rfl) ?mono (fun f1 => ?obl) ?fin
      case mono =>
        simp only [List.forall_mem_cons, List.not_mem_nil, false_imp_iff, implies_true, and_true]
        exact ⟨.is _, .is _, .is _, .is _, .is _, .is _, .is _, .is _, .is _, .is _, .is _, .is _, .is _, .is _, .is _, .is _, .is _, .is _, .is _⟩
      case fin =>
        intro g1 u hu hg
        simp only [puts, Act.put, List.setIfInBounds_toArray, List.set_cons_zero, List.set_cons_succ]
        have h18 : g1 18 = .bool true := hg 18 (by decide)
        rw [h18]
        have HXX : Hid (Ext wr u) := Ext.trans HX34.out (Ext.trans (Ext.drew w4) hu)
        clear h18 hg hu
        go_wp2_with fail
        have a0 := HAT1.out _ HXX.out
        have n1 := HN12.out.1
        have n2 := HN12.out.2
        refine flow (by kernel_rfl) [Is (.slice V N vc), Is (.slice (some ⟨b1, 0, none⟩) n c1), Is (.int .i64 (k : Int)), Is (.pointer (some ⟨b1, k, none⟩)), Is (.int .i64 (m' : Int)), Is (.slice V N vc), Is (.int .i64 (m' : Int)), Is (.bool false)] (by kernel_rfl) (by kernel_rfl) ?mono2 (fun f1 => ?obl2) ?fin2
        case mono2 =>
          simp only [List.forall_mem_cons, List.not_mem_nil, false_imp_iff, implies_true, and_true]
          exact ⟨.is _, .is _, .is _, .is _, .is _, .is _, .is _, .is _⟩
        case fin2 =>
          intro g2 u2 hu2 hg2
          simp only [puts, Act.put, List.setIfInBounds_toArray, List.set_cons_zero, List.set_cons_succ]
          have h5 : g2 5 = .slice V N vc := hg2 5 (by decide)
          have h6 : g2 6 = .int .i64 (m' : Int) := hg2 6 (by decide)
          have h7 : g2 7 = .bool false := hg2 7 (by decide)
          rw [h5, h6, h7]
          have hxu : Ext wr u2 := Ext.trans HXX.out (Ext.trans (Ext.drew u) hu2)
          have HXU := Lib.hid hxu
          clear h5 h6 h7 hg2 hu2 hxu
          go_wp2_with fail
          refine ⟨rfl, _, results_tmp3 rfl _ _ _, ?_⟩
          have hfin := HSTOP.out HK.out _ X V vc HXU.out (HI.out.rbs.ext HXU.out) HI.out.map
          rw [← HNX.out] at hfin
          exact hfin
        case obl2 =>
          refine ⟨fun u3 hu hd => ?_, ?_⟩
          · go_simp
            exact ⟨Ext.refl _, rfl⟩
          refine ⟨fun u3 hu hd => ?_, ?_⟩
          · simp only [Act.put, List.setIfInBounds_toArray, List.set_cons_zero, List.set_cons_succ]
            go_simp
            exact ⟨Ext.refl _, rfl⟩
          refine ⟨fun u3 hu hd => ?_, ?_⟩
          · simp only [Act.put, List.setIfInBounds_toArray, List.set_cons_zero, List.set_cons_succ]
            go_simp
            exact ⟨Ext.refl _, rfl⟩
          refine ⟨fun u3 hu hd => ?_, ?_⟩
          · simp only [Act.put, List.setIfInBounds_toArray, List.set_cons_zero, List.set_cons_succ]
            have e1 : f1 1 = .slice (some ⟨b1, 0, none⟩) n c1 := hd 1 (by kernel_rfl)
            have e2 : f1 2 = .int .i64 (k : Int) := hd 2 (by kernel_rfl)
            go_simp
            exact ⟨Ext.refl _, rfl⟩
          refine ⟨fun u3 hu hd => ?_, ?_⟩
          · simp only [Act.put, List.setIfInBounds_toArray, List.set_cons_zero, List.set_cons_succ]
            have e3 : f1 3 = .pointer (some ⟨b1, k, none⟩) := hd 3 (by kernel_rfl)
            have hu2 := Ext.trans (Ext.drew u) hu
            have q0 := ext_cell hu2 a0
            go_simp
            exact ⟨Ext.refl _, rfl⟩
          refine ⟨fun u3 hu hd => ?_, ?_⟩
          · simp only [Act.put, List.setIfInBounds_toArray, List.set_cons_zero, List.set_cons_succ]
            have e0 : f1 0 = .slice V N vc := hd 0 (by kernel_rfl)
            go_simp
            exact ⟨Ext.refl _, rfl⟩
          refine ⟨fun u3 hu hd => ?_, ?_⟩
          · simp only [Act.put, List.setIfInBounds_toArray, List.set_cons_zero, List.set_cons_succ]
            have e4 : f1 4 = .int .i64 (m' : Int) := hd 4 (by kernel_rfl)
            go_simp
            exact ⟨Ext.refl _, rfl⟩
          refine ⟨fun u3 hu hd => ?_, ?_⟩
          · simp only [Act.put, List.setIfInBounds_toArray, List.set_cons_zero, List.set_cons_succ]
            go_simp
            exact ⟨Ext.refl _, rfl⟩
          trivial
      case obl =>
        refine ⟨fun u hu hd => ?_, ?_⟩
        · go_simp
          exact ⟨Ext.refl _, rfl⟩
        refine ⟨fun u hu hd => ?_, ?_⟩
        · simp only [Act.put, List.setIfInBounds_toArray, List.set_cons_zero, List.set_cons_succ]
          have e0 : f1 0 = .bool false := hd 0 (by kernel_rfl)
          go_simp
          exact ⟨Ext.refl _, rfl⟩
        refine ⟨fun u hu hd => ?_, ?_⟩
        · simp only [Act.put, List.setIfInBounds_toArray, List.set_cons_zero, List.set_cons_succ]
          have e1 : f1 1 = .bool true := hd 1 (by kernel_rfl)
          go_simp
          exact ⟨Ext.refl _, rfl⟩
        refine ⟨fun u hu hd => ?_, ?_⟩
        · simp only [Act.put, List.setIfInBounds_toArray, List.set_cons_zero, List.set_cons_succ]
          have e2 : f1 2 = .bool true := hd 2 (by kernel_rfl)
          go_simp
          rfl
        refine ⟨fun u hu hd => ?_, ?_⟩
        · simp only [Act.put, List.setIfInBounds_toArray, List.set_cons_zero, List.set_cons_succ]
          have e2 : f1 2 = .bool true := hd 2 (by kernel_rfl)
          go_simp
          rfl
        refine ⟨fun u hu hd => ?_, ?_⟩
        · simp only [Act.put, List.setIfInBounds_toArray, List.set_cons_zero, List.set_cons_succ]
          have e2 : f1 2 = .bool true := hd 2 (by kernel_rfl)
          go_simp
          rfl
        refine ⟨fun u hu hd => ?_, ?_⟩
        · simp only [Act.put, List.setIfInBounds_toArray, List.set_cons_zero, List.set_cons_succ]
          have e2 : f1 2 = .bool true := hd 2 (by kernel_rfl)
          go_simp
          rfl
        refine ⟨fun u hu hd => ?_, ?_⟩
        · simp only [Act.put, List.setIfInBounds_toArray, List.set_cons_zero, List.set_cons_succ]
          have e6 : f1 6 = undef := hd 6 (by kernel_rfl)
          go_simp
          rfl
        refine ⟨fun u hu hd => ?_, ?_⟩
        · simp only [Act.put, List.setIfInBounds_toArray, List.set_cons_zero, List.set_cons_succ]
          have e6 : f1 6 = undef := hd 6 (by kernel_rfl)
          go_simp
          rfl
        refine ⟨fun u hu hd => ?_, ?_⟩
        · simp only [Act.put, List.setIfInBounds_toArray, List.set_cons_zero, List.set_cons_succ]
          have e6 : f1 6 = undef := hd 6 (by kernel_rfl)
          go_simp
          rfl
        refine ⟨fun u hu hd => ?_, ?_⟩
        · simp only [Act.put, List.setIfInBounds_toArray, List.set_cons_zero, List.set_cons_succ]
          have e6 : f1 6 = undef := hd 6 (by kernel_rfl)
          go_simp
          rfl
        refine ⟨fun u hu hd => ?_, ?_⟩
        · simp only [Act.put, List.setIfInBounds_toArray, List.set_cons_zero, List.set_cons_succ]
          have e6 : f1 6 = undef := hd 6 (by kernel_rfl)
          go_simp
          rfl
        refine ⟨fun u hu hd => ?_, ?_⟩
        · simp only [Act.put, List.setIfInBounds_toArray, List.set_cons_zero, List.set_cons_succ]
          have e6 : f1 6 = undef := hd 6 (by kernel_rfl)
          go_simp
          rfl
        refine ⟨fun u hu hd => ?_, ?_⟩
        · simp only [Act.put, List.setIfInBounds_toArray, List.set_cons_zero, List.set_cons_succ]
          have e6 : f1 6 = undef := hd 6 (by kernel_rfl)
          go_simp
          rfl
        refine ⟨fun u hu hd => ?_, ?_⟩
        · simp only [Act.put, List.setIfInBounds_toArray, List.set_cons_zero, List.set_cons_succ]
          have e6 : f1 6 = undef := hd 6 (by kernel_rfl)
          go_simp
          rfl
        refine ⟨fun u hu hd => ?_, ?_⟩
        · simp only [Act.put, List.setIfInBounds_toArray, List.set_cons_zero, List.set_cons_succ]
          have e6 : f1 6 = undef := hd 6 (by kernel_rfl)
          go_simp
          rfl
        refine ⟨fun u hu hd => ?_, ?_⟩
        · simp only [Act.put, List.setIfInBounds_toArray, List.set_cons_zero, List.set_cons_succ]
          have e6 : f1 6 = undef := hd 6 (by kernel_rfl)
          go_simp
          rfl
        refine ⟨fun u hu hd => ?_, ?_⟩
        · simp only [Act.put, List.setIfInBounds_toArray, List.set_cons_zero, List.set_cons_succ]
          have e2 : f1 2 = .bool true := hd 2 (by kernel_rfl)
          go_simp
          rfl
        refine ⟨fun u hu hd => ?_, ?_⟩
        · simp only [Act.put, List.setIfInBounds_toArray, List.set_cons_zero, List.set_cons_succ]
          have e2 : f1 2 = .bool true := hd 2 (by kernel_rfl)
          go_simp
          exact ⟨Ext.refl _, rfl⟩
        trivial
end Go.Proofs.Ytgflhbpmkcggnaa

/- For the laws of wal. -/
namespace Go.Proofs.Ytgflhbpmkcggnaa
open Go.ChangeShapes Go.WideShapes Go.ChangeAt Go.RowKit

theorem wpList_addn {ops : Array Oper} {rest : List Oper} {o : Oper} {a : Act} {Q : Exit → Act → World → Prop} {wr : World} (hgd : o.guard = none) (s x : Operand)
    (ho : o.op = .call { callee := .builtin .append, args := #[s, x], argTypes := #[29, 29] }) (B : Nat) (v : Value) (l : List Nat) (hs : a.eval s = v) (hown : Own B l v wr)
    (lo hi : Nat) (u : Value) (r : List Nat) (hx : a.eval x = u) (hu : Bs wr lo hi u r) (L : List Nat) (N : Nat) (hL : l ++ r = L) (hN : L.length = N) (hlen : N ≤ 1099511627776) (hB : B ≤ wr.heap.size)
    (h : ∀ A' c' w', Own B L (.slice A' N c') w' → (∀ w0, Below B w0 wr → Below B w0 w') → wpList Try.prog ops Q rest (a.put o.dst (.slice A' N c')) w') :
    wpList Try.prog ops Q (o :: rest) a wr := by
  subst hL hN
  rw [List.length_append] at hlen
  exact wpList_addbytes hgd s x ho B v l hs hown lo hi u r hx hu hlen hB h
theorem tx_size (l : List Nat) : (tx l).size = l.length := by unfold tx; rw [strOfNums_size, List.length_map]
theorem tx_snoc (l : List Nat) : ((tx (l ++ [119])).toList == (tx l ++ ({ data := #[119] } : ByteArray)).toList) = true := by
  rw [ByteArray.toList_eq, ByteArray.toList_eq, beq_iff_eq]
  unfold tx
  rw [strOfNums_data, List.map_append, List.map_append, ByteArray.data_append, Array.toList_append, strOfNums_data]
  rfl
end Go.Proofs.Ytgflhbpmkcggnaa

/- Batches that came in: how many entries they have isn't known yet. -/
namespace Go.Proofs.Ytgflhbpmkcggnaa
open Go.ChangeShapes Go.WideShapes Go.ChangeAt Go.RowKit

/-- A batch that came in. -/
structure Bi (w : World) (lo hi : Nat) (x : Bx) : Prop where
  es : Es w lo hi x.A x.L
  i1 : -9223372036854775808 ≤ x.idx
  i2 : x.idx ≤ 9223372036854775807
  ln : x.L.length ≤ 4000000000000
theorem Bi.below {w w' : World} {lo hi B : Nat} {x : Bx} (h : Bi w lo hi x) (hb : Below B w w') (hB : hi ≤ B) : Bi w' lo hi x := ⟨h.es.below hb hB, h.i1, h.i2, h.ln⟩
theorem Bi.bm {w : World} {lo hi : Nat} {x : Bx} (h : Bi w lo hi x) (hl : x.L.length ≤ 60000) : Bm w lo hi x := ⟨h.es, h.i1, h.i2, by omega⟩
structure Bins (w : World) (lo hi : Nat) (A : Option Addr) (X : List Bx) : Prop where
  outer : Sl w lo hi A (brow X)
  each : ∀ x ∈ X, Bi w lo hi x
theorem Bins.below {w w' : World} {lo hi B : Nat} {A : Option Addr} {X : List Bx} (h : Bins w lo hi A X) (hb : Below B w w') (hB : hi ≤ B) : Bins w' lo hi A X := ⟨h.outer.below hb hB, fun p hp => (h.each p hp).below hb hB⟩
theorem Bins.bts {w : World} {lo hi : Nat} {A : Option Addr} {X : List Bx} (h : Bins w lo hi A X) (hl : ∀ x ∈ X, x.L.length ≤ 60000) : Bts w lo hi A X := ⟨h.outer, fun x hx => (h.each x hx).bm (hl x hx)⟩
theorem Bins.at_ {w : World} {lo hi : Nat} {A : Option Addr} {X : List Bx} (h : Bins w lo hi A X) {k : Nat} (hk : k < X.length) :
    ∃ b o, A = some ⟨b, o, none⟩ ∧ b < hi ∧ w.cell? ⟨b, o + k * 2, none⟩ = some (.int .i64 X[k].idx) ∧ w.cell? ⟨b, o + k * 2 + 1, none⟩ = some (.slice X[k].A X[k].L.length X[k].c) := by
  obtain ⟨b, o, rfl, _, hb, _⟩ := Sl.at_ h.outer (i := k * 2) (by rw [brow_length]; omega)
  have hc : ∀ j u, (brow X)[j]? = some u → w.cell? ⟨b, o + j, none⟩ = some u := by
    rcases h.outer with h0 | ⟨b', o', he, _, _, hc⟩
    · have := congrArg List.length h0
      rw [brow_length] at this
      simp at this; omega
    · injection he with he
      injection he with e1 e2
      subst e1 e2
      exact hc
  have hj := fun (j : Nat) (hj : j < 2) (u : Value) (hu : (bcells X[k])[j]? = some u) => hc (k * 2 + j) u ((brow_at X hk hj).trans hu)
  refine ⟨b, o, rfl, hb, hj 0 (by decide) _ rfl, ?_⟩
  rw [Nat.add_assoc]; exact hj 1 (by decide) _ rfl
theorem Bins.base {w : World} {lo hi : Nat} {A : Option Addr} {X : List Bx} (h : Bins w lo hi A X) (h0 : 0 < X.length) : ∃ b o, A = some ⟨b, o, none⟩ := by
  obtain ⟨b, o, e, _⟩ := h.at_ h0
  exact ⟨b, o, e⟩
theorem Bins.get {w : World} {lo hi b o : Nat} {X : List Bx} (h : Bins w lo hi (some ⟨b, o, none⟩) X) {k : Nat} {x : Bx} (hk : X[k]? = some x) :
    w.cell? ⟨b, o + k * 2, none⟩ = some (.int .i64 x.idx) ∧ w.cell? ⟨b, o + k * 2 + 1, none⟩ = some (.slice x.A x.L.length x.c) := by
  obtain ⟨hlt, rfl⟩ := List.getElem?_eq_some_iff.1 hk
  obtain ⟨_, _, he, _, c0, c1⟩ := h.at_ hlt
  injection he with he; injection he with e1 e2; subst e1 e2
  exact ⟨c0, c1⟩

end Go.Proofs.Ytgflhbpmkcggnaa
