/- The document's own frames. -/
import Derived.Test.YtkaammdekalgnaaMref
import Derived.Test.YtkaammdekalgnaaMrefp
import Derived.Test.YtkaammdekalgnaaMeach
import Derived.Maps.AppendAt
import Derived.Deep.DeepCutAuto
namespace Go.Proofs.Ytkaammdekalgnaa
open Go.ChangeShapes Go.WideShapes Go.ChangeAt Go.RowKit

theorem tx_ne {l r : List Nat} (hl : ∀ n ∈ l, n < 256) (hr : ∀ n ∈ r, n < 256) (h : l ≠ r) : ((tx l).toList == (tx r).toList) = false := by
  rw [beq_eq_false_iff_ne]
  intro he
  apply h
  apply tx_inj hl hr
  rw [ByteArray.toList_eq, ByteArray.toList_eq] at he
  cases hx : tx l with
  | mk d =>
    cases hy : tx r with
    | mk e =>
      rw [hx, hy] at he
      have := Array.toList_inj.1 he
      simp at this
      rw [this]
/-- 'string(b)' of bytes that read as l. -/
theorem cv {w : World} {lo hi : Nat} {A : Option Addr} {n c : Nat} {l : List Nat} (h : Bs w lo hi (.slice A n c) l) : (convert 22 9 (.slice A n c)).run Try.prog w = .ok (.string (tx l)) w := by
  obtain ⟨A', c', he, _, _, _, h4⟩ := h
  have h5 : A = A' ∧ n = l.length ∧ c = c' := by injection he with a b c; exact ⟨a, b, c⟩
  obtain ⟨rfl, rfl, rfl⟩ := h5
  exact run_text (P := Try.prog) w 22 5 Try.underlying22 Try.underlying5 h4 l.length c rfl 9 Try.underlying9

/-- Rows of unlike things lie in unlike blocks. -/
theorem own_apart {w : World} {B B' s s' n n' : Nat} {e e' : TypeId} {v v' : Value} {xs xs' : List Value} (h : w.ownsRow B e s v n xs) (k : w.ownsRow B' e' s' v' n' xs') (hne : e ≠ e') : ∀ g, v.ownBlock = some g → some g ≠ v'.ownBlock := by
  intro g hg he
  rcases h.2 with ⟨rfl, _⟩ | ⟨g1, cap1, cur1, rfl, _, h1, _⟩
  · cases hg
  · rcases k.2 with ⟨rfl, _⟩ | ⟨g2, cap2, cur2, rfl, _, h2, _⟩
    · cases he
    · injection hg with hg
      injection he with he
      subst hg
      subst he
      rw [h1] at h2
      injection h2 with h2
      injection h2 with _ h2
      exact hne h2
/-- A row stays while a row of unlike things grows. -/
theorem own_while {w w' : World} {B B' s' n n' : Nat} {e e' : TypeId} {v v' : Value} {xs xs' : List Value} {o : Obj} (h : w.ownsRow B e 1 v n xs) (k : w.ownsRow B' e' s' v' n' xs') (hne : e ≠ e') (hg : (w.alloc o).grownBy w' v'.ownBlock) : w'.ownsRow B e 1 v n xs := by
  refine row_kept h fun g hv => ?_
  have hlt := (row_lt h g hv).2
  rw [hg.block g (by simp; omega) (own_apart h k hne g hv)]
  exact Below.heap_alloc _ _ _ hlt
theorem tintinfo : (Try.prog.info? 3).map (fun i => (i.zero, i.size, i.bytes)) = some (some (.int .i64 0), 1, 8) := by kernel_rfl
theorem tbytesinfo : (Try.prog.info? 22).map (fun i => (i.zero, i.size, i.bytes)) = some (some (.slice none 0 0), 1, 24) := by kernel_rfl

/-- 'out = append(out, u)' onto a row of the call's own: all else stays. -/
theorem wpList_pushrow {P : Program} {ops : Array Oper} {rest : List Oper} {o : Oper} {a : Act} {Q : Exit → Act → World → Prop} {wr : World} (hgd : o.guard = none) (s x : Operand) (t : TypeId)
    (ho : o.op = .call { callee := .builtin .append, args := #[s, x], argTypes := #[t, t] })
    (B : Nat) (e : TypeId) (i : TypeInfo) (z : Value) (bytes : Nat) (ht : P.underlying t = some (.slice e)) (hi : P.info? e = some i) (hz : i.zero = some z)
    (hsize : i.size = 1) (hby : i.bytes = bytes) (hzs : z.cells.size = 1)
    (v : Value) (n : Nat) (xs : List Value) (hs : a.eval s = v) (hown : wr.ownsRow B e 1 v n xs) (u : Value) (hu : u.oneCell' = true) (g : Nat) (hg : g = wr.heap.size)
    (hx : a.eval x = .slice (some ⟨g, 0, none⟩) 1 1) (h63 : n + 1 ≤ maxLen) (hbytes : (n + 1) * bytes ≤ 140737488355328) (hB : B ≤ wr.heap.size)
    (h : ∀ A' c' w', w'.ownsRow B e 1 (.slice A' (n + 1) c') (n + 1) (xs ++ [u]) → (wr.alloc (.cells #[u] e)).grownBy w' v.ownBlock → wpList P ops Q rest (a.put o.dst (.slice A' (n + 1) c')) w') :
    wpList P ops Q (o :: rest) a (wr.alloc (.cells #[u] e)) := by
  subst hg
  refine wpList_append_own _ hgd s x t ho B e i z 1 bytes ht hi hz hsize hby hzs (by omega) v n xs hs (hown.alloc _) ⟨wr.heap.size, 0, none⟩ 1 1 [u] hx rfl (fun j q hj => ?_) (fun q hq => ?_) h63 hbytes
    (Nat.le_trans hB (by simp)) (fun v' w' h2 h3 _ => ?_)
  · rcases j with _ | j
    · simp at hj
      subst hj
      rw [addr_add, World.cell?_alloc_at _ _ _ _ rfl]
      rfl
    · simp at hj
  · rw [List.mem_singleton] at hq
    subst hq
    exact hu
  · have h2' := h2
    obtain ⟨A', c', rfl, _, _, _, _⟩ := Sl.of_own h2'
    exact h A' c' w' h2 h3
theorem grown_below {w w' : World} {B : Nat} {r : Option Nat} {o : Obj} (hg : (w.alloc o).grownBy w' r) (hr : ∀ g, r = some g → B ≤ g) (hB : B ≤ w.heap.size) : Below B w w' :=
  ((Below.refl B w).alloc hB o).grown hg (Nat.le_trans hB (by simp)) hr

/-- Where frames begin. -/
def iv (fs : List (Nat × List Nat)) : List Value := fs.map fun x => .int .i64 (x.1 : Int)
/-- The frames, as they are answered. -/
structure Fr (w : World) (B : Nat) (fs : List (Nat × List Nat)) (a l : Value) : Prop where
  at_ : w.ownsRow B 3 1 a fs.length (iv fs)
  pay : ∃ vs : List Value, w.ownsRow B 22 1 l fs.length vs ∧ ∀ (i : Nat) (v : Value), vs[i]? = some v → ∃ x, fs[i]? = some x ∧ Own B x.2 v w
theorem Fr.below {w w' : World} {B : Nat} {fs : List (Nat × List Nat)} {a l : Value} (h : Fr w B fs a l) (hb : Ext w w') : Fr w' B fs a l := by
  obtain ⟨h1, vs, h2, h3⟩ := h
  exact ⟨own_below h1 hb (Nat.le_refl _), vs, own_below h2 hb (Nat.le_refl _), fun i v hv => by obtain ⟨x, hx, ho⟩ := h3 i v hv; exact ⟨x, hx, ho.below hb⟩⟩
theorem Fr.nil (w : World) (B : Nat) : Fr w B [] (.slice none 0 0) (.slice none 0 0) := ⟨World.ownsRow_nil _ _ _ _, [], World.ownsRow_nil _ _ _ _, fun i v h => by simp at h⟩
/-- What Frames answers. -/
def FramesAns (w : World) (b : List Nat) (e : Ending) (w' : World) : Prop := ∃ A1 c1 A2 c2, e = .returned (.tuple #[.slice A1 (frs b 0).length c1, .slice A2 (frs b 0).length c2, .int .i64 (fend b 0 : Int)]) ∧
  Fr w' w.heap.size (frs b 0) (.slice A1 (frs b 0).length c1) (.slice A2 (frs b 0).length c2) ∧ Below w.heap.size w w'

set_option maxRecDepth 100000 in
set_option maxHeartbeats 8000000 in
theorem frames_any {w : World} {lo hi : Nat} {v : Value} {b : List Nat} (hv : Bs w lo hi v b) (hhi : hi ≤ w.heap.size) (hb : ∀ x ∈ b, x < 256) (hlen : b.length ≤ 1099511627776) :
    Calls Try.prog 15 #[v] w (FramesAns w b) := by
  have HV := Lib.hid hv
  have HBB := Lib.hid hb
  have HLEN := Lib.hid hlen
  obtain ⟨A, c, rfl, q1, q2, q3, _⟩ := hv
  have hbc : b.length ≤ c := q1
  have hl63 : (b.length : Int) ≤ 1099511627776 := by omega
  clear q1 q2 q3 hb hlen
  go_enter Try.func15, Try.ntmps15
  go_wp2_with fail
  go_loopw [5, 6, 7, 8, 9, 10] (fun a l k _ _ _ wr => ∃ (cnt m : Nat) (A1 A2 : Option Addr) (c1 c2 : Nat), m ≤ b.length ∧ a = .slice A1 cnt c1 ∧ l = .slice A2 cnt c2 ∧ k = .int .i64 (m : Int) ∧ Hid (Upto b cnt m) ∧ Hid (Fr wr w.heap.size ((frs b 0).take cnt) (.slice A1 cnt c1) (.slice A2 cnt c2)) ∧ Hid (Below w.heap.size w wr))
    (fun _ _ k _ _ _ _ => b.length - (intOf k).toNat)
  case atStart => exact ⟨0, 0, none, none, 0, 0, Nat.zero_le _, rfl, rfl, rfl, Upto.start b, by simpa [Hid] using Fr.nil w w.heap.size, Below.refl _ _⟩
  case round =>
    obtain ⟨cnt, m, A1, A2, c1, c2, hm, rfl, rfl, rfl, HU, HF, HB⟩ := hrel
    obtain ⟨r, hr⟩ : ∃ r, r = b.drop m := ⟨_, rfl⟩
    have hrl : (r.length : Int) = (b.length : Int) - (m : Int) := by rw [hr, List.length_drop]; omega
    have HRL := Lib.hid hrl
    by_cases h8 : r.length < 8
    · have hd : decide ((8 : Int) ≤ (b.length : Int) - (m : Int)) = false := by simp; omega
      have HST := Lib.hid (HU.out.stop (by rw [← hr]; exact whole1_few h8))
      clear h8 hr hrl
      go_wp2_with fail
      go_ret3
      have hfr := HF.out
      rw [HST.out.1, List.take_length] at hfr
      exact ⟨A1, c1, A2, c2, by rw [HST.out.1, HST.out.2]; rfl, hfr, HB.out⟩
    · have hd : decide ((8 : Int) ≤ (b.length : Int) - (m : Int)) = true := by simp; omega
      have h8' : 8 ≤ r.length := by omega
      obtain ⟨n, hn⟩ : ∃ n, n = num4 (r.take 4) := ⟨_, rfl⟩
      have hrb : ∀ x ∈ r, x < 256 := fun x hx => HBB.out x (List.mem_of_mem_drop (by rw [← hr]; exact hx))
      obtain ⟨A3, hA3, hrun⟩ := drop_run A b.length c m hm hbc
      have hbr : Bs wr lo hi (.slice A3 (b.length - m) (c - m)) r := by have := hA3 _ _ _ _ (HV.out.below HB.out hhi); rwa [← hr] at this
      have hrl2 : b.length - m = r.length := by rw [hr, List.length_drop]
      have hrun1 := hrun wr
      have HLN := Lib.hid (rlength_any _ lo hi r wr hbr hrb (by omega))
      rw [← hn] at HLN
      have HRB := Lib.hid hrb
      have HR := Lib.hid hr
      have HN := Lib.hid hn
      have H8 := Lib.hid h8'
      have HRL2 := Lib.hid hrl2
      have hn32 : n < 4294967296 := by rw [hn]; exact num4_lt (by simp; omega) (fun x hx => hrb x (List.mem_of_mem_take hx))
      obtain ⟨g, hg⟩ : ∃ g, (decide (1 ≤ (n : Int)) && decide ((n : Int) ≤ 1048576)) = g := ⟨_, rfl⟩
      have HMAY : Hid (∀ w, Calls Try.prog 28 #[.int .i64 (n : Int)] w fun e w' => e = .returned (.bool g) ∧ w = w') := fun w => by
        have h := rmay_any (n : Int) w
        rw [hg] at h
        exact h
      have HG := Lib.hid hg
      clear h8 hr hrl hn hrb hA3 hrun hbr h8' hrl2 hg
      cases g with
      | false =>
        have hno : whole1 r = none := whole1_bad H8.out (by have h := HG.out; rw [← HN.out]; simp at h; omega)
        have HST := Lib.hid (HU.out.stop (by rw [← HR.out]; exact hno))
        clear hno
        go_wp2_with fail
        refine HLN.out.mono ?_
        rintro e w1 ⟨rfl, hb1⟩
        have HB1 := Lib.hid hb1
        clear hb1
        go_wp2_with fail
        refine (HMAY.out _).mono ?_
        rintro e w2 ⟨rfl, rfl⟩
        go_wp2_with fail
        go_ret3
        have hfr := HF.out.below HB1.out
        rw [HST.out.1, List.take_length] at hfr
        exact ⟨A1, c1, A2, c2, by rw [HST.out.1, HST.out.2]; rfl, hfr, Ext.trans HB.out HB1.out⟩
      | true =>
        by_cases hlong : r.length < n + 8
        · have hd2 : decide ((b.length : Int) - (m : Int) - 8 < (n : Int)) = true := by simp; have := HRL.out; omega
          have hno : whole1 r = none := whole1_long H8.out (by rw [← HN.out]; exact hlong)
          have HST := Lib.hid (HU.out.stop (by rw [← HR.out]; exact hno))
          clear hno hlong
          go_wp2_with fail
          refine HLN.out.mono ?_
          rintro e w1 ⟨rfl, hb1⟩
          have HB1 := Lib.hid hb1
          clear hb1
          go_wp2_with fail
          refine (HMAY.out _).mono ?_
          rintro e w2 ⟨rfl, rfl⟩
          go_wp2_with fail
          go_ret3
          have hfr := HF.out.below HB1.out
          rw [HST.out.1, List.take_length] at hfr
          exact ⟨A1, c1, A2, c2, by rw [HST.out.1, HST.out.2]; rfl, hfr, Ext.trans HB.out HB1.out⟩
        · have hd2 : decide ((b.length : Int) - (m : Int) - 8 < (n : Int)) = false := by simp; have := HRL.out; omega
          have hnl : n + 8 ≤ r.length := by omega
          have hmn : 1 ≤ n ∧ n ≤ 1048576 := by have h := HG.out; simp at h; omega
          have hsum := whole1_sum HRB.out H8.out (by rw [← HN.out]; exact hmn) (by rw [← HN.out]; exact hnl)
          rw [← HN.out, HR.out, mid_drop, mid_drop] at hsum
          have HSUM := Lib.hid hsum
          obtain ⟨Ap, hAp, hrp, _⟩ := cut_run A b.length c (m + 8) (m + (n + 8)) (by omega) (by have := HRL2.out; omega) hbc
          obtain ⟨As, hAs, hrs, _⟩ := cut_run A b.length c (m + 4) (m + 8) (by omega) (by have := HRL2.out; omega) hbc
          have HAP := Lib.hid hAp
          have HAS := Lib.hid hAs
          have hrp2 : ∀ w, (Instr.slice 22 (.slice A b.length c) (some (.int .i64 ((m : Int) + 8))) (some (.int .i64 ((m : Int) + 8 + (n : Int)))) none).run Try.prog w = .ok (.slice Ap n (c - (m + 8))) w := fun w => by
            have h := hrp w
            rw [show m + (n + 8) - (m + 8) = n by omega] at h
            rw [← h]
            congr 4
            omega
          have hrs2 : ∀ w, (Instr.slice 22 (.slice A b.length c) (some (.int .i64 ((m : Int) + 4))) (some (.int .i64 ((m : Int) + 8))) none).run Try.prog w = .ok (.slice As 4 (c - (m + 4))) w := fun w => by
            have h := hrs w
            rw [show m + 8 - (m + 4) = 4 by omega] at h
            exact h
          have HRP := Lib.hid hrp2
          have HRS := Lib.hid hrs2
          have hmn63 : (m : Int) + 8 + (n : Int) ≤ 1099511627776 := by have := HRL2.out; omega
          have HNL := Lib.hid hnl
          have HMN := Lib.hid hmn
          have hconv : (n : Int) % 4294967296 = (n : Int) := by omega
          clear hlong hsum hAp hAs hrp hrs hrp2 hrs2 hnl hmn
          go_wp2_with fail
          refine HLN.out.mono ?_
          rintro e w1 ⟨rfl, hb1⟩
          have HB1 := Lib.hid hb1
          clear hb1
          go_wp2_with fail
          refine (HMAY.out _).mono ?_
          rintro e w2 ⟨rfl, rfl⟩
          have hrp1 := HRP.out w1
          go_wp2_with fail
          refine (rword_any n (by have := HMN.out; omega) w1).mono ?_
          rintro e w3 ⟨v3, rfl, hown3, hb3⟩
          have HX3 : Hid (Ext w1 w3) := hb3
          have HO3 : Hid (Own w1.heap.size (be4 n) v3 w3) := hown3
          obtain ⟨A4, c4, rfl, _, _, _, _⟩ := Sl.of_own hown3
          obtain ⟨P, hP⟩ : ∃ P, P = mid b (m + 8) (m + (n + 8)) := ⟨_, rfl⟩
          obtain ⟨M, hM⟩ : ∃ M, M = mid b (m + 4) (m + 8) := ⟨_, rfl⟩
          have HPL : Hid (P.length = n) := by rw [hP]; unfold Hid; rw [mid_length (by have := HRL2.out; have := HNL.out; omega)]; omega
          have HPB : Hid (∀ x ∈ P, x < 256) := fun x hx => HBB.out x (by rw [hP] at hx; exact List.mem_of_mem_drop (List.mem_of_mem_take hx))
          have HMB : Hid (∀ x ∈ M, x < 256) := fun x hx => HBB.out x (by rw [hM] at hx; exact List.mem_of_mem_drop (List.mem_of_mem_take hx))
          have HPS : Hid (∀ u, Below w.heap.size w u → Bs u lo hi (.slice Ap n (c - (m + 8))) P) := fun u hu => by
            have h := HAP.out _ _ _ _ (HV.out.below hu hhi)
            rw [show m + (n + 8) - (m + 8) = n by omega] at h
            rw [hP]
            unfold mid
            rw [show m + (n + 8) - (m + 8) = n by omega]
            exact h
          have HMS : Hid (∀ u, Below w.heap.size w u → Bs u lo hi (.slice As 4 (c - (m + 4))) M) := fun u hu => by
            have h := HAS.out _ _ _ _ (HV.out.below hu hhi)
            rw [show m + 8 - (m + 4) = 4 by omega] at h
            rw [hM]
            unfold mid
            rw [show m + 8 - (m + 4) = 4 by omega]
            exact h
          have HSUM2 : Hid (whole1 (b.drop m) = if be4 (crc (be4 n ++ P)) = M then some P else none) := by rw [hP, hM]; exact HSUM.out
          have HB13 : Hid (Below w.heap.size w w3) := Ext.trans HB.out (Ext.trans HB1.out HX3.out)
          have HNB := Lib.hid (be4_length n)
          clear hown3 hb3 hP hM hrp1 HSUM
          go_wp2_with (at_builtin; refine wpList_addbytes rfl (.tmp 42) (.tmp 43) rfl w1.heap.size _ (be4 n) rfl HO3.out lo hi (.slice Ap n (c - (m + 8))) P rfl (HPS.out _ HB13.out) ?l1 HX3.out.size ?_)
          case l1 => have := HPL.out; have := HMN.out; rw [be4_length]; omega
          intro A5 c5 w5 hown5 hb5
          have HX5 : Hid (Ext w1 w5) := hb5 w1 HX3.out
          have HO5 := Lib.hid hown5
          clear hown5 hb5
          go_wp2_with fail
          refine (rsum_any _ _ _ (be4 n ++ P) w5 HO5.out.bs (fun x hx => by rcases List.mem_append.1 hx with hx | hx; exact be4_lt _ x hx; exact HPB.out x hx)).mono ?_
          rintro e w6 ⟨rfl, rfl⟩
          go_wp2_with fail
          refine (rword_any _ (crc_lt (fun x hx => by rcases List.mem_append.1 hx with hx | hx; exact be4_lt _ x hx; exact HPB.out x hx)) w5).mono ?_
          rintro e w6 ⟨v6, rfl, hown6, hb6⟩
          obtain ⟨S, hS⟩ : ∃ S, S = be4 (crc (be4 n ++ P)) := ⟨_, rfl⟩
          rw [← hS] at hown6
          have HSB : Hid (∀ x ∈ S, x < 256) := by rw [hS]; exact be4_lt _
          have HSL : Hid (S.length = 4) := by rw [hS]; exact be4_length _
          rw [← hS] at HSUM2
          obtain ⟨A6, c6, rfl, _, _, _, _⟩ := Sl.of_own hown6
          have HX6 : Hid (Ext w1 w6) := Ext.trans HX5.out hb6
          have HO6 : Hid (Own w5.heap.size S (.slice A6 S.length c6) w6) := hown6
          have HB16 : Hid (Below w.heap.size w w6) := Ext.trans HB.out (Ext.trans HB1.out HX6.out)
          clear hown6 hb6 hS
          go_upto_region 9 with (fail)
          have HC1 : Hid (∀ q, (convert 22 9 (.slice A6 S.length c6)).run Try.prog (w6.drewN q) = .ok (.string (tx S)) (w6.drewN q)) := fun q => cv (show Bs (w6.drewN q) _ _ _ _ from (HO6.out.bs))
          have HC2 : Hid (∀ q, (convert 22 9 (.slice As 4 (c - (m + 4)))).run Try.prog (w6.drewN q) = .ok (.string (tx M)) (w6.drewN q)) := fun q => cv (show Bs (w6.drewN q) _ _ _ _ from (HMS.out w6 HB16.out))
          by_cases hSM : S = M
          · have heq : ((tx S).toList == (tx M).toList) = true := by rw [hSM]; simp
            have HNX := Lib.hid (HU.out.next (by rw [HSUM2.out, if_pos hSM]))
            clear hSM
            have hc1 := HC1.out
            have hc2 := HC2.out
            have hrs := HRS.out
            go_quiet (fail)
            clear hc1 hc2 hrs
            obtain ⟨w7, hw7⟩ : ∃ w7, w7 = w6.drewN nq := ⟨_, rfl⟩
            have HX67 : Hid (Ext w6 w7) := by rw [hw7]; exact ⟨rfl, rfl, rfl, Nat.le_refl _, fun _ _ => rfl⟩
            rw [← hw7]
            clear hw7
            have HB17 : Hid (Below w.heap.size w w7) := Ext.trans HB16.out HX67.out
            have HF7 := Lib.hid (HF.out.below (Ext.trans (Ext.trans HB1.out HX6.out) HX67.out))
            have hcl : cnt ≤ b.length := by have := frs_len b; have := HNX.out.1; omega
            have htl : ((frs b 0).take cnt).length = cnt := by rw [List.length_take]; have := HNX.out.1; omega
            have HTL := Lib.hid htl
            have HCL := Lib.hid hcl
            have hat := HF7.out.at_
            rw [htl] at hat
            have HAT := Lib.hid hat
            obtain ⟨i1, hi1, y1, y2, y3⟩ := info_parts tintinfo
            have HI1 := Lib.hid hi1
            obtain ⟨i2, hi2, z1, z2, z3⟩ := info_parts tbytesinfo
            have HI2 := Lib.hid hi2
            clear hcl htl hat hi1 hi2
            go_wp2_with (at_builtin; refine wpList_pushrow rfl (.tmp 57) (.tmp 59) 32 rfl w.heap.size 3 i1 (.int .i64 0) 8 Try.underlying32 HI1.out y1 y2 y3 rfl _ _ _ rfl HAT.out _ rfl _ rfl rfl ?k1 ?k2 HB17.out.size ?_)
            case k1 => have := HCL.out; have := HLEN.out; unfold maxLen; omega
            case k2 => have := HCL.out; have := HLEN.out; omega
            intro A8 c8 w8 hown8 hg8
            have HB78 : Hid (Below w.heap.size w7 w8) := grown_below hg8 (fun g hg => (row_lt HAT.out g hg).1) HB17.out.size
            have HB18 : Hid (Below w.heap.size w w8) := HB17.out.trans HB78.out
            obtain ⟨vs, hvs, hpay⟩ := HF7.out.pay
            rw [HTL.out] at hvs
            have hvs8 := own_while hvs HAT.out (by decide) hg8
            have hpay8 : ∀ (i : Nat) (v : Value), vs[i]? = some v → ∃ x, ((frs b 0).take cnt)[i]? = some x ∧ Own w.heap.size x.2 v w8 := fun i v hv => by
              obtain ⟨x, hx, ho⟩ := hpay i v hv
              exact ⟨x, hx, own_while ho HAT.out (by decide) hg8⟩
            have HVS8 := Lib.hid hvs8
            have HPAY8 := Lib.hid hpay8
            have HOWN8 := Lib.hid hown8
            clear hvs hpay hvs8 hpay8 hown8 hg8
            go_wp2_with (at_builtin; refine wpList_addbytes rfl (.const (.slice none 0 0)) (.tmp 62) rfl w8.heap.size _ [] rfl (Own.nil _ w8) lo hi (.slice Ap n (c - (m + 8))) P rfl (HPS.out _ HB18.out) ?k3 (Nat.le_refl _) ?_)
            case k3 => have := HPL.out; have := HMN.out; simp; omega
            intro A9 c9 w9 hown9 hb9
            have HX9 : Hid (Ext w8 w9) := hb9 w8 (Below.refl _ _)
            have HO9 : Hid (Own w8.heap.size P (.slice A9 P.length c9) w9) := hown9
            have HB19 : Hid (Below w.heap.size w w9) := Ext.trans HB18.out HX9.out
            have HVS9 := Lib.hid (own_below HVS8.out HX9.out (Nat.le_refl _))
            clear hown9 hb9
            go_wp2_with (at_builtin; refine wpList_pushrow rfl (.tmp 61) (.tmp 64) 33 rfl w.heap.size 22 i2 (.slice none 0 0) 24 Try.underlying33 HI2.out z1 z2 z3 rfl _ _ _ rfl HVS9.out _ rfl _ rfl rfl ?k4 ?k5 HB19.out.size ?_)
            case k4 => have := HCL.out; have := HLEN.out; unfold maxLen; omega
            case k5 => have := HCL.out; have := HLEN.out; omega
            intro A10 c10 w10 hown10 hg10
            have HB910 : Hid (Below w.heap.size w9 w10) := grown_below hg10 (fun g hg => (row_lt HVS9.out g hg).1) HB19.out.size
            have htk : (frs b 0).take (cnt + 1) = (frs b 0).take cnt ++ [(m, P)] := by rw [List.take_add_one, HNX.out.2.1]; rfl
            have HFIN : Hid (Fr w10 w.heap.size ((frs b 0).take (cnt + 1)) (.slice A8 (cnt + 1) c8) (.slice A10 (cnt + 1) c10)) := by
              have hl1 : ((frs b 0).take (cnt + 1)).length = cnt + 1 := by rw [htk, List.length_append, HTL.out]; rfl
              have hvl : vs.length = cnt := HVS8.out.1.trans (by omega)
              refine ⟨?_, vs ++ [.slice A9 P.length c9], ?_, fun i v hv => ?_⟩
              · rw [hl1, htk, iv, List.map_append]
                exact own_while (own_below HOWN8.out HX9.out (Nat.le_refl _)) HVS9.out (by decide) hg10
              · rw [hl1]; exact hown10
              · rw [htk]
                rcases Nat.lt_or_ge i cnt with hi | hi
                · rw [List.getElem?_append_left (by omega)] at hv
                  obtain ⟨x, hx, ho⟩ := HPAY8.out i v hv
                  exact ⟨x, by rw [List.getElem?_append_left (by rw [HTL.out]; exact hi)]; exact hx, own_while (ho.below HX9.out) HVS9.out (by decide) hg10⟩
                · have hic : i = cnt := by
                    have := (List.getElem?_eq_some_iff.1 hv).1
                    simp at this
                    omega
                  subst hic
                  rw [List.getElem?_append_right (by omega), hvl, Nat.sub_self] at hv
                  simp at hv
                  subst hv
                  exact ⟨(m, P), by rw [List.getElem?_append_right (by rw [HTL.out]; omega), HTL.out]; simp, own_while (ownsRow_base HO9.out HB18.out.size) HVS9.out (by decide) hg10⟩
            have HB110 : Hid (Below w.heap.size w w10) := HB19.out.trans HB910.out
            clear hown10 hg10 htk
            go_wp2_with fail
            go_roundw
            case rel => exact ⟨cnt + 1, m + (n + 8), A8, A10, c8, c10, by have := HRL2.out; have := HNL.out; omega, rfl, rfl, by have := HMN.out; simp; omega, by have := HNX.out.2.2; rw [HPL.out] at this; exact this, HFIN.out, HB110.out⟩
            case measure => have := HRL2.out; have := HNL.out; simp [intOf]; omega
          · have heq : ((tx S).toList == (tx M).toList) = false := tx_ne HSB.out HMB.out hSM
            have HST := Lib.hid (HU.out.stop (by rw [HSUM2.out, if_neg hSM]))
            clear hSM
            have hc1 := HC1.out
            have hc2 := HC2.out
            have hrs := HRS.out
            go_quiet (fail)
            clear hc1 hc2 hrs
            go_wp2_with fail
            go_ret3
            have hfr := HF.out.below (Ext.trans HB1.out HX6.out)
            rw [HST.out.1, List.take_length] at hfr
            exact ⟨A1, c1, A2, c2, by rw [HST.out.1, HST.out.2]; rfl, hfr.below ⟨rfl, rfl, rfl, Nat.le_refl _, fun _ _ => rfl⟩, Ext.trans HB16.out ⟨rfl, rfl, rfl, Nat.le_refl _, fun _ _ => rfl⟩⟩
end Go.Proofs.Ytkaammdekalgnaa
