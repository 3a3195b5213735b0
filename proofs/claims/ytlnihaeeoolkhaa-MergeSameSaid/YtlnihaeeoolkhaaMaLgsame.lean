/- MergeSame: from the walk to the statement. For every input the law answers true and leaves its arguments as they were. -/
import Derived.Test.YtlnihaeeoolkhaaMa10
import Derived.Test.YtlnihaeeoolkhaaMa9

/- MergeSame: what Keep drops is not seen from its number on; an order that was cut in two is run together again. -/
namespace Go.Proofs.Ytlnihaeeoolkhaa
open Go.ChangeShapes Go.WideShapes Go.ChangeAt Go.RowKit

theorem eslice_from11 (A : Option Addr) (n c k : Nat) (hkn : k ≤ n) (_hc : n ≤ c) (w : World) :
    (Instr.slice 22 (.slice A n c) (some (.int .i64 (k : Int))) none none).run Try.prog w = .ok (.slice (if c = k then A else A.map (·.add (k * 4))) (n - k) (c - k)) w := by
  have he : Try.prog.underlying 22 = some (.slice (Try.prog.elem 22)) := by kernel_rfl
  rw [run_slice_l w 22 A n c he .i64 (k : Int) (by omega) (by omega), esize w]
  simp [Result.andThen, sliced]
theorem of_goes_n {w : World} {A : Option Addr} {L : List (Ent × Hd)} {n : Nat} (h : Es w 0 w.heap.size A L) (hn : L.length = n) (hl : L.length ≤ 1000000) (hk : ∀ p ∈ L, p.1.key.length ≤ 140737488351232 ∧ p.1.val.length ≤ 140737488351232) {c : Nat} :
    Calls Try.prog 11 #[.slice A n c] w fun x w' => ∃ b, x = .returned (.func (.func 31) #[] #[.pointer (some ⟨b, 0, none⟩)]) ∧ Goes 31 #[.pointer (some ⟨b, 0, none⟩)] w'.heap.size (L.map Prod.fst) w' ∧ Ext w w' := by
  subst hn; exact of_goes h hl hk
/-- A func value that goes over these. -/
def GoF (L : List Ent) : Value → World → Prop := fun v u => ∃ gf lb B0, v = .func (.func gf) #[] lb ∧ Goes gf lb B0 L u
theorem GoF.mono (L : List Ent) : Mono (GoF L) := fun _ _ _ ⟨gf, lb, B0, h1, h2⟩ hx => ⟨gf, lb, B0, h1, h2.ext hx⟩
/-- Two of them in a row. -/
def FsF (L1 L2 : List Ent) : Value → World → Prop := fun v u => ∃ (A : Option Addr) (fs : List (Nat × Array Value)) (B0 : Nat), v = .slice A 2 2 ∧ fs.length = 2 ∧ Sl u 0 u.heap.size A (fs.map fv) ∧ B0 ≤ u.heap.size ∧ ∀ (i : Nat) (f : Nat × Array Value) (L : List Ent), fs[i]? = some f → [L1, L2][i]? = some L → Goes f.1 f.2 B0 L u
theorem FsF.mono (L1 L2 : List Ent) : Mono (FsF L1 L2) := fun _ _ _ ⟨A, fs, B0, h1, h2, h3, h4, h5⟩ hx => ⟨A, fs, B0, h1, h2, (h3.below hx (Nat.le_refl _)).wide (Nat.le_refl _) hx.size, Nat.le_trans h4 hx.size, fun i f L h6 h7 => (h5 i f L h6 h7).ext hx⟩
/-- A row of these. -/
def LsF (L : List Ent) : Value → World → Prop := fun v u => ∃ A R c, v = .slice A R.length c ∧ R.map Prod.fst = L ∧ Es u 0 u.heap.size A R
theorem LsF.mono (L : List Ent) : Mono (LsF L) := fun _ _ _ ⟨A, R, c, h1, h2, h3⟩ hx => ⟨A, R, c, h1, h2, es_next11 h3 hx⟩
theorem fs_two {u : World} {L1 L2 : List Ent} {g1 g2 B1 B2 : Nat} {lb1 lb2 : Array Value} (h1 : Goes g1 lb1 B1 L1 u) (h2 : Goes g2 lb2 B2 L2 u) :
    FsF L1 L2 (.slice (some ⟨u.heap.size, 0, none⟩) 2 2) (u.alloc (.cells #[.func (.func g1) #[] lb1, .func (.func g2) #[] lb2] 27)) := by
  refine ⟨_, [(g1, lb1), (g2, lb2)], u.heap.size, rfl, rfl, fs_lit u [(g1, lb1), (g2, lb2)], by simp, fun i f L hf hL => ?_⟩
  match i with
  | 0 =>
    simp only [List.getElem?_cons_zero, Option.some.injEq] at hf hL
    subst hf hL
    exact (h1.high h1.b (Nat.le_refl _)).ext (ext_alloc _ _)
  | 1 =>
    simp only [List.getElem?_cons_succ, List.getElem?_cons_zero, Option.some.injEq] at hf hL
    subst hf hL
    exact (h2.high h2.b (Nat.le_refl _)).ext (ext_alloc _ _)
  | i + 2 => simp at hf

set_option maxRecDepth 100000 in
set_option maxHeartbeats 16000000 in
theorem same_walk (W : World) (A : Option Addr) (c : Nat) (L : List (Ent × Hd)) (hlc : L.length ≤ c) (_hc : c ≤ maxLen) (hE : Es W 0 W.heap.size A L) (hln : ∀ p ∈ L, p.1.key.length ≤ 140737488351232 ∧ p.1.val.length ≤ 140737488351232) (_hn : L.length ≤ 2199023255552) (fl : Int) (wf : (Lit.int .i64 fl).wf = true) (mo : Int) (wm : (Lit.int .i64 mo).wf = true) (ct : Int) (_wc : (Lit.int .i64 ct).wf = true) :
    Calls Try.prog 6 #[.slice A L.length c, .int .i64 fl, .int .i64 mo, .int .i64 ct] W fun e w' => e = .returned (.bool true) ∧ Below W.heap.size W w' := by
  have HE := Lib.hid hE
  have HLN := Lib.hid hln
  have HLC := Lib.hid hlc
  by_cases hbig : 100 < L.length
  · have d : decide ((100 : Int) < (L.length : Int)) = true := by simp; omega
    have dn : decide (100 < L.length) = true := by simp; omega
    clear hE hln hlc hbig
    go_enter Try.func6, Try.ntmps6
    go_wp2_with fail
    refine (known11_any _).mono ?_
    rintro x w9 ⟨rfl, hx⟩
    have HX := Lib.hid hx
    clear hx
    go_wp2_with fail
    go_ret
    exact ⟨rfl, HX.out⟩
  have d : decide ((100 : Int) < (L.length : Int)) = false := by simp; omega
  have dn : decide (100 < L.length) = false := by simp; omega
  have HL100 : Hid (L.length ≤ 100) := by unfold Hid; omega
  have HRIS := Lib.hid (ris11_any (c := c) hE (Nat.le_refl _) (by omega) (fun p hp => (hln p hp).1))
  have wfl := i64_wf wf
  have wmo := i64_wf wm
  clear hE hln hlc hbig wf wm
  by_cases hgood : 0 ≤ mo ∧ mo ≤ 4294967296 ∧ 0 ≤ fl ∧ fl ≤ 4294967296
  rotate_left
  · obtain ⟨y1, hy1⟩ : ∃ y, decide (mo < 0) = y := ⟨_, rfl⟩
    obtain ⟨y2, hy2⟩ : ∃ y, decide (4294967296 < mo) = y := ⟨_, rfl⟩
    obtain ⟨y3, hy3⟩ : ∃ y, decide (fl < 0) = y := ⟨_, rfl⟩
    obtain ⟨y4, hy4⟩ : ∃ y, decide (4294967296 < fl) = y := ⟨_, rfl⟩
    have HOR : Hid ((y1 || y2 || y3 || y4) = true) := by
      unfold Hid
      rw [← hy1, ← hy2, ← hy3, ← hy4]
      simp only [Bool.or_eq_true, decide_eq_true_eq]
      omega
    clear hgood wfl wmo
    cases y1 <;> cases y2 <;> cases y3 <;> cases y4
    case false.false.false.false => exact absurd HOR.out (by decide)
    all_goals
      clear HOR
      go_enter Try.func6, Try.ntmps6
      go_wp2_with fail
      refine HRIS.out.mono ?_
      rintro x w1 ⟨z, hz, rfl, hx⟩
      have HX1 := Lib.hid hx
      clear hx hz
      cases z
      all_goals
        go_wp2_with fail
        refine (known11_any _).mono ?_
        rintro x w9 ⟨rfl, hx⟩
        have HX9 := Lib.hid hx
        clear hx
        go_wp2_with fail
        go_ret
        exact ⟨rfl, HX1.out.trans HX9.out⟩
  obtain ⟨m1, m2, m3, m4⟩ := hgood
  have hy1 : decide (mo < 0) = false := by simp; omega
  have hy2 : decide (4294967296 < mo) = false := by simp; omega
  have hy3 : decide (fl < 0) = false := by simp; omega
  have hy4 : decide (4294967296 < fl) = false := by simp; omega
  have HSUM : Hid (wrap64 (fl + mo) = fl + mo) := by unfold Hid wrap64; omega
  have HMO : Hid (0 ≤ mo) := m1
  obtain ⟨s, hs⟩ : ∃ s, s = fl + mo := ⟨_, rfl⟩
  have HSV : Hid (fl ≤ s) := by unfold Hid; omega
  have hsum : wrap64 (fl + mo) = s := by rw [hs]; exact HSUM.out
  have hsum2 : IntKind.i64.wrap (fl + mo) = s := (IntWalk.i64_in _ (by omega)).trans hs.symm
  clear wfl wmo m1 m2 m3 m4 hs HSUM
  have hcuts : ∃ (k : Nat) (y1 y2 : Bool), k ≤ L.length ∧ decide (ct < 0) = y1 ∧ decide ((L.length : Int) < ct) = y2 ∧ ((y1 = true ∧ k = L.length) ∨ (y1 = false ∧ y2 = true ∧ k = L.length) ∨ (y1 = false ∧ y2 = false ∧ ct = (k : Int))) := by
    by_cases h0 : ct < 0
    · exact ⟨L.length, true, decide ((L.length : Int) < ct), Nat.le_refl _, by simp [h0], rfl, .inl ⟨rfl, rfl⟩⟩
    · by_cases h1 : (L.length : Int) < ct
      · exact ⟨L.length, false, true, Nat.le_refl _, by simp [h0], by simp [h1], .inr (.inl ⟨rfl, rfl, rfl⟩)⟩
      · exact ⟨ct.toNat, false, false, by omega, by simp [h0], by simp [h1], .inr (.inr ⟨rfl, rfl, by omega⟩)⟩
  obtain ⟨k, y1, y2, hk, hd1, hd2, hcase⟩ := hcuts
  have HK := Lib.hid hk
  obtain ⟨n, hn⟩ : ∃ n, n = L.length := ⟨_, rfl⟩
  have HN := Lib.hid hn
  have hkc : (k : Int) ≤ (c : Int) := by have := HLC.out; omega
  have hk0 : (0 : Int) ≤ (k : Int) := by omega
  have hnI : (n : Int) ≤ 100 := by have := HL100.out; omega
  have hKn : Hid (k ≤ n) := by unfold Hid; omega
  rw [← hn] at d dn hd2 hcase ⊢
  clear hk hn
  obtain ⟨kv, hkv⟩ : ∃ kv : Int, kv = (k : Int) := ⟨_, rfl⟩
  have hcase2 : (y1 = true ∧ (n : Int) = kv) ∨ (y1 = false ∧ y2 = true ∧ (n : Int) = kv) ∨ (y1 = false ∧ y2 = false ∧ ct = kv) := by
    rcases hcase with ⟨h1, h2⟩ | ⟨h1, h2, h3⟩ | ⟨h1, h2, h3⟩
    · exact .inl ⟨h1, by omega⟩
    · exact .inr (.inl ⟨h1, h2, by omega⟩)
    · exact .inr (.inr ⟨h1, h2, by omega⟩)
  have HKV := Lib.hid hkv
  clear hcase hkv
  have HC2 := Lib.hid hcase2
  clear hcase2
  go_enter Try.func6, Try.ntmps6
  go_wp2_with fail
  have hris := HRIS.out
  rw [← HN.out] at hris
  refine hris.mono ?_
  rintro x w1 ⟨z, hz, rfl, hx⟩
  have HX1 : Hid (Ext W w1) := hx
  have HZ := Lib.hid hz
  clear hx hz hris
  cases z with
  | false =>
    go_wp2_with fail
    refine (known11_any _).mono ?_
    rintro x w9 ⟨rfl, hx⟩
    have HX9 := Lib.hid hx
    clear hx
    go_wp2_with fail
    go_ret
    exact ⟨rfl, HX1.out.trans HX9.out⟩
  | true =>
  have HRI : Hid (Rise (L.map Prod.fst)) := HZ.out.1 rfl
  go_upto_if 40 with (fail)
  go_cut [8] (fun v wx => v = .bool false ∧ wx = w1)
  case first =>
    go_wp2_with fail
    go_meet
    case rel => exact ⟨rfl, rfl⟩
  case rest =>
    rename_i K1 hK1
    obtain ⟨rfl, rfl⟩ := hcut
    refine hK1 _ _ (wp_seq_k fun K2 hK2 => ?_)
    go_cut [3] (fun v wx => v = .int .i64 kv ∧ wx = wc)
    case first =>
      rcases HC2.out with ⟨rfl, hkn⟩ | ⟨rfl, rfl, hkn⟩ | ⟨rfl, rfl, hkn⟩
      · have HKN := Lib.hid hkn
        clear hkn
        go_wp2_with fail
        go_meet
        case rel => exact ⟨by rw [HKN.out], rfl⟩
      · have HKN := Lib.hid hkn
        clear hkn
        go_wp2_with fail
        go_meet
        case rel => exact ⟨by rw [HKN.out], rfl⟩
      · subst hkn
        go_wp2_with fail
        go_meet
        case rel => exact ⟨rfl, rfl⟩
    case rest =>
      obtain ⟨rfl, rfl⟩ := hcut
      refine hK2 _ _ ?_
      obtain ⟨w1, rfl⟩ : ∃ u, u = wc := ⟨_, rfl⟩
      rw [HKV.out]
      clear HC2 HKV hd1 hd2
      go_wp2_with fail
      refine (of_goes_n (L := L) (c := c) (n := n) (es_next11 HE.out (HX1.out)) HN.out.symm (by have := HL100.out; omega) HLN.out).mono ?_
      rintro x w2 ⟨b1, rfl, hg, hx⟩
      have HX2 := Lib.hid hx
      have HG1 := Lib.hid hg
      clear hx hg
      go_wp2_with fail
      refine (seen_goes HG1.out s).mono ?_
      rintro x w3 ⟨lb2, rfl, hg, hx⟩
      have HX3 := Lib.hid hx
      have HPA := Lib.hid hg
      clear hx hg
      go_wp2_with fail
      refine (pairs_goes HPA.out 0).mono ?_
      rintro x w4 hx
      obtain ⟨YA, cyA, RA, rfl, h1, h2, h3⟩ := hx.ps
      have HSA := Lib.hid h1
      have HRA : Hid (RA.map Prod.fst = wantL (seesB s) (seenN s) none (L.map Prod.fst)) := by rw [h2]; exact rfl
      have HX4 := Lib.hid h3
      clear hx h1 h2 h3
      go_wp2_with fail
      refine (of_goes_n (L := L) (c := c) (n := n) (es_next11 HE.out (HX1.out.trans ((HX2.out.trans HX3.out).trans HX4.out))) HN.out.symm (by have := HL100.out; omega) HLN.out).mono ?_
      rintro x w5 ⟨b4, rfl, hg, hx⟩
      have HX5 := Lib.hid hx
      have HG2 := Lib.hid hg
      clear hx hg
      go_wp2_with fail
      refine (keep_goes HG2.out fl false).mono ?_
      rintro x w6 ⟨lb5, rfl, hg, hx⟩
      have HX6 := Lib.hid hx
      have HK2 := Lib.hid hg
      clear hx hg
      go_wp2_with fail
      refine (seen_goes HK2.out s).mono ?_
      rintro x w7 ⟨lb6, rfl, hg, hx⟩
      have HX7 := Lib.hid hx
      have HPB := Lib.hid hg
      clear hx hg
      go_wp2_with fail
      refine (pairs_goes HPB.out 0).mono ?_
      rintro x w8 hx
      obtain ⟨YB, cyB, RB, rfl, h1, h2, h3⟩ := hx.ps
      have HSB := Lib.hid h1
      have HRB : Hid (RB.map Prod.fst = wantL (seesB s) (seenN s) none (L.map Prod.fst)) := by rw [h2]; exact sees_keeps HSV.out HRI.out
      have HX8 := Lib.hid h3
      clear hx h1 h2 h3
      go_wp2_with fail
      refine (of_goes_n (L := L) (c := c) (n := n) (es_next11 HE.out (HX1.out.trans ((((((HX2.out.trans HX3.out).trans HX4.out).trans HX5.out).trans HX6.out).trans HX7.out).trans HX8.out))) HN.out.symm (by have := HL100.out; omega) HLN.out).mono ?_
      rintro x w9 ⟨b8, rfl, hg, hx⟩
      have HX9 := Lib.hid hx
      have HG3 := Lib.hid hg
      clear hx hg
      go_wp2_with fail
      refine (keep_goes HG3.out fl true).mono ?_
      rintro x w10 ⟨lb9, rfl, hg, hx⟩
      have HX10 := Lib.hid hx
      have HK3 := Lib.hid hg
      clear hx hg
      go_wp2_with fail
      refine (seen_goes HK3.out s).mono ?_
      rintro x w11 ⟨lb10, rfl, hg, hx⟩
      have HX11 := Lib.hid hx
      have HPC := Lib.hid hg
      clear hx hg
      go_wp2_with fail
      refine (pairs_goes HPC.out 0).mono ?_
      rintro x w12 hx
      obtain ⟨YC, cyC, RC, rfl, h1, h2, h3⟩ := hx.ps
      have HSC := Lib.hid h1
      have HRC : Hid (RC.map Prod.fst = wantL (seesB s) (seenN s) none (L.map Prod.fst)) := by rw [h2]; exact sees_keeps HSV.out HRI.out
      have HX12 := Lib.hid h3
      clear hx h1 h2 h3
      obtain ⟨fo, hfo⟩ : ∃ f : Nat → Ent → Bool, f = fun i _ => decide (i % 2 = k % 2) := ⟨_, rfl⟩
      obtain ⟨fe, hfe⟩ : ∃ f : Nat → Ent → Bool, f = fun i _ => !decide (i % 2 = k % 2) := ⟨_, rfl⟩
      have HFO := Lib.hid hfo
      have HFE := Lib.hid hfe
      have HES := Lib.hid (es_next11 HE.out (HX1.out.trans ((((((((((HX2.out.trans HX3.out).trans HX4.out).trans HX5.out).trans HX6.out).trans HX7.out).trans HX8.out).trans HX9.out).trans HX10.out).trans HX11.out).trans HX12.out)))
      clear hfo hfe
      go_wp2_with fail
      go_loopw [12, 13, 14] (fun vo ve a wr => ∃ i : Nat, a = .int .i64 (i : Int) ∧ i ≤ n ∧ Hid (TwoE w12.heap.size w12 (pickE fo L i) (pickE fe L i) vo ve wr)) (fun _ _ a _ => n - (intOf a).toNat)
      case atStart => exact ⟨0, rfl, Nat.zero_le _, ⟨World.ownsRow_nil _ _ _ _, World.ownsRow_nil _ _ _ _, fun g hg => (by cases hg), Below.refl _ _⟩⟩
      case round =>
        obtain ⟨i, rfl, hi, HT⟩ := hrel
        by_cases hlt : i < n
        · have d1 : decide ((i : Int) < (n : Int)) = true := by simp; omega
          have d2 : decide (i < n) = true := by simp; omega
          obtain ⟨p, hp⟩ : ∃ p, L[i]? = some p := ⟨_, List.getElem?_eq_getElem (by have := HN.out; omega)⟩
          obtain ⟨gb, go, hA⟩ := HES.out.base (by have := (List.getElem?_eq_some_iff.1 hp).1; omega)
          obtain ⟨Ro, hRo⟩ : ∃ R, R = pickE fo L i := ⟨_, rfl⟩
          obtain ⟨Re, hRe⟩ : ∃ R, R = pickE fe L i := ⟨_, rfl⟩
          rw [← hRo, ← hRe] at HT
          have HRE := Lib.hid (And.intro hRo hRe)
          clear hRo hRe
          obtain ⟨vo1, co1, rfl, _, _⟩ := HT.out.r.sl
          obtain ⟨ve1, ce1, rfl, _, _⟩ := HT.out.s.sl
          have hes := HES.out.below HT.out.low (Nat.le_refl _)
          rw [hA] at hes
          obtain ⟨c0, c1, c2, c3⟩ := hes.get hp
          have HP := Lib.hid hp
          have HLT := Lib.hid hlt
          have HA := Lib.hid hA
          have n1 : (0 : Int) ≤ (i : Int) := by omega
          have n2 : (i : Int) < (n : Int) := by omega
          have HSZ : Hid (w12.heap.size ≤ wr.heap.size) := HT.out.low.size
          have HLO : Hid (Ro.length ≤ 1000 ∧ Re.length ≤ 1000) := by have h8 := pickE_le fo L i; have h9 := pickE_le fe L i; rw [← HRE.out.1] at h8; rw [← HRE.out.2] at h9; have : i ≤ 100 := (by omega); exact ⟨by omega, by omega⟩
          have HW : Hid (IntKind.i64.wrap ((i : Int) + 1) = ((i + 1 : Nat) : Int)) := (IntWalk.i64_in _ (by omega)).trans (by omega)
          have HW2 : Hid (wrap64 ((i : Int) + 1) = ((i + 1 : Nat) : Int)) := by unfold Hid wrap64; omega
          simp only [hA]
          clear hes hp hi hlt hA
          by_cases hpar : i % 2 = k % 2
          · have e1 : ((i : Int) % 2 == (k : Int) % 2) = true := by rw [beq_iff_eq]; omega
            have HF : Hid (fo i p.1 = true ∧ fe i p.1 = false) := ⟨by rw [HFO.out]; simp [hpar], by rw [HFE.out]; simp [hpar]⟩
            clear hpar
            go_wp2_with (at_builtin; refine wpList_pushe2 rfl (.tmp 88) (.tmp 93) rfl w12.heap.size (.slice vo1 Ro.length co1) Ro rfl (HT.out.r.below (ext_alloc _ _)) p wr.heap.size rfl (heap_at _ _ rfl) (by have := HLO.out; omega) (Nat.le_trans HSZ.out (by simp)) ?_; intro A5 c5 w5 ho5 hg5 hat5; have HO5 := Lib.hid ho5; have HG5 := Lib.hid hg5; have HA5 := Lib.hid hat5; clear ho5 hg5 hat5 c0 c1 c2 c3)
            have hnx := HT.out.push HSZ.out HO5.out HG5.out HA5.out
            have x1 : pickE fo L (i + 1) = Ro ++ [p] := by rw [pickE_yes HP.out HF.out.1, HRE.out.1]
            have x2 : pickE fe L (i + 1) = Re := by rw [pickE_no HP.out HF.out.2, HRE.out.2]
            refine ⟨⟨i + 1, by first | rfl | rw [HW.out] | rw [HW2.out], HLT.out, ?_⟩, by first | rw [HW2.out] | skip; have := HLT.out; simp [intOf]; omega⟩
            rw [x1, x2]; exact hnx
          · have e1 : ((i : Int) % 2 == (k : Int) % 2) = false := by rw [beq_eq_false_iff_ne]; omega
            have HF : Hid (fo i p.1 = false ∧ fe i p.1 = true) := ⟨by rw [HFO.out]; simp [hpar], by rw [HFE.out]; simp [hpar]⟩
            clear hpar
            go_wp2_with (at_builtin; refine wpList_pushe2 rfl (.tmp 95) (.tmp 100) rfl w12.heap.size (.slice ve1 Re.length ce1) Re rfl (HT.out.s.below (ext_alloc _ _)) p wr.heap.size rfl (heap_at _ _ rfl) (by have := HLO.out; omega) (Nat.le_trans HSZ.out (by simp)) ?_; intro A5 c5 w5 ho5 hg5 hat5; have HO5 := Lib.hid ho5; have HG5 := Lib.hid hg5; have HA5 := Lib.hid hat5; clear ho5 hg5 hat5 c0 c1 c2 c3)
            have hnx := (HT.out.turn.push HSZ.out HO5.out HG5.out HA5.out).turn
            have x1 : pickE fe L (i + 1) = Re ++ [p] := by rw [pickE_yes HP.out HF.out.2, HRE.out.2]
            have x2 : pickE fo L (i + 1) = Ro := by rw [pickE_no HP.out HF.out.1, HRE.out.1]
            refine ⟨⟨i + 1, by first | rfl | rw [HW.out] | rw [HW2.out], HLT.out, ?_⟩, by first | rw [HW2.out] | skip; have := HLT.out; simp [intOf]; omega⟩
            rw [x1, x2]; exact hnx
        · have d1 : decide ((i : Int) < (n : Int)) = false := by simp; omega
          have d2 : decide (i < n) = false := by simp; omega
          obtain rfl : i = n := by omega
          clear hlt hi
          obtain ⟨Ro, hRo⟩ : ∃ R, R = pickE fo L i := ⟨_, rfl⟩
          obtain ⟨Re, hRe⟩ : ∃ R, R = pickE fe L i := ⟨_, rfl⟩
          rw [← hRo, ← hRe] at HT
          obtain ⟨Ao, co, rfl, so, _, _⟩ := HT.out.r.sl
          obtain ⟨Ae, ce, rfl, se, _, _⟩ := HT.out.s.sl
          have HXL : Hid (Ext w12 wr) := HT.out.low
          have hmo : ∀ p ∈ Ro, p ∈ L := fun p hp => by rw [hRo] at hp; exact pickE_mem hp
          have hme : ∀ p ∈ Re, p ∈ L := fun p hp => by rw [hRe] at hp; exact pickE_mem hp
          have HESL := Lib.hid (es_next11 HES.out HXL.out)
          have HEO : Hid (Es wr 0 wr.heap.size Ao Ro) := ⟨so.wide (Nat.zero_le _) (Nat.le_refl _), fun p hp => HESL.out.each p (hmo p hp)⟩
          have HEE : Hid (Es wr 0 wr.heap.size Ae Re) := ⟨se.wide (Nat.zero_le _) (Nat.le_refl _), fun p hp => HESL.out.each p (hme p hp)⟩
          have HMM := Lib.hid (And.intro hmo hme)
          have hlo : Ro.length ≤ 100 ∧ Re.length ≤ 100 := by have h8 := pickE_le fo L i; have h9 := pickE_le fe L i; rw [← hRo] at h8; rw [← hRe] at h9; omega
          have HLO := Lib.hid hlo
          have HJ : Hid (joinF (totL [Ro.map Prod.fst, Re.map Prod.fst]) [Ro.map Prod.fst, Re.map Prod.fst] = L.map Prod.fst) := by
            have h9 := join_pick (f := fo) (g := fe) HRI.out (fun i e => by rw [HFO.out, HFE.out])
            rw [← HN.out, ← hRo, ← hRe] at h9
            exact h9
          obtain ⟨X, hX⟩ : ∃ X : Option Addr, X = if c = k then A else Option.map (fun q : Addr => q.add (k * 4)) A := ⟨_, rfl⟩
          have HSL := Lib.hid (fun W => eslice_from11 A i c k hKn.out (by have := HLC.out; have := HN.out; omega) W)
          rw [← hX] at HSL
          have HT1 : Hid (Es wr 0 wr.heap.size A (L.take k)) := HESL.out.take HK.out
          have HT2 : Hid (Es wr 0 wr.heap.size X (L.drop k)) := by rw [hX]; exact HESL.out.drop HK.out HLC.out
          have HSH : Hid (totL [(L.map Prod.fst).take k, (L.map Prod.fst).drop k] ≤ 1000000) := by
            have := HL100.out
            simp only [totL, List.map_cons, List.map_nil, List.sum_cons, List.sum_nil, List.length_map, List.length_take, List.length_drop]
            unfold Hid; omega
          have HJ2 : Hid (joinF (totL [(L.map Prod.fst).take k, (L.map Prod.fst).drop k]) [(L.map Prod.fst).take k, (L.map Prod.fst).drop k] = L.map Prod.fst) := join_cut HRI.out k
          clear hRo hRe so se hmo hme hlo hX
          have n3 : (k : Int) ≤ (i : Int) := by have := hKn.out; omega
          have n4 : k ≤ c := by have := HK.out; have := HLC.out; omega
          go_upto_region 15 with (fail)
          refine flow (by kernel_rfl) [Is (.slice A i c), Is (.int .i64 (k : Int)), Is (.slice A k c), GoF ((L.map Prod.fst).take k), Is (.slice A i c), Is (.int .i64 (k : Int)), Is (.slice X (i - k) (c - k)), GoF ((L.map Prod.fst).drop k), FsF ((L.map Prod.fst).take k) ((L.map Prod.fst).drop k), GoF (L.map Prod.fst), LsF (L.map Prod.fst), LsF (L.map Prod.fst)] (by kernel_rfl) (by kernel_rfl) ?mono (fun f1 => ?obl) ?fin
          case mono =>
            simp only [List.forall_mem_cons, List.not_mem_nil, false_imp_iff, implies_true, and_true]
            exact ⟨.is _, .is _, .is _, GoF.mono _, .is _, .is _, .is _, GoF.mono _, FsF.mono _ _, GoF.mono _, LsF.mono _, LsF.mono _⟩
          case fin =>
            intro g1 u hu hg
            simp only [puts, Act.put, List.setIfInBounds_toArray, List.set_cons_zero, List.set_cons_succ]
            obtain ⟨A15, R15, c15, h15, h151, h152⟩ := (hg 11 (by decide) : LsF _ (g1 11) u)
            rw [h15]
            have HX101 : Hid (Ext wr u) := Ext.trans (Ext.drew wr) hu
            have HR15 := Lib.hid h151
            have HS15 := Lib.hid h152
            obtain ⟨w101, rfl⟩ : ∃ q, q = u := ⟨_, rfl⟩
            clear h15 hg hu h151 h152
            go_wp2_with fail
            refine (of_goes_n (L := Ro) (c := co) (n := Ro.length) (es_next11 HEO.out HX101.out) rfl (by have := HLO.out; omega) (fun p hp => HLN.out p (HMM.out.1 p hp))).mono ?_
            rintro x w102 ⟨b101, rfl, hg, hx⟩
            have HX102 := Lib.hid hx
            have HGo := Lib.hid hg
            clear hx hg
            go_wp2_with fail
            refine (of_goes_n (L := Re) (c := ce) (n := Re.length) (es_next11 HEE.out (HX101.out.trans HX102.out)) rfl (by have := HLO.out; omega) (fun p hp => HLN.out p (HMM.out.2 p hp))).mono ?_
            rintro x w103 ⟨b102, rfl, hg, hx⟩
            have HX103 := Lib.hid hx
            have HGe := Lib.hid hg
            clear hx hg
            obtain ⟨w104, hw104⟩ : ∃ u, u = w103.alloc (.cells #[.func (.func 31) #[] #[.pointer (some ⟨b101, 0, none⟩)], .func (.func 31) #[] #[.pointer (some ⟨b102, 0, none⟩)]] 27) := ⟨_, rfl⟩
            have HX104 : Hid (Ext w103 w104) := by rw [hw104]; exact ext_alloc _ _
            have HFS : Hid (FsF (Ro.map Prod.fst) (Re.map Prod.fst) (.slice (some ⟨w103.heap.size, 0, none⟩) 2 2) w104) := by rw [hw104]; exact fs_two (HGo.out.ext HX103.out) HGe.out
            obtain ⟨A9, fs9, B9, e8, h81, h82, h83, h84⟩ := HFS.out
            injection e8 with e8 _ _
            subst e8
            have HC := Lib.hid (join_goes (c := 2) (Ls := [Ro.map Prod.fst, Re.map Prod.fst]) h82 (Nat.le_refl _) (by rw [h81]; rfl) (by simp) (by simp only [totL, List.map_cons, List.map_nil, List.sum_cons, List.sum_nil, List.length_map]; have := HLO.out; omega) h84 h83)
            rw [HJ.out, h81] at HC
            clear h81 h82 h83 h84
            go_wp2_with fail
            rw [← hw104]; clear hw104
            refine HC.out.mono ?_
            rintro x w105 ⟨lb104, rfl, hg, hx⟩
            have HX105 := Lib.hid hx
            have HGJ := Lib.hid hg
            clear hg hx
            go_wp2_with fail
            refine (list_goes HGJ.out 0).mono ?_
            rintro x w106 hx
            obtain ⟨Y16, c16, R16, rfl, h1, h2, h3⟩ := hx.es
            have HR16 : Hid (R16.map Prod.fst = L.map Prod.fst) := h2
            have HS16 := Lib.hid h1
            have HX106 := Lib.hid h3
            clear hx h1 h2 h3
            have HPA := Lib.hid (ps_next11 HSA.out ((((((((HX5.out.trans HX6.out).trans HX7.out).trans HX8.out).trans HX9.out).trans HX10.out).trans HX11.out).trans HX12.out).trans (HXL.out.trans ((((((HX101.out).trans HX102.out).trans HX103.out).trans HX104.out).trans HX105.out).trans HX106.out))))
            have HPB := Lib.hid (ps_next11 HSB.out ((((HX9.out.trans HX10.out).trans HX11.out).trans HX12.out).trans (HXL.out.trans ((((((HX101.out).trans HX102.out).trans HX103.out).trans HX104.out).trans HX105.out).trans HX106.out))))
            have HPC := Lib.hid (ps_next11 HSC.out (HXL.out.trans ((((((HX101.out).trans HX102.out).trans HX103.out).trans HX104.out).trans HX105.out).trans HX106.out)))
            have HE15 := Lib.hid (es_next11 HS15.out (((((HX102.out).trans HX103.out).trans HX104.out).trans HX105.out).trans HX106.out))
            have HEL := Lib.hid (es_next11 HESL.out ((((((HX101.out).trans HX102.out).trans HX103.out).trans HX104.out).trans HX105.out).trans HX106.out))
            have HAL : Hid (RA.length ≤ 1000000000) := by have h9 := congrArg List.length HRA.out; rw [List.length_map] at h9; have h8 := wantL_len (L.map Prod.fst) none (fw := seesB s) (nx := seenN s); rw [List.length_map] at h8; have := HL100.out; unfold Hid; omega
            have H15L : Hid (R15.length ≤ 1000000000) := by have h9 := congrArg List.length HR15.out; rw [List.length_map, List.length_map] at h9; have := HL100.out; unfold Hid; omega
            have H16L : Hid (R16.length ≤ 1000000000) := by have h9 := congrArg List.length HR16.out; rw [List.length_map, List.length_map] at h9; have := HL100.out; unfold Hid; omega
            go_wp2_with fail
            refine (samep11_any HPA.out HPB.out (Nat.le_refl _) (Nat.le_refl _) HAL.out (by rw [HRA.out, HRB.out])).mono ?_
            rintro x w107 ⟨rfl, hx⟩
            have HX107 := Lib.hid hx
            clear hx
            go_wp2_with fail
            refine (samep11_any (ps_next11 HPA.out HX107.out) (ps_next11 HPC.out HX107.out) (Nat.le_refl _) (Nat.le_refl _) HAL.out (by rw [HRA.out, HRC.out])).mono ?_
            rintro x w108 ⟨rfl, hx⟩
            have HX108 := Lib.hid hx
            clear hx
            go_wp2_with fail
            refine (same11_yes (es_next11 HE15.out (HX107.out.trans HX108.out)) (es_next11 HEL.out (HX107.out.trans HX108.out)) rfl HN.out.symm HR15.out H15L.out).mono ?_
            rintro x w109 ⟨rfl, hx⟩
            have HX109 := Lib.hid hx
            clear hx
            go_wp2_with fail
            refine (same11_yes (es_next11 HS16.out ((HX107.out.trans HX108.out).trans HX109.out)) (es_next11 HEL.out ((HX107.out.trans HX108.out).trans HX109.out)) rfl HN.out.symm HR16.out H16L.out).mono ?_
            rintro x w110 ⟨rfl, hx⟩
            have HX110 := Lib.hid hx
            clear hx
            go_wp2_with fail
            refine (known11_any _).mono ?_
            rintro x w111 ⟨rfl, hx⟩
            have HX111 := Lib.hid hx
            clear hx
            go_wp2_with fail
            go_ret
            exact ⟨rfl, (((((((HX1.out.trans ((((((((((HX2.out.trans HX3.out).trans HX4.out).trans HX5.out).trans HX6.out).trans HX7.out).trans HX8.out).trans HX9.out).trans HX10.out).trans HX11.out).trans HX12.out)).trans (HXL.out.trans ((((((HX101.out).trans HX102.out).trans HX103.out).trans HX104.out).trans HX105.out).trans HX106.out))).trans HX107.out).trans HX108.out).trans HX109.out).trans HX110.out).trans HX111.out)⟩
          case obl =>
            refine ⟨fun u hu hd => ?_, ?_⟩
            · go_simp
              exact ⟨Ext.refl _, rfl⟩
            refine ⟨fun u hu hd => ?_, ?_⟩
            · simp only [Act.put, List.setIfInBounds_toArray, List.set_cons_zero, List.set_cons_succ]
              go_simp
              exact ⟨Ext.refl _, rfl⟩
            refine ⟨fun u hu hd => ?_, ?_⟩
            · simp only [Act.put, List.setIfInBounds_toArray, List.set_cons_zero, List.set_cons_succ]
              have e0 : f1 0 = .slice A i c := hd 0 (by kernel_rfl)
              have e1 : f1 1 = .int .i64 (k : Int) := hd 1 (by kernel_rfl)
              go_simp
              exact ⟨Ext.refl _, rfl⟩
            refine ⟨fun u hu hd => ?_, ?_⟩
            · simp only [Act.put, List.setIfInBounds_toArray, List.set_cons_zero, List.set_cons_succ]
              have e2 : f1 2 = .slice A k c := hd 2 (by kernel_rfl)
              have e2 : f1 2 = .slice A k c := hd 2 (by kernel_rfl)
              have hu2 := Ext.trans (Ext.drew wr) hu
              have HC := Lib.hid (of_goes_n (L := L.take k) (n := k) (c := c) (es_next11 HT1.out hu2) (by rw [List.length_take]; have := HK.out; omega) (by rw [List.length_take]; have := HL100.out; omega) (fun p hp => HLN.out p (List.mem_of_mem_take hp)))
              clear hd hu
              go_simp
              refine HC.out.mono ?_
              rintro e w9 ⟨b9, rfl, hg9, hx9⟩
              rw [List.map_take] at hg9
              exact ⟨_, rfl, hx9, _, _, _, rfl, hg9⟩
            refine ⟨fun u hu hd => ?_, ?_⟩
            · simp only [Act.put, List.setIfInBounds_toArray, List.set_cons_zero, List.set_cons_succ]
              go_simp
              exact ⟨Ext.refl _, rfl⟩
            refine ⟨fun u hu hd => ?_, ?_⟩
            · simp only [Act.put, List.setIfInBounds_toArray, List.set_cons_zero, List.set_cons_succ]
              go_simp
              exact ⟨Ext.refl _, rfl⟩
            refine ⟨fun u hu hd => ?_, ?_⟩
            · simp only [Act.put, List.setIfInBounds_toArray, List.set_cons_zero, List.set_cons_succ]
              have e4 : f1 4 = .slice A i c := hd 4 (by kernel_rfl)
              have e5 : f1 5 = .int .i64 (k : Int) := hd 5 (by kernel_rfl)
              have hs := HSL.out
              go_simp
              exact ⟨Ext.refl _, rfl⟩
            refine ⟨fun u hu hd => ?_, ?_⟩
            · simp only [Act.put, List.setIfInBounds_toArray, List.set_cons_zero, List.set_cons_succ]
              have e6 : f1 6 = .slice X (i - k) (c - k) := hd 6 (by kernel_rfl)
              have e6 : f1 6 = .slice X (i - k) (c - k) := hd 6 (by kernel_rfl)
              have hu2 := Ext.trans (Ext.drew wr) hu
              have HC := Lib.hid (of_goes_n (L := L.drop k) (n := i - k) (c := c - k) (es_next11 HT2.out hu2) (by rw [List.length_drop]; have := HN.out; omega) (by rw [List.length_drop]; have := HL100.out; omega) (fun p hp => HLN.out p (List.mem_of_mem_drop hp)))
              clear hd hu
              go_simp
              refine HC.out.mono ?_
              rintro e w9 ⟨b9, rfl, hg9, hx9⟩
              rw [List.map_drop] at hg9
              exact ⟨_, rfl, hx9, _, _, _, rfl, hg9⟩
            refine ⟨fun u hu hd => ?_, ?_⟩
            · simp only [Act.put, List.setIfInBounds_toArray, List.set_cons_zero, List.set_cons_succ]
              obtain ⟨g3, lb3, B3, e3, hg3⟩ := (hd 3 (by kernel_rfl) : GoF _ (f1 3) u)
              obtain ⟨g7, lb7, B7, e7, hg7⟩ := (hd 7 (by kernel_rfl) : GoF _ (f1 7) u)
              have H9 := Lib.hid (fs_two hg3 hg7)
              clear hd hu hg3 hg7
              go_simp
              exact ⟨ext_alloc _ _, H9.out⟩
            refine ⟨fun u hu hd => ?_, ?_⟩
            · simp only [Act.put, List.setIfInBounds_toArray, List.set_cons_zero, List.set_cons_succ]
              obtain ⟨A9, fs9, B9, e8, h81, h82, h83, h84⟩ := (hd 8 (by kernel_rfl) : FsF _ _ (f1 8) u)
              have HC := Lib.hid (join_goes (c := 2) (Ls := [((L.map Prod.fst).take k), ((L.map Prod.fst).drop k)]) h82 (Nat.le_refl _) (by rw [h81]; rfl) (by simp) HSH.out h84 h83)
              rw [HJ2.out, h81] at HC
              clear hd hu h81 h82 h83 h84
              go_simp
              refine HC.out.mono ?_
              rintro e w9 ⟨lb9, rfl, hg9, hx9⟩
              exact ⟨_, rfl, hx9, _, _, _, rfl, hg9⟩
            refine ⟨fun u hu hd => ?_, ?_⟩
            · simp only [Act.put, List.setIfInBounds_toArray, List.set_cons_zero, List.set_cons_succ]
              obtain ⟨g9, lb9, B9, e9, hg9⟩ := (hd 9 (by kernel_rfl) : GoF _ (f1 9) u)
              have HC := Lib.hid (list_goes hg9 0)
              clear hd hu hg9
              go_simp
              refine HC.out.mono ?_
              rintro e w9 h9
              obtain ⟨Y9, c9, R9, rfl, h91, h92, h93⟩ := h9.es
              exact ⟨_, rfl, h93, Y9, R9, c9, rfl, h92, h91⟩
            refine ⟨fun u hu hd => ?_, ?_⟩
            · simp only [Act.put, List.setIfInBounds_toArray, List.set_cons_zero, List.set_cons_succ]
              obtain ⟨A9, R9, c9, e10, h91, h92⟩ := (hd 10 (by kernel_rfl) : LsF _ (f1 10) u)
              have H9 := Lib.hid (And.intro h91 h92)
              clear hd hu h91 h92
              go_simp
              exact ⟨Ext.refl _, A9, R9, c9, rfl, H9.out.1, H9.out.2⟩
            trivial
end Go.Proofs.Ytlnihaeeoolkhaa

/- MergeSame: from the walk to the statement. For every input the law answers true and leaves its arguments as they were. -/
namespace Go.Proofs.Ytlnihaeeoolkhaa.mergeSame
open Go.ChangeShapes Go.WideShapes Go.ChangeAt Go.RowKit
set_option linter.unusedVariables false

set_option maxRecDepth 100000 in
theorem lifted (os : Os) (started : os.Started) (H : Type) (enc : TypeId × Value → H) :
    ReturnsInHanded {} Try.checked os 6 .any (Rows.mergeSameSpec.pre6 enc Try.prog Try.f6 Rows.mergeSameRow.domain false) (Rows.mergeSameSpec.post enc Try.prog Try.f6 false true false false) := by
  refine returnsInHanded_of_change_sized (C := Try.checked) own started (by kernel_rfl) Try.func6
    (ChangeSpec.witness6 (enc := enc) (C := Try.checked) false ⟨#[], #[.slice none 0 0, .int .i64 0, .int .i64 0, .int .i64 0], []⟩ 8 (by kernel_rfl) (by kernel_rfl) (by kernel_rfl) (by kernel_rfl)) ?_
  intro W base args ds gs before hval0 hW hcnd hsz0 _
  have hsz : (DataW.weightsEach Try.prog (Try.f6.params.toList ++ Rows.mergeSameSpec.plain.varTypes Try.prog) (ds ++ gs)).all (· ≤ reachBytes) = true := hsz0
  have hval : ∀ (j : Nat) t v, Try.f6.params[j]? = some t → args[j]? = some v → Value.okWide Try.prog W .any base t v := hval0
  have hW' := hW
  obtain ⟨p, q, hA0, hV, rfl, hfz, hnd⟩ := hW
  have hA : DataW.TrodAll enc Try.prog W 0 (fun _ => true) true Try.f6.params.toList args.toList ds p := hA0
  rw [Try.params6] at hA hval hsz
  obtain ⟨v0, vs0, d0, ds0, p0, q0, hargs, rfl, rfl, h0, r0⟩ := trodAll_cons hA
  obtain ⟨v1, vs1, d1, ds1, p1, q1, rfl, rfl, rfl, h1, r1⟩ := trodAll_cons r0
  obtain ⟨v2, vs2, d2, ds2, p2, q2, rfl, rfl, rfl, h2, r2⟩ := trodAll_cons r1
  obtain ⟨v3, vs3, d3, ds3, p3, q3, rfl, rfl, rfl, h3, r3⟩ := trodAll_cons r2
  obtain ⟨rfl, rfl, rfl⟩ := trodAll_nil r3
  obtain rfl : args = #[v0, v1, v2, v3] := by cases args; simp_all
  obtain ⟨rfl, rfl⟩ := trodVars_none hV
  have k0 := h0
  have lt0 : ∀ x ∈ p0, x.block < W.heap.size := by obtain ⟨m, hm⟩ := k0; exact DataW.trod_lt m _ _ _ hm
  obtain ⟨A0, c0, L0, rfl, x0, y0, m0, z0, n0⟩ := open_entries (hval 0 22 v0 rfl rfl) h0 hsz (jj := 0) rfl rfl
  obtain ⟨a1, rfl, rfl, rfl, w1⟩ := open_int Try.underlying2 (hval 1 2 v1 rfl rfl) h1
  obtain ⟨a2, rfl, rfl, rfl, w2⟩ := open_int Try.underlying2 (hval 2 2 v2 rfl rfl) h2
  obtain ⟨a3, rfl, rfl, rfl, w3⟩ := open_int Try.underlying3 (hval 3 3 v3 rfl rfl) h3
  clear hA0 hval0 hsz0
  refine (same_walk W A0 c0 L0 x0 y0 m0 z0 n0 a1 w1 a2 w2 a3 w3).mono fun e W' ⟨he, bel⟩ => ?_
  subst he
  exact ⟨_, rfl, _, _, _, [], _, [], hW', trodAll_mk1 (shut_bool Try.underlying4 _), (trodAll_cons_mk (Below.trod laidOut (by kernel_rfl) (of_decide_eq_true (by kernel_rfl)) k0 bel lt0) (trodAll_cons_mk (shut_int Try.underlying2 w1) (trodAll_cons_mk (shut_int Try.underlying2 w2) (trodAll_cons_mk (shut_int Try.underlying3 w3) trodAll_mk0)))), rfl, bel.frame _, fun h => by cases h⟩

theorem over : Rows.mergeSameRow.holds Try.pinned (OpenSpec.ofChange Rows.mergeSameSpec) :=
  OpenClaim.holds_of_wide 6 Try.f6 rfl rfl rfl rfl rfl rfl rfl ⟨rfl, rfl, rfl, rfl, rfl⟩ rfl rfl rfl rfl rfl (by kernel_rfl) Try.func6 (by kernel_rfl)
    (of_decide_eq_true (by kernel_rfl)) (by unfold Func.isWrapper; first | (rw [if_pos (by decide +kernel)]; kernel_rfl) | (rw [if_neg (by decide +kernel)]; exact ⟨rfl, rfl⟩))
    (fun os started H enc _ => lifted os started H enc)

theorem proved : Rows.MergeSameSaid := over
end Go.Proofs.Ytlnihaeeoolkhaa.mergeSame
