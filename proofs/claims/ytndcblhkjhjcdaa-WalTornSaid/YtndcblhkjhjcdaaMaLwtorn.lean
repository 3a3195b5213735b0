/- WalTorn: from the walk to the statement. For every input the law answers true and leaves its arguments as they were. -/
import Derived.Test.YtndcblhkjhjcdaaMaLwsame
import Derived.Test.YtndcblhkjhjcdaaMa14

/- WalTorn: rising batches, behind which any first part of another one stands, are these, and all is well. -/
namespace Go.Proofs.Ytndcblhkjhjcdaa
open Go.ChangeShapes Go.WideShapes Go.ChangeAt Go.RowKit
attribute [local go_sem] Oper.semAt_some

theorem Bins.one {w : World} {hi g : Nat} {x : Bx} (h : w.heap[g]? = some (.cells #[.int .i64 x.idx, .slice x.A x.L.length x.c] 24 (0, 0))) (hx : Bi w 0 hi x) (hhi : hi ≤ w.heap.size) : Bins w 0 w.heap.size (some ⟨g, 0, none⟩) [x] := by
  refine ⟨.inr ⟨g, 0, rfl, Nat.zero_le _, (Array.getElem?_eq_some_iff.1 h).1, fun i u hu => ?_⟩, fun z hz => ?_⟩
  · rw [Nat.zero_add]
    exact cell_of h (by simpa [brow, bcells] using hu)
  · rw [List.mem_singleton] at hz
    subst hz
    exact ⟨hx.es.wide (Nat.le_refl _) hhi, hx.i1, hx.i2, hx.ln⟩
theorem ris_snoc : ∀ {bs : List Bat} {d : Int} {b : Bat}, Ris d bs → lastI d bs < b.idx → Ris d (bs ++ [b])
  | [], _, _, _, h => ⟨h, trivial⟩
  | _ :: _, _, _, h, h2 => ⟨h.1, ris_snoc h.2 h2⟩
theorem lastI_last : ∀ {bs : List Bat} {d : Int} {k : Nat} {b : Bat}, bs[k]? = some b → k + 1 = bs.length → lastI d bs = b.idx
  | [], _, _, _, h, _ => by simp at h
  | [a], d, k, b, h, hk => by
    have : k = 0 := by simpa using hk
    subst this
    simp at h
    subst h
    rfl
  | a :: c :: bs, d, k, b, h, hk => by
    cases k with
    | zero => simp at hk
    | succ k =>
      have h1 : (c :: bs)[k]? = some b := by simpa using h
      exact lastI_last (bs := c :: bs) (d := a.idx) h1 (by simpa using hk)
set_option maxRecDepth 100000 in
/-- Append of bytes, with what it changes. -/
theorem wpList_addgr {ops : Array Oper} {rest : List Oper} {o : Oper} {a : Act} {Q : Exit → Act → World → Prop} {wr : World} (hgd : o.guard = none) (s x : Operand)
    (ho : o.op = .call { callee := .builtin .append, args := #[s, x], argTypes := #[29, 29] }) (B : Nat) (v : Value) (l : List Nat) (hs : a.eval s = v) (hown : Own B l v wr)
    (lo hi : Nat) (ad : Addr) (c : Nat) (r : List Nat) (hx : a.eval x = .slice (some ad) r.length c) (hu : Bs wr lo hi (.slice (some ad) r.length c) r) (hlen : l.length + r.length ≤ 1099511627776) (hB : B ≤ wr.heap.size)
    (h : ∀ A' c' w', Own B (l ++ r) (.slice A' (l ++ r).length c') w' → wr.grownBy w' v.ownBlock → wpList Try.prog ops Q rest (a.put o.dst (.slice A' (l ++ r).length c')) w') : wpList Try.prog ops Q (o :: rest) a wr := by
  obtain ⟨i0, hi0, ix0, ix1, ix2⟩ := info_parts t5info
  obtain ⟨A, c', e, h1, h2, hnil, hby⟩ := hu
  injection e with e1 _ e3
  subst e1 e3
  refine wpList_append_own _ hgd s x 29 ho B 5 i0 (.int .u8 0) 1 1 Try.underlying29 hi0 ix0 ix1 ix2 rfl (by omega) v l.length (bv l) hs hown ad r.length c (bv r) hx (by rw [bv_length]; simp) (fun j q hj => ?_) (bv_one r) (by unfold maxLen; omega) (by omega) hB
    (fun v' w' h5 h3 _ => ?_)
  · rcases hby with h0 | ⟨b, o, he, _, _, hc⟩
    · rw [h0] at hj; simp at hj
    · injection he with he
      subst he
      rw [addr_add]
      exact hc j q hj
  · have hown' : Own B (l ++ r) v' w' := by unfold Own; rw [List.length_append, bv_append]; exact h5
    obtain ⟨A', c', rfl⟩ := hown'.slice
    exact h A' c' w' hown' h3

/-- Between two rounds. -/
structure TornI (w5 : World) (X : List Bx) (Ba : Option Addr) (m bc : Nat) (U : Option Addr) (uc : Nat) (G : List Bx) (u : World) : Prop where
  own : Own w5.heap.size (logB (G.map Bx.bat)) (.slice Ba m bc) u
  len : m = (logB (G.map Bx.bat)).length
  row : u.ownsRow w5.heap.size 24 2 (.slice U G.length uc) G.length (brow G)
  each : ∀ x ∈ G, x ∈ X
  ext : Ext w5 u
  put : ∀ b ∈ G.map Bx.bat, Put1 b
  ris : Ris 0 (G.map Bx.bat)
theorem TornI.up {w5 : World} {X : List Bx} {Ba : Option Addr} {m bc : Nat} {U : Option Addr} {uc : Nat} {G : List Bx} {u u' : World} (h : TornI w5 X Ba m bc U uc G u) (hx : Ext u u') : TornI w5 X Ba m bc U uc G u' :=
  ⟨h.own.below hx, h.len, rowN_kept h.row fun g hg => hx.block g (rowN_lt h.row g hg).2.1, h.each, Ext.trans h.ext hx, h.put, h.ris⟩
theorem TornI.rbs {w5 : World} {X : List Bx} {Ba : Option Addr} {m bc : Nat} {U : Option Addr} {uc : Nat} {G : List Bx} {u : World} {hi : Nat} {A : Option Addr} (h : TornI w5 X Ba m bc U uc G u) (hb : Bts u 0 hi A X) (h5 : hi ≤ w5.heap.size) : Rbs w5.heap.size (.slice U G.length uc) G u :=
  ⟨h.row, fun x hx => ⟨0, hi, Nat.le_trans h5 h.ext.size, hb.each x (h.each x hx), fun g hg => .inr (Nat.le_trans h5 (rowN_lt h.row g hg).1)⟩⟩
theorem logB_len {bs : List Bat} (h : ∀ b ∈ bs, Put1 b) : (logB bs).length ≤ 1048584 * bs.length := by
  induction bs with
  | nil => simp [logB_nil]
  | cons b bs ih =>
    have h1 := ih fun c hc => h c (List.mem_cons_of_mem _ hc)
    have h2 := (h b (List.mem_cons_self ..)).len
    rw [logB_cons, List.length_append, Fm.frame_length, List.length_cons]
    omega

theorem gl_snd : ∀ (k : Nat) (bs : List Bat), (gl k bs).map Prod.snd = bs
  | _, [] => rfl
  | k, b :: bs => by simp [gl, gl_snd]
set_option maxRecDepth 100000 in
set_option maxHeartbeats 16000000 in
theorem wtorn_walk (w : World) (A : Option Addr) (c : Nat) (X : List Bx) (_hxc : X.length ≤ c) (_hcm : c ≤ maxLen) (hX : Bins w 0 w.heap.size A X) (kX : ∀ x ∈ X, BxKv x) (hn : X.length ≤ 4398046511104) (y : Bx) (hy : Bi w 0 w.heap.size y) (ky : BxKv y) (part : Int) (_hp : (Lit.int .i64 part).wf = true) :
    Calls Try.prog 7 #[.slice A X.length c, y.val, .int .i64 part] w fun e w' => e = .returned (.bool true) ∧ Below w.heap.size w w' := by
  have HX := Lib.hid hX
  have HK := Lib.hid (And.intro kX (And.intro ky hn))
  obtain ⟨yi, yA, yc, yL⟩ := y
  have HY := Lib.hid hy
  have hp := i64_wf _hp
  have HPT := Lib.hid hp
  clear hX kX hy ky hn _hxc _hcm _hp hp
  obtain ⟨n, hnn⟩ : ∃ n, n = X.length := ⟨_, rfl⟩
  rw [← hnn]
  have HN := Lib.hid hnn
  clear hnn
  obtain ⟨w0, hw0⟩ : ∃ w0, w0 = w.alloc (.cells #[.int .i64 yi, .slice yA yL.length yc] 24) := ⟨_, rfl⟩
  have HX0 : Hid (Ext w w0) := by rw [hw0]; exact ext_alloc _ _
  have HB0 : Hid (w0.heap[w.heap.size]? = some (.cells #[.int .i64 yi, .slice yA yL.length yc] 24 (0, 0))) := by rw [hw0]; exact heap_at _ _ rfl
  unfold Bx.val
  dsimp only
  go_enter Try.func7, Try.ntmps7
  go_wp2_with fail
  rw [← hw0]
  clear hw0
  refine (wknown_any w0).mono ?_
  rintro e w1 ⟨rfl, hx⟩
  have HX1 : Hid (Ext w w1) := Ext.trans HX0.out hx
  have HB1 := Lib.hid (ext_heap hx HB0.out)
  clear hx
  have HMU := Lib.hid (lmuch_any (c := c) (HX.out.below HX1.out (Nat.le_refl _)) HX1.out.size (by have := HK.out.2.2; omega) HK.out.1)
  rw [← HN.out] at HMU
  go_wp2_with fail
  refine HMU.out.mono ?_
  rintro e w2 ⟨z, hz, rfl, hx⟩
  have HZ := Lib.hid hz
  have HX2 : Hid (Ext w w2) := Ext.trans HX1.out hx
  have HB2 := Lib.hid (ext_heap hx HB1.out)
  clear hz hx HMU
  cases z with
  | true =>
    go_wp2_with fail
    go_ret
    exact ⟨rfl, HX2.out⟩
  | false =>
  have HNM := Lib.hid (HZ.out rfl)
  by_cases h40 : 40 < n
  · have d : decide ((40 : Int) < (n : Int)) = true := decide_eq_true (by omega)
    have dn : decide (40 < n) = true := decide_eq_true h40
    clear h40
    go_wp2_with fail
    go_ret
    exact ⟨rfl, HX2.out⟩
  have d : decide ((40 : Int) < (n : Int)) = false := decide_eq_false (by omega)
  have dn : decide (40 < n) = false := decide_eq_false h40
  have H40 : Hid (n ≤ 40) := by unfold Hid; omega
  have hn40 : (n : Int) ≤ 40 := by omega
  clear h40
  have k0 := cell_of HB2.out (k := 0) rfl
  have k1 := cell_of HB2.out (k := 1) rfl
  obtain ⟨w3, hw3⟩ : ∃ w3, w3 = w2.alloc (.cells #[.int .i64 yi, .slice yA yL.length yc] 24) := ⟨_, rfl⟩
  have HX23 : Hid (Ext w2 w3) := by rw [hw3]; exact ext_alloc _ _
  have HX3 : Hid (Ext w w3) := Ext.trans HX2.out HX23.out
  have HC3 : Hid (w3.heap[w2.heap.size]? = some (.cells #[.int .i64 yi, .slice yA yL.length yc] 24 (0, 0))) := by rw [hw3]; exact heap_at _ _ rfl
  have HMU := Lib.hid (lmuch_any (c := 1) (Bins.one (x := ⟨yi, yA, yc, yL⟩) HC3.out (HY.out.below HX3.out (Nat.le_refl _)) HX3.out.size) (Nat.le_refl _) (by simp) (by
    intro z hz
    rw [List.mem_singleton] at hz
    subst hz
    exact HK.out.2.1))
  go_wp2_with fail
  rw [← hw3]
  clear hw3
  refine HMU.out.mono ?_
  rintro e w4 ⟨z, hz, rfl, hx⟩
  have HZ2 := Lib.hid hz
  have HX34 : Hid (Ext w3 w4) := hx
  have HX4 : Hid (Ext w w4) := Ext.trans HX3.out hx
  have HB4 := Lib.hid (ext_heap (Ext.trans HX23.out hx) HB2.out)
  clear hz hx HMU d dn k0 k1
  cases z with
  | true =>
    go_wp2_with fail
    go_ret
    exact ⟨rfl, HX4.out⟩
  | false =>
  have HNY := Lib.hid (HZ2.out rfl)
  by_cases hpn : part < 0
  · have d : decide (part < 0) = true := decide_eq_true hpn
    clear hpn
    go_wp2_with fail
    go_ret
    exact ⟨rfl, HX4.out⟩
  have d : decide (part < 0) = false := decide_eq_false hpn
  have HP0 : Hid (0 ≤ part) := by unfold Hid; omega
  clear hpn
  -- what is known of the batches
  have HBT : Hid (∀ u, Ext w u → Bts u 0 w.heap.size A X) := fun u hu => ((HX.out.below hu (Nat.le_refl _)).bts fun x hx => (HNM.out.2 x hx).1)
  have HBY : Hid (∀ u, Ext w u → Bm u 0 w.heap.size ⟨yi, yA, yc, yL⟩) := fun u hu => ((HY.out.below hu (Nat.le_refl _)).bm (HNY.out.2 _ (by simp)).1)
  go_wp2_with fail
  clear d
  go_loopw [7, 8, 9] (fun a x b wr => ∃ (i : Nat) (Ba : Option Addr) (m bc : Nat) (U : Option Addr) (uc : Nat) (G : List Bx), a = .slice Ba m bc ∧ x = .slice U G.length uc ∧ b = .int .i64 (i : Int) ∧ i ≤ n ∧ G.length ≤ i ∧ Hid (TornI w4 X Ba m bc U uc G wr)) (fun _ _ b _ => n - (intOf b).toNat)
  case atStart => exact ⟨0, none, 0, 0, none, 0, [], rfl, rfl, rfl, by omega, by simp, Lib.hid ⟨Own.nil _ _, by simp [logB_nil], World.ownsRow_nil _ _ _ _, by simp, Ext.refl _, by simp, trivial⟩⟩
  case round =>
    obtain ⟨i, Ba, m, bc, U, uc, G, rfl, rfl, rfl, hm, hg, HI⟩ := hrel
    by_cases hlt : i < n
    · have d : decide ((i : Int) < (n : Int)) = true := decide_eq_true (by omega)
      have dn : decide (i < n) = true := decide_eq_true hlt
      obtain ⟨x, hx⟩ : ∃ x, X[i]? = some x := ⟨_, List.getElem?_eq_getElem (by have := HN.out; omega)⟩
      have HXX := Lib.hid hx
      have HWR : Hid (Ext w wr) := Ext.trans HX4.out HI.out.ext
      obtain ⟨b, oo, hA⟩ := (HBT.out wr HWR.out).base (by have := HN.out; omega)
      subst hA
      obtain ⟨c0, c1⟩ := (HBT.out wr HWR.out).get hx
      obtain ⟨xi, xA, xc, xL⟩ := x
      dsimp only at c0 c1
      have n1 : (0 : Int) ≤ (i : Int) := by omega
      have n2 : (i : Int) < (n : Int) := by omega
      have HLT := Lib.hid (And.intro hlt hg)
      have HPU : Hid (∀ u, Ext w u → Calls Try.prog 12 #[.agg #[.int .i64 xi, .slice xA xL.length xc]] u (WPutAns u (⟨xi, xA, xc, xL⟩ : Bx).bat)) := fun u hu => wput_any ((HBT.out u hu).each _ (List.mem_of_getElem? HXX.out)) hu.size
      have HBYT : Hid (∀ e ∈ (⟨xi, xA, xc, xL⟩ : Bx).bat.es, (∀ y ∈ e.key, y < 256) ∧ ∀ y ∈ e.val, y < 256) := ((HBT.out wr HWR.out).each _ (List.mem_of_getElem? hx)).bytes
      clear hx hlt hg hm d dn
      obtain ⟨N, hN1⟩ : ∃ N, N = G.length := ⟨_, rfl⟩
      have HNG := Lib.hid hN1
      rw [← hN1]
      clear hN1
      go_upto_region 10 with (fail)
      by_cases hG0 : N = 0
      · have dg : decide ((0 : Int) < (N : Int)) = false := decide_eq_false (by omega)
        have dgn : decide (0 < N) = false := decide_eq_false (by omega)
        have HGO : Hid ((⟨xi, xA, xc, xL⟩ : Bx).bat.may → lastI 0 (G.map Bx.bat) < xi) := fun hm => by
          have h1 : G = [] := List.eq_nil_of_length_eq_zero (by have := HNG.out; omega)
          rw [h1]
          have := hm.1
          show (0 : Int) < xi
          have h2 : (1 : Int) ≤ xi := this
          omega
        clear hG0
        refine flow (by kernel_rfl) [Is (.slice U N uc), Is (.int .i64 (N : Int)), Is (.bool false), Is (.bool false), Is undef, Is undef, Is undef, Is undef, Is undef, Is undef, Is undef, Is undef, Is undef, Is undef, Is undef, Is undef, Is undef, Is (.bool false)] (by kernel_rfl) (by kernel_rfl) ?mono (fun f1 => ?obl) ?fin
        case mono =>
          simp only [List.forall_mem_cons, List.not_mem_nil, false_imp_iff, implies_true, and_true]
          exact ⟨.is _, .is _, .is _, .is _, .is _, .is _, .is _, .is _, .is _, .is _, .is _, .is _, .is _, .is _, .is _, .is _, .is _, .is _⟩
        case fin =>
          intro g1 u hu hg
          simp only [puts, Act.put, List.setIfInBounds_toArray, List.set_cons_zero, List.set_cons_succ]
          have h17 : g1 17 = .bool false := hg 17 (by decide)
          rw [h17]
          clear h17 dg dgn
          have HU : Hid (Ext w u) := Ext.trans HWR.out (Ext.trans (Ext.drew wr) hu)
          have HIU := Lib.hid (HI.out.up (Ext.trans (Ext.drew wr) hu))
          clear hg hu c0 c1
          obtain ⟨c0, c1⟩ := (HBT.out u HU.out).get HXX.out
          dsimp only at c0 c1
          go_wp2_with fail
          refine (HPU.out u HU.out).mono ?_
          have again : ∀ u1, Ext u u1 → TornI w4 X Ba m bc U uc G u1 := fun u1 h => HIU.out.up h
          have HAG := Lib.hid again
          clear again c0 c1
          rintro e u1 ⟨hx1, (⟨hno, rfl⟩ | ⟨_, _, rfl⟩ | ⟨hmay, hlen, v, rfl, hown⟩)⟩
          · have HX1' := Lib.hid (HAG.out u1 hx1)
            clear hx1 hno
            go_wp2_with fail
            refine (wnum_any _ _).mono ?_
            rintro e u2 ⟨rfl, hu2⟩
            have hu2 := hu2.symm
            subst hu2
            go_wp2_with fail
            go_roundw
            case rel => exact ⟨i + 1, Ba, m, bc, _, uc, G, rfl, by rw [HNG.out], by go_num, HLT.out.1, by have := HLT.out.2; omega, HX1'⟩
            case measure => have := HLT.out.1; simp [intOf]; omega
          · have HX1' := Lib.hid (HAG.out u1 hx1)
            clear hx1
            go_wp2_with fail
            refine (wnum_any _ _).mono ?_
            rintro e u2 ⟨rfl, hu2⟩
            have hu2 := hu2.symm
            subst hu2
            go_wp2_with fail
            go_roundw
            case rel => exact ⟨i + 1, Ba, m, bc, _, uc, G, rfl, by rw [HNG.out], by go_num, HLT.out.1, by have := HLT.out.2; omega, HX1'⟩
            case measure => have := HLT.out.1; simp [intOf]; omega
          · have HX1' := Lib.hid (HAG.out u1 hx1)
            have HU1 : Hid (Ext w u1) := Ext.trans HU.out hx1
            obtain ⟨bv', cv', rfl⟩ := own_some hown (by intro h; have h2 := Fm.frame_length (⟨xi, xA, xc, xL⟩ : Bx).bat.form; rw [h] at h2; simp at h2)
            obtain ⟨F, hF⟩ : ∃ F, F = Fm.frame (⟨xi, xA, xc, xL⟩ : Bx).bat.form := ⟨_, rfl⟩
            rw [← hF] at hown ⊢
            have HF := Lib.hid hF
            have HOF := Lib.hid hown
            have HP1 : Hid (Put1 (⟨xi, xA, xc, xL⟩ : Bx).bat) := ⟨hmay, hlen, HBYT.out⟩
            have HLAST := Lib.hid (HGO.out hmay)
            have HFL : Hid (F.length ≤ 1048584) := by rw [hF, Fm.frame_length]; unfold Hid; omega
            clear hx1 hown hmay hlen hF
            go_wp2_with fail
            refine (wnum_any _ _).mono ?_
            rintro e u2 ⟨rfl, hu2⟩
            have hu2 := hu2.symm
            subst hu2
            obtain ⟨c0, c1⟩ := (HBT.out u1 HU1.out).get HXX.out
            dsimp only at c0 c1
            obtain ⟨u1', hu1'⟩ : ∃ u1', u1' = u1.alloc (.cells #[.int .i64 xi, .slice xA xL.length xc] 24) := ⟨_, rfl⟩
            have HXL1 : Hid (Ext u1 u1') := by rw [hu1']; exact ext_alloc _ _
            have HLC : Hid (u1'.heap[u1.heap.size]? = some (.cells #[.int .i64 xi, .slice xA xL.length xc] 24 (0, 0))) := by rw [hu1']; exact heap_at _ _ rfl
            have HIL := Lib.hid (HX1'.out.up HXL1.out)
            have HRB := Lib.hid (HIL.out.rbs (HBT.out u1' (Ext.trans HU1.out HXL1.out)) HX4.out.size)
            have HBX := Lib.hid ((HBT.out u1' (Ext.trans HU1.out HXL1.out)).each _ (List.mem_of_getElem? HXX.out))
            have HOF1 := Lib.hid (HOF.out.below HXL1.out)
            obtain ⟨N1, hN1⟩ : ∃ N1, N1 = G.length + 1 := ⟨_, rfl⟩
            have HN1 := Lib.hid hN1
            rw [HNG.out]
            clear hN1
            go_wp2_with (at_builtin; rw [← hu1']; refine wpList_pushb rfl (.tmp 70) (.tmp 75) rfl w4.heap.size _ G rfl HRB.out ⟨xi, xA, xc, xL⟩ u1.heap.size rfl HLC.out ⟨0, w.heap.size, (Ext.trans HU1.out HXL1.out).size, HBX.out, fun g hg => .inr (Nat.le_trans HX4.out.size (rowN_lt HIL.out.row g hg).1)⟩ (by have := HLT.out; have := H40.out; have := HNG.out; omega) HIL.out.ext.size ?_; rw [← HN1.out])
            intro A5 c5 u5 hr5 hg5 hb5
            have HR5 : Hid (Rbs w4.heap.size (.slice A5 N1 c5) (G ++ [⟨xi, xA, xc, xL⟩]) u5) := hr5
            rw [← hu1'] at hg5 hb5
            have HX5 : Hid (Ext w4 u5) := hb5 w4 HIL.out.ext
            have HO5 : Hid (Own w4.heap.size (logB (G.map Bx.bat)) (.slice Ba m bc) u5) := row_kept HIL.out.own fun g hg => hg5.block g (row_lt HIL.out.own g hg).2 (fun e => rows_apart HIL.out.own HIL.out.row (by decide) hg e.symm)
            have HF5 : Hid (Own u.heap.size F (.slice (some ⟨bv', 0, none⟩) F.length cv') u5) := row_kept HOF1.out fun g hg => hg5.block g (row_lt HOF1.out g hg).2 (fun e => rows_apart HOF1.out HIL.out.row (by decide) hg e.symm)
            clear hr5 hg5 hb5 hu1' c0 c1
            obtain ⟨m2, hm2⟩ : ∃ m2, m2 = (logB (G.map Bx.bat) ++ F).length := ⟨_, rfl⟩
            have HM2 := Lib.hid hm2
            have HLL : Hid ((logB (G.map Bx.bat)).length ≤ 60000000) := by have h1 := logB_len HI.out.put; rw [List.length_map] at h1; have := HLT.out; have := H40.out; have := HNG.out; unfold Hid; omega
            clear hm2
            go_wp2_with (at_builtin; refine wpList_addgr rfl (.tmp 77) (.tmp 78) rfl w4.heap.size _ (logB (G.map Bx.bat)) rfl HO5.out 0 u5.heap.size ⟨bv', 0, none⟩ cv' F rfl HF5.out.bs (by have := HLL.out; have := HFL.out; omega) HX5.out.size ?_; rw [← HM2.out])
            intro A6 c6 u6 ho6 hg6
            have HO6 : Hid (Own w4.heap.size (logB (G.map Bx.bat) ++ F) (.slice A6 m2 c6) u6) := ho6
            have HX6 : Hid (Ext w4 u6) := Below.grown HX5.out hg6 HX5.out.size (fun k hk => (row_lt HO5.out k hk).1)
            have HR6 : Hid (u6.ownsRow w4.heap.size 24 2 (.slice A5 N1 c5) N1 (brow (G ++ [⟨xi, xA, xc, xL⟩]))) := by
              have hl : (G ++ [⟨xi, xA, xc, xL⟩] : List Bx).length = N1 := by rw [HN1.out]; simp
              have h := HR5.out.row
              rw [hl] at h
              exact rowN_kept h fun g hg => hg6.block g (rowN_lt h g hg).2.1 (fun e => rows_apart h HO5.out (by decide) hg e.symm)
            clear ho6 hg6
            go_wp2_with fail
            go_roundw
            case rel =>
              have hl : (G ++ [⟨xi, xA, xc, xL⟩] : List Bx).length = N1 := by rw [HN1.out]; simp
              refine ⟨i + 1, A6, m2, c6, A5, c5, G ++ [⟨xi, xA, xc, xL⟩], rfl, by rw [hl], by go_num, HLT.out.1, by rw [hl, HN1.out]; have := HLT.out.2; omega, Lib.hid ?_⟩
              have hmap : (G ++ [(⟨xi, xA, xc, xL⟩ : Bx)]).map Bx.bat = G.map Bx.bat ++ [(⟨xi, xA, xc, xL⟩ : Bx).bat] := by simp
              have hlog : logB (G.map Bx.bat ++ [(⟨xi, xA, xc, xL⟩ : Bx).bat]) = logB (G.map Bx.bat) ++ F := by rw [logB_snoc, ← HF.out]
              refine ⟨by rw [hmap, hlog]; exact HO6.out, by rw [hmap, hlog]; exact HM2.out, by rw [hl]; exact HR6.out, ?_, HX6.out, ?_, ?_⟩
              · intro z hz
                rcases List.mem_append.1 hz with hz | hz
                · exact HI.out.each z hz
                · rw [List.mem_singleton] at hz; subst hz; exact List.mem_of_getElem? HXX.out
              · intro z hz
                rw [hmap] at hz
                rcases List.mem_append.1 hz with hz | hz
                · exact HI.out.put z hz
                · rw [List.mem_singleton] at hz; subst hz; exact HP1.out
              · rw [hmap]; exact ris_snoc HI.out.ris HLAST.out
            case measure => have := HLT.out.1; simp [intOf]; omega
        case obl =>
          refine ⟨fun u hu hd => ?_, ?_⟩
          · go_simp
            exact ⟨Ext.refl _, rfl⟩
          refine ⟨fun u hu hd => ?_, ?_⟩
          · simp only [Act.put, List.setIfInBounds_toArray, List.set_cons_zero, List.set_cons_succ]
            have e0 : f1 0 = .slice U N uc := hd 0 (by kernel_rfl)
            go_simp
            exact ⟨Ext.refl _, rfl⟩
          refine ⟨fun u hu hd => ?_, ?_⟩
          · simp only [Act.put, List.setIfInBounds_toArray, List.set_cons_zero, List.set_cons_succ]
            have e1 : f1 1 = .int .i64 (N : Int) := hd 1 (by kernel_rfl)
            go_simp
            exact ⟨Ext.refl _, rfl⟩
          refine ⟨fun u hu hd => ?_, ?_⟩
          · simp only [Act.put, List.setIfInBounds_toArray, List.set_cons_zero, List.set_cons_succ]
            have e2 : f1 2 = .bool false := hd 2 (by kernel_rfl)
            go_simp
            exact ⟨Ext.refl _, rfl⟩
          refine ⟨fun u hu hd => ?_, ?_⟩
          · simp only [Act.put, List.setIfInBounds_toArray, List.set_cons_zero, List.set_cons_succ]
            have e3 : f1 3 = .bool false := hd 3 (by kernel_rfl)
            go_simp
            rfl
          refine ⟨fun u hu hd => ?_, ?_⟩
          · simp only [Act.put, List.setIfInBounds_toArray, List.set_cons_zero, List.set_cons_succ]
            have e3 : f1 3 = .bool false := hd 3 (by kernel_rfl)
            go_simp
            rfl
          refine ⟨fun u hu hd => ?_, ?_⟩
          · simp only [Act.put, List.setIfInBounds_toArray, List.set_cons_zero, List.set_cons_succ]
            have e3 : f1 3 = .bool false := hd 3 (by kernel_rfl)
            go_simp
            rfl
          refine ⟨fun u hu hd => ?_, ?_⟩
          · simp only [Act.put, List.setIfInBounds_toArray, List.set_cons_zero, List.set_cons_succ]
            have e3 : f1 3 = .bool false := hd 3 (by kernel_rfl)
            go_simp
            rfl
          refine ⟨fun u hu hd => ?_, ?_⟩
          · simp only [Act.put, List.setIfInBounds_toArray, List.set_cons_zero, List.set_cons_succ]
            have e3 : f1 3 = .bool false := hd 3 (by kernel_rfl)
            go_simp
            rfl
          refine ⟨fun u hu hd => ?_, ?_⟩
          · simp only [Act.put, List.setIfInBounds_toArray, List.set_cons_zero, List.set_cons_succ]
            have e3 : f1 3 = .bool false := hd 3 (by kernel_rfl)
            go_simp
            rfl
          refine ⟨fun u hu hd => ?_, ?_⟩
          · simp only [Act.put, List.setIfInBounds_toArray, List.set_cons_zero, List.set_cons_succ]
            have e3 : f1 3 = .bool false := hd 3 (by kernel_rfl)
            go_simp
            rfl
          refine ⟨fun u hu hd => ?_, ?_⟩
          · simp only [Act.put, List.setIfInBounds_toArray, List.set_cons_zero, List.set_cons_succ]
            have e3 : f1 3 = .bool false := hd 3 (by kernel_rfl)
            go_simp
            rfl
          refine ⟨fun u hu hd => ?_, ?_⟩
          · simp only [Act.put, List.setIfInBounds_toArray, List.set_cons_zero, List.set_cons_succ]
            have e3 : f1 3 = .bool false := hd 3 (by kernel_rfl)
            go_simp
            rfl
          refine ⟨fun u hu hd => ?_, ?_⟩
          · simp only [Act.put, List.setIfInBounds_toArray, List.set_cons_zero, List.set_cons_succ]
            have e3 : f1 3 = .bool false := hd 3 (by kernel_rfl)
            go_simp
            rfl
          refine ⟨fun u hu hd => ?_, ?_⟩
          · simp only [Act.put, List.setIfInBounds_toArray, List.set_cons_zero, List.set_cons_succ]
            have e3 : f1 3 = .bool false := hd 3 (by kernel_rfl)
            go_simp
            rfl
          refine ⟨fun u hu hd => ?_, ?_⟩
          · simp only [Act.put, List.setIfInBounds_toArray, List.set_cons_zero, List.set_cons_succ]
            have e3 : f1 3 = .bool false := hd 3 (by kernel_rfl)
            go_simp
            rfl
          refine ⟨fun u hu hd => ?_, ?_⟩
          · simp only [Act.put, List.setIfInBounds_toArray, List.set_cons_zero, List.set_cons_succ]
            have e3 : f1 3 = .bool false := hd 3 (by kernel_rfl)
            go_simp
            rfl
          refine ⟨fun u hu hd => ?_, ?_⟩
          · simp only [Act.put, List.setIfInBounds_toArray, List.set_cons_zero, List.set_cons_succ]
            have e3 : f1 3 = .bool false := hd 3 (by kernel_rfl)
            go_simp
            exact ⟨Ext.refl _, rfl⟩
          trivial
      obtain ⟨k, hk⟩ : ∃ k, N = k + 1 := ⟨N - 1, by omega⟩
      have hkl : k < G.length := by have := HNG.out; omega
      obtain ⟨px, hpx⟩ : ∃ px, G[k]? = some px := ⟨_, List.getElem?_eq_getElem hkl⟩
      have HPX : Hid (lastI 0 (G.map Bx.bat) = px.idx) := lastI_last (b := px.bat) (by rw [List.getElem?_map, hpx]; rfl) (by rw [List.length_map, ← HNG.out]; exact hk.symm)
      have hbts : Bts wr 0 wr.heap.size U G := ⟨rowB_sl HI.out.row, fun z hz => ((HBT.out wr HWR.out).each z (HI.out.each z hz)).wide (Nat.le_refl _) HWR.out.size⟩
      obtain ⟨bo, o2, hUo⟩ := hbts.base (by omega)
      subst hUo
      have p0 := (hbts.get hpx).1
      have dg : decide ((0 : Int) < (N : Int)) = true := decide_eq_true (by omega)
      have dgn : decide (0 < N) = true := decide_eq_true (by omega)
      have hNs : N ≤ 40 := by have := HLT.out; have := H40.out; have := HNG.out; omega
      have hsub : IntKind.i64.wrap ((N : Int) - 1) = (k : Int) := by rw [IntKind.wrap_i64]; omega
      have m1 : (0 : Int) ≤ (k : Int) := by omega
      have m2 : (k : Int) < (N : Int) := by omega
      clear hbts hpx hkl hk hG0 hNs
      by_cases hge : xi ≤ px.idx
      · have d3 : decide (xi ≤ px.idx) = true := decide_eq_true hge
        clear hge
        refine flow (by kernel_rfl) [Is (.slice (some ⟨bo, o2, none⟩) N uc), Is (.int .i64 (N : Int)), Is (.bool true), Is (.bool true), Is (.slice (some ⟨bo, o2, none⟩) N uc), Is (.slice (some ⟨bo, o2, none⟩) N uc), Is (.int .i64 (N : Int)), Is (.int .i64 (k : Int)), Is (.pointer (some ⟨bo, o2 + k * 2, none⟩)), Is (.pointer (some ⟨bo, o2 + k * 2, none⟩)), Is (.int .i64 px.idx), Is (.slice (some ⟨b, oo, none⟩) n c), Is (.int .i64 (i : Int)), Is (.pointer (some ⟨b, oo + i * 2, none⟩)), Is (.pointer (some ⟨b, oo + i * 2, none⟩)), Is (.int .i64 xi), Is (.bool true), Is (.bool true)] (by kernel_rfl) (by kernel_rfl) ?mono (fun f1 => ?obl) ?fin
        case mono =>
          simp only [List.forall_mem_cons, List.not_mem_nil, false_imp_iff, implies_true, and_true]
          exact ⟨.is _, .is _, .is _, .is _, .is _, .is _, .is _, .is _, .is _, .is _, .is _, .is _, .is _, .is _, .is _, .is _, .is _, .is _⟩
        case fin =>
          intro g1 u hu hg
          simp only [puts, Act.put, List.setIfInBounds_toArray, List.set_cons_zero, List.set_cons_succ]
          have h17 : g1 17 = .bool true := hg 17 (by decide)
          rw [h17]
          have HIU := Lib.hid (HI.out.up (Ext.trans (Ext.drew wr) hu))
          clear h17 hg hu c0 c1 p0 dg dgn d3
          go_wp2_with fail
          go_roundw
          case rel => exact ⟨i + 1, Ba, m, bc, _, uc, G, rfl, by rw [HNG.out], by go_num, HLT.out.1, by have := HLT.out.2; omega, HIU⟩
          case measure => have := HLT.out.1; simp [intOf]; omega
        case obl =>
          refine ⟨fun u hu hd => ?_, ?_⟩
          · go_simp
            exact ⟨Ext.refl _, rfl⟩
          refine ⟨fun u hu hd => ?_, ?_⟩
          · simp only [Act.put, List.setIfInBounds_toArray, List.set_cons_zero, List.set_cons_succ]
            have e0 : f1 0 = .slice (some ⟨bo, o2, none⟩) N uc := hd 0 (by kernel_rfl)
            go_simp
            exact ⟨Ext.refl _, rfl⟩
          refine ⟨fun u hu hd => ?_, ?_⟩
          · simp only [Act.put, List.setIfInBounds_toArray, List.set_cons_zero, List.set_cons_succ]
            have e1 : f1 1 = .int .i64 (N : Int) := hd 1 (by kernel_rfl)
            go_simp
            exact ⟨Ext.refl _, rfl⟩
          refine ⟨fun u hu hd => ?_, ?_⟩
          · simp only [Act.put, List.setIfInBounds_toArray, List.set_cons_zero, List.set_cons_succ]
            have e2 : f1 2 = .bool true := hd 2 (by kernel_rfl)
            go_simp
            exact ⟨Ext.refl _, rfl⟩
          refine ⟨fun u hu hd => ?_, ?_⟩
          · simp only [Act.put, List.setIfInBounds_toArray, List.set_cons_zero, List.set_cons_succ]
            have e3 : f1 3 = .bool true := hd 3 (by kernel_rfl)
            go_simp
            exact ⟨Ext.refl _, rfl⟩
          refine ⟨fun u hu hd => ?_, ?_⟩
          · simp only [Act.put, List.setIfInBounds_toArray, List.set_cons_zero, List.set_cons_succ]
            have e3 : f1 3 = .bool true := hd 3 (by kernel_rfl)
            go_simp
            exact ⟨Ext.refl _, rfl⟩
          refine ⟨fun u hu hd => ?_, ?_⟩
          · simp only [Act.put, List.setIfInBounds_toArray, List.set_cons_zero, List.set_cons_succ]
            have e3 : f1 3 = .bool true := hd 3 (by kernel_rfl)
            have e5 : f1 5 = .slice (some ⟨bo, o2, none⟩) N uc := hd 5 (by kernel_rfl)
            go_simp
            exact ⟨Ext.refl _, rfl⟩
          refine ⟨fun u hu hd => ?_, ?_⟩
          · simp only [Act.put, List.setIfInBounds_toArray, List.set_cons_zero, List.set_cons_succ]
            have e3 : f1 3 = .bool true := hd 3 (by kernel_rfl)
            have e6 : f1 6 = .int .i64 (N : Int) := hd 6 (by kernel_rfl)
            go_simp
            exact ⟨Ext.refl _, rfl⟩
          refine ⟨fun u hu hd => ?_, ?_⟩
          · simp only [Act.put, List.setIfInBounds_toArray, List.set_cons_zero, List.set_cons_succ]
            have e3 : f1 3 = .bool true := hd 3 (by kernel_rfl)
            have e4 : f1 4 = .slice (some ⟨bo, o2, none⟩) N uc := hd 4 (by kernel_rfl)
            have e7 : f1 7 = .int .i64 (k : Int) := hd 7 (by kernel_rfl)
            go_simp
            exact ⟨Ext.refl _, rfl⟩
          refine ⟨fun u hu hd => ?_, ?_⟩
          · simp only [Act.put, List.setIfInBounds_toArray, List.set_cons_zero, List.set_cons_succ]
            have e3 : f1 3 = .bool true := hd 3 (by kernel_rfl)
            have e8 : f1 8 = .pointer (some ⟨bo, o2 + k * 2, none⟩) := hd 8 (by kernel_rfl)
            go_simp
            exact ⟨Ext.refl _, rfl⟩
          refine ⟨fun u hu hd => ?_, ?_⟩
          · simp only [Act.put, List.setIfInBounds_toArray, List.set_cons_zero, List.set_cons_succ]
            have e3 : f1 3 = .bool true := hd 3 (by kernel_rfl)
            have e9 : f1 9 = .pointer (some ⟨bo, o2 + k * 2, none⟩) := hd 9 (by kernel_rfl)
            have hu2 := Ext.trans (Ext.drew wr) hu
            have q0 := ext_cell hu2 p0
            go_simp
            exact ⟨Ext.refl _, rfl⟩
          refine ⟨fun u hu hd => ?_, ?_⟩
          · simp only [Act.put, List.setIfInBounds_toArray, List.set_cons_zero, List.set_cons_succ]
            have e3 : f1 3 = .bool true := hd 3 (by kernel_rfl)
            go_simp
            exact ⟨Ext.refl _, rfl⟩
          refine ⟨fun u hu hd => ?_, ?_⟩
          · simp only [Act.put, List.setIfInBounds_toArray, List.set_cons_zero, List.set_cons_succ]
            have e3 : f1 3 = .bool true := hd 3 (by kernel_rfl)
            go_simp
            exact ⟨Ext.refl _, rfl⟩
          refine ⟨fun u hu hd => ?_, ?_⟩
          · simp only [Act.put, List.setIfInBounds_toArray, List.set_cons_zero, List.set_cons_succ]
            have e3 : f1 3 = .bool true := hd 3 (by kernel_rfl)
            have e11 : f1 11 = .slice (some ⟨b, oo, none⟩) n c := hd 11 (by kernel_rfl)
            have e12 : f1 12 = .int .i64 (i : Int) := hd 12 (by kernel_rfl)
            go_simp
            exact ⟨Ext.refl _, rfl⟩
          refine ⟨fun u hu hd => ?_, ?_⟩
          · simp only [Act.put, List.setIfInBounds_toArray, List.set_cons_zero, List.set_cons_succ]
            have e3 : f1 3 = .bool true := hd 3 (by kernel_rfl)
            have e13 : f1 13 = .pointer (some ⟨b, oo + i * 2, none⟩) := hd 13 (by kernel_rfl)
            go_simp
            exact ⟨Ext.refl _, rfl⟩
          refine ⟨fun u hu hd => ?_, ?_⟩
          · simp only [Act.put, List.setIfInBounds_toArray, List.set_cons_zero, List.set_cons_succ]
            have e3 : f1 3 = .bool true := hd 3 (by kernel_rfl)
            have e14 : f1 14 = .pointer (some ⟨b, oo + i * 2, none⟩) := hd 14 (by kernel_rfl)
            have hu2 := Ext.trans (Ext.drew wr) hu
            have q0 := ext_cell hu2 c0
            go_simp
            exact ⟨Ext.refl _, rfl⟩
          refine ⟨fun u hu hd => ?_, ?_⟩
          · simp only [Act.put, List.setIfInBounds_toArray, List.set_cons_zero, List.set_cons_succ]
            have e3 : f1 3 = .bool true := hd 3 (by kernel_rfl)
            have e10 : f1 10 = .int .i64 px.idx := hd 10 (by kernel_rfl)
            have e15 : f1 15 = .int .i64 xi := hd 15 (by kernel_rfl)
            go_simp
            exact ⟨Ext.refl _, rfl⟩
          refine ⟨fun u hu hd => ?_, ?_⟩
          · simp only [Act.put, List.setIfInBounds_toArray, List.set_cons_zero, List.set_cons_succ]
            have e3 : f1 3 = .bool true := hd 3 (by kernel_rfl)
            have e16 : f1 16 = .bool true := hd 16 (by kernel_rfl)
            go_simp
            exact ⟨Ext.refl _, rfl⟩
          trivial
      have d3 : decide (xi ≤ px.idx) = false := decide_eq_false hge
      have HGO : Hid ((⟨xi, xA, xc, xL⟩ : Bx).bat.may → lastI 0 (G.map Bx.bat) < xi) := fun _ => by rw [HPX.out]; omega
      clear hge
      refine flow (by kernel_rfl) [Is (.slice (some ⟨bo, o2, none⟩) N uc), Is (.int .i64 (N : Int)), Is (.bool true), Is (.bool true), Is (.slice (some ⟨bo, o2, none⟩) N uc), Is (.slice (some ⟨bo, o2, none⟩) N uc), Is (.int .i64 (N : Int)), Is (.int .i64 (k : Int)), Is (.pointer (some ⟨bo, o2 + k * 2, none⟩)), Is (.pointer (some ⟨bo, o2 + k * 2, none⟩)), Is (.int .i64 px.idx), Is (.slice (some ⟨b, oo, none⟩) n c), Is (.int .i64 (i : Int)), Is (.pointer (some ⟨b, oo + i * 2, none⟩)), Is (.pointer (some ⟨b, oo + i * 2, none⟩)), Is (.int .i64 xi), Is (.bool false), Is (.bool false)] (by kernel_rfl) (by kernel_rfl) ?mono (fun f1 => ?obl) ?fin
      case mono =>
        simp only [List.forall_mem_cons, List.not_mem_nil, false_imp_iff, implies_true, and_true]
        exact ⟨.is _, .is _, .is _, .is _, .is _, .is _, .is _, .is _, .is _, .is _, .is _, .is _, .is _, .is _, .is _, .is _, .is _, .is _⟩
      case fin =>
        intro g1 u hu hg
        simp only [puts, Act.put, List.setIfInBounds_toArray, List.set_cons_zero, List.set_cons_succ]
        have h17 : g1 17 = .bool false := hg 17 (by decide)
        rw [h17]
        clear h17 p0 dg dgn d3
        have HU : Hid (Ext w u) := Ext.trans HWR.out (Ext.trans (Ext.drew wr) hu)
        have HIU := Lib.hid (HI.out.up (Ext.trans (Ext.drew wr) hu))
        clear hg hu c0 c1
        obtain ⟨c0, c1⟩ := (HBT.out u HU.out).get HXX.out
        dsimp only at c0 c1
        go_wp2_with fail
        refine (HPU.out u HU.out).mono ?_
        have again : ∀ u1, Ext u u1 → TornI w4 X Ba m bc (some ⟨bo, o2, none⟩) uc G u1 := fun u1 h => HIU.out.up h
        have HAG := Lib.hid again
        clear again c0 c1
        rintro e u1 ⟨hx1, (⟨hno, rfl⟩ | ⟨_, _, rfl⟩ | ⟨hmay, hlen, v, rfl, hown⟩)⟩
        · have HX1' := Lib.hid (HAG.out u1 hx1)
          clear hx1 hno
          go_wp2_with fail
          refine (wnum_any _ _).mono ?_
          rintro e u2 ⟨rfl, hu2⟩
          have hu2 := hu2.symm
          subst hu2
          go_wp2_with fail
          go_roundw
          case rel => exact ⟨i + 1, Ba, m, bc, _, uc, G, rfl, by rw [HNG.out], by go_num, HLT.out.1, by have := HLT.out.2; omega, HX1'⟩
          case measure => have := HLT.out.1; simp [intOf]; omega
        · have HX1' := Lib.hid (HAG.out u1 hx1)
          clear hx1
          go_wp2_with fail
          refine (wnum_any _ _).mono ?_
          rintro e u2 ⟨rfl, hu2⟩
          have hu2 := hu2.symm
          subst hu2
          go_wp2_with fail
          go_roundw
          case rel => exact ⟨i + 1, Ba, m, bc, _, uc, G, rfl, by rw [HNG.out], by go_num, HLT.out.1, by have := HLT.out.2; omega, HX1'⟩
          case measure => have := HLT.out.1; simp [intOf]; omega
        · have HX1' := Lib.hid (HAG.out u1 hx1)
          have HU1 : Hid (Ext w u1) := Ext.trans HU.out hx1
          obtain ⟨bv', cv', rfl⟩ := own_some hown (by intro h; have h2 := Fm.frame_length (⟨xi, xA, xc, xL⟩ : Bx).bat.form; rw [h] at h2; simp at h2)
          obtain ⟨F, hF⟩ : ∃ F, F = Fm.frame (⟨xi, xA, xc, xL⟩ : Bx).bat.form := ⟨_, rfl⟩
          rw [← hF] at hown ⊢
          have HF := Lib.hid hF
          have HOF := Lib.hid hown
          have HP1 : Hid (Put1 (⟨xi, xA, xc, xL⟩ : Bx).bat) := ⟨hmay, hlen, HBYT.out⟩
          have HLAST := Lib.hid (HGO.out hmay)
          have HFL : Hid (F.length ≤ 1048584) := by rw [hF, Fm.frame_length]; unfold Hid; omega
          clear hx1 hown hmay hlen hF
          go_wp2_with fail
          refine (wnum_any _ _).mono ?_
          rintro e u2 ⟨rfl, hu2⟩
          have hu2 := hu2.symm
          subst hu2
          obtain ⟨c0, c1⟩ := (HBT.out u1 HU1.out).get HXX.out
          dsimp only at c0 c1
          obtain ⟨u1', hu1'⟩ : ∃ u1', u1' = u1.alloc (.cells #[.int .i64 xi, .slice xA xL.length xc] 24) := ⟨_, rfl⟩
          have HXL1 : Hid (Ext u1 u1') := by rw [hu1']; exact ext_alloc _ _
          have HLC : Hid (u1'.heap[u1.heap.size]? = some (.cells #[.int .i64 xi, .slice xA xL.length xc] 24 (0, 0))) := by rw [hu1']; exact heap_at _ _ rfl
          have HIL := Lib.hid (HX1'.out.up HXL1.out)
          have HRB := Lib.hid (HIL.out.rbs (HBT.out u1' (Ext.trans HU1.out HXL1.out)) HX4.out.size)
          have HBX := Lib.hid ((HBT.out u1' (Ext.trans HU1.out HXL1.out)).each _ (List.mem_of_getElem? HXX.out))
          have HOF1 := Lib.hid (HOF.out.below HXL1.out)
          obtain ⟨N1, hN1⟩ : ∃ N1, N1 = G.length + 1 := ⟨_, rfl⟩
          have HN1 := Lib.hid hN1
          rw [HNG.out]
          clear hN1
          go_wp2_with (at_builtin; rw [← hu1']; refine wpList_pushb rfl (.tmp 70) (.tmp 75) rfl w4.heap.size _ G rfl HRB.out ⟨xi, xA, xc, xL⟩ u1.heap.size rfl HLC.out ⟨0, w.heap.size, (Ext.trans HU1.out HXL1.out).size, HBX.out, fun g hg => .inr (Nat.le_trans HX4.out.size (rowN_lt HIL.out.row g hg).1)⟩ (by have := HLT.out; have := H40.out; have := HNG.out; omega) HIL.out.ext.size ?_; rw [← HN1.out])
          intro A5 c5 u5 hr5 hg5 hb5
          have HR5 : Hid (Rbs w4.heap.size (.slice A5 N1 c5) (G ++ [⟨xi, xA, xc, xL⟩]) u5) := hr5
          rw [← hu1'] at hg5 hb5
          have HX5 : Hid (Ext w4 u5) := hb5 w4 HIL.out.ext
          have HO5 : Hid (Own w4.heap.size (logB (G.map Bx.bat)) (.slice Ba m bc) u5) := row_kept HIL.out.own fun g hg => hg5.block g (row_lt HIL.out.own g hg).2 (fun e => rows_apart HIL.out.own HIL.out.row (by decide) hg e.symm)
          have HF5 : Hid (Own u.heap.size F (.slice (some ⟨bv', 0, none⟩) F.length cv') u5) := row_kept HOF1.out fun g hg => hg5.block g (row_lt HOF1.out g hg).2 (fun e => rows_apart HOF1.out HIL.out.row (by decide) hg e.symm)
          clear hr5 hg5 hb5 hu1' c0 c1
          obtain ⟨m2, hm2⟩ : ∃ m2, m2 = (logB (G.map Bx.bat) ++ F).length := ⟨_, rfl⟩
          have HM2 := Lib.hid hm2
          have HLL : Hid ((logB (G.map Bx.bat)).length ≤ 60000000) := by have h1 := logB_len HI.out.put; rw [List.length_map] at h1; have := HLT.out; have := H40.out; have := HNG.out; unfold Hid; omega
          clear hm2
          go_wp2_with (at_builtin; refine wpList_addgr rfl (.tmp 77) (.tmp 78) rfl w4.heap.size _ (logB (G.map Bx.bat)) rfl HO5.out 0 u5.heap.size ⟨bv', 0, none⟩ cv' F rfl HF5.out.bs (by have := HLL.out; have := HFL.out; omega) HX5.out.size ?_; rw [← HM2.out])
          intro A6 c6 u6 ho6 hg6
          have HO6 : Hid (Own w4.heap.size (logB (G.map Bx.bat) ++ F) (.slice A6 m2 c6) u6) := ho6
          have HX6 : Hid (Ext w4 u6) := Below.grown HX5.out hg6 HX5.out.size (fun k hk => (row_lt HO5.out k hk).1)
          have HR6 : Hid (u6.ownsRow w4.heap.size 24 2 (.slice A5 N1 c5) N1 (brow (G ++ [⟨xi, xA, xc, xL⟩]))) := by
            have hl : (G ++ [⟨xi, xA, xc, xL⟩] : List Bx).length = N1 := by rw [HN1.out]; simp
            have h := HR5.out.row
            rw [hl] at h
            exact rowN_kept h fun g hg => hg6.block g (rowN_lt h g hg).2.1 (fun e => rows_apart h HO5.out (by decide) hg e.symm)
          clear ho6 hg6
          go_wp2_with fail
          go_roundw
          case rel =>
            have hl : (G ++ [⟨xi, xA, xc, xL⟩] : List Bx).length = N1 := by rw [HN1.out]; simp
            refine ⟨i + 1, A6, m2, c6, A5, c5, G ++ [⟨xi, xA, xc, xL⟩], rfl, by rw [hl], by go_num, HLT.out.1, by rw [hl, HN1.out]; have := HLT.out.2; omega, Lib.hid ?_⟩
            have hmap : (G ++ [(⟨xi, xA, xc, xL⟩ : Bx)]).map Bx.bat = G.map Bx.bat ++ [(⟨xi, xA, xc, xL⟩ : Bx).bat] := by simp
            have hlog : logB (G.map Bx.bat ++ [(⟨xi, xA, xc, xL⟩ : Bx).bat]) = logB (G.map Bx.bat) ++ F := by rw [logB_snoc, ← HF.out]
            refine ⟨by rw [hmap, hlog]; exact HO6.out, by rw [hmap, hlog]; exact HM2.out, by rw [hl]; exact HR6.out, ?_, HX6.out, ?_, ?_⟩
            · intro z hz
              rcases List.mem_append.1 hz with hz | hz
              · exact HI.out.each z hz
              · rw [List.mem_singleton] at hz; subst hz; exact List.mem_of_getElem? HXX.out
            · intro z hz
              rw [hmap] at hz
              rcases List.mem_append.1 hz with hz | hz
              · exact HI.out.put z hz
              · rw [List.mem_singleton] at hz; subst hz; exact HP1.out
            · rw [hmap]; exact ris_snoc HI.out.ris HLAST.out
          case measure => have := HLT.out.1; simp [intOf]; omega
      case obl =>
        refine ⟨fun u hu hd => ?_, ?_⟩
        · go_simp
          exact ⟨Ext.refl _, rfl⟩
        refine ⟨fun u hu hd => ?_, ?_⟩
        · simp only [Act.put, List.setIfInBounds_toArray, List.set_cons_zero, List.set_cons_succ]
          have e0 : f1 0 = .slice (some ⟨bo, o2, none⟩) N uc := hd 0 (by kernel_rfl)
          go_simp
          exact ⟨Ext.refl _, rfl⟩
        refine ⟨fun u hu hd => ?_, ?_⟩
        · simp only [Act.put, List.setIfInBounds_toArray, List.set_cons_zero, List.set_cons_succ]
          have e1 : f1 1 = .int .i64 (N : Int) := hd 1 (by kernel_rfl)
          go_simp
          exact ⟨Ext.refl _, rfl⟩
        refine ⟨fun u hu hd => ?_, ?_⟩
        · simp only [Act.put, List.setIfInBounds_toArray, List.set_cons_zero, List.set_cons_succ]
          have e2 : f1 2 = .bool true := hd 2 (by kernel_rfl)
          go_simp
          exact ⟨Ext.refl _, rfl⟩
        refine ⟨fun u hu hd => ?_, ?_⟩
        · simp only [Act.put, List.setIfInBounds_toArray, List.set_cons_zero, List.set_cons_succ]
          have e3 : f1 3 = .bool true := hd 3 (by kernel_rfl)
          go_simp
          exact ⟨Ext.refl _, rfl⟩
        refine ⟨fun u hu hd => ?_, ?_⟩
        · simp only [Act.put, List.setIfInBounds_toArray, List.set_cons_zero, List.set_cons_succ]
          have e3 : f1 3 = .bool true := hd 3 (by kernel_rfl)
          go_simp
          exact ⟨Ext.refl _, rfl⟩
        refine ⟨fun u hu hd => ?_, ?_⟩
        · simp only [Act.put, List.setIfInBounds_toArray, List.set_cons_zero, List.set_cons_succ]
          have e3 : f1 3 = .bool true := hd 3 (by kernel_rfl)
          have e5 : f1 5 = .slice (some ⟨bo, o2, none⟩) N uc := hd 5 (by kernel_rfl)
          go_simp
          exact ⟨Ext.refl _, rfl⟩
        refine ⟨fun u hu hd => ?_, ?_⟩
        · simp only [Act.put, List.setIfInBounds_toArray, List.set_cons_zero, List.set_cons_succ]
          have e3 : f1 3 = .bool true := hd 3 (by kernel_rfl)
          have e6 : f1 6 = .int .i64 (N : Int) := hd 6 (by kernel_rfl)
          go_simp
          exact ⟨Ext.refl _, rfl⟩
        refine ⟨fun u hu hd => ?_, ?_⟩
        · simp only [Act.put, List.setIfInBounds_toArray, List.set_cons_zero, List.set_cons_succ]
          have e3 : f1 3 = .bool true := hd 3 (by kernel_rfl)
          have e4 : f1 4 = .slice (some ⟨bo, o2, none⟩) N uc := hd 4 (by kernel_rfl)
          have e7 : f1 7 = .int .i64 (k : Int) := hd 7 (by kernel_rfl)
          go_simp
          exact ⟨Ext.refl _, rfl⟩
        refine ⟨fun u hu hd => ?_, ?_⟩
        · simp only [Act.put, List.setIfInBounds_toArray, List.set_cons_zero, List.set_cons_succ]
          have e3 : f1 3 = .bool true := hd 3 (by kernel_rfl)
          have e8 : f1 8 = .pointer (some ⟨bo, o2 + k * 2, none⟩) := hd 8 (by kernel_rfl)
          go_simp
          exact ⟨Ext.refl _, rfl⟩
        refine ⟨fun u hu hd => ?_, ?_⟩
        · simp only [Act.put, List.setIfInBounds_toArray, List.set_cons_zero, List.set_cons_succ]
          have e3 : f1 3 = .bool true := hd 3 (by kernel_rfl)
          have e9 : f1 9 = .pointer (some ⟨bo, o2 + k * 2, none⟩) := hd 9 (by kernel_rfl)
          have hu2 := Ext.trans (Ext.drew wr) hu
          have q0 := ext_cell hu2 p0
          go_simp
          exact ⟨Ext.refl _, rfl⟩
        refine ⟨fun u hu hd => ?_, ?_⟩
        · simp only [Act.put, List.setIfInBounds_toArray, List.set_cons_zero, List.set_cons_succ]
          have e3 : f1 3 = .bool true := hd 3 (by kernel_rfl)
          go_simp
          exact ⟨Ext.refl _, rfl⟩
        refine ⟨fun u hu hd => ?_, ?_⟩
        · simp only [Act.put, List.setIfInBounds_toArray, List.set_cons_zero, List.set_cons_succ]
          have e3 : f1 3 = .bool true := hd 3 (by kernel_rfl)
          go_simp
          exact ⟨Ext.refl _, rfl⟩
        refine ⟨fun u hu hd => ?_, ?_⟩
        · simp only [Act.put, List.setIfInBounds_toArray, List.set_cons_zero, List.set_cons_succ]
          have e3 : f1 3 = .bool true := hd 3 (by kernel_rfl)
          have e11 : f1 11 = .slice (some ⟨b, oo, none⟩) n c := hd 11 (by kernel_rfl)
          have e12 : f1 12 = .int .i64 (i : Int) := hd 12 (by kernel_rfl)
          go_simp
          exact ⟨Ext.refl _, rfl⟩
        refine ⟨fun u hu hd => ?_, ?_⟩
        · simp only [Act.put, List.setIfInBounds_toArray, List.set_cons_zero, List.set_cons_succ]
          have e3 : f1 3 = .bool true := hd 3 (by kernel_rfl)
          have e13 : f1 13 = .pointer (some ⟨b, oo + i * 2, none⟩) := hd 13 (by kernel_rfl)
          go_simp
          exact ⟨Ext.refl _, rfl⟩
        refine ⟨fun u hu hd => ?_, ?_⟩
        · simp only [Act.put, List.setIfInBounds_toArray, List.set_cons_zero, List.set_cons_succ]
          have e3 : f1 3 = .bool true := hd 3 (by kernel_rfl)
          have e14 : f1 14 = .pointer (some ⟨b, oo + i * 2, none⟩) := hd 14 (by kernel_rfl)
          have hu2 := Ext.trans (Ext.drew wr) hu
          have q0 := ext_cell hu2 c0
          go_simp
          exact ⟨Ext.refl _, rfl⟩
        refine ⟨fun u hu hd => ?_, ?_⟩
        · simp only [Act.put, List.setIfInBounds_toArray, List.set_cons_zero, List.set_cons_succ]
          have e3 : f1 3 = .bool true := hd 3 (by kernel_rfl)
          have e10 : f1 10 = .int .i64 px.idx := hd 10 (by kernel_rfl)
          have e15 : f1 15 = .int .i64 xi := hd 15 (by kernel_rfl)
          go_simp
          exact ⟨Ext.refl _, rfl⟩
        refine ⟨fun u hu hd => ?_, ?_⟩
        · simp only [Act.put, List.setIfInBounds_toArray, List.set_cons_zero, List.set_cons_succ]
          have e3 : f1 3 = .bool true := hd 3 (by kernel_rfl)
          have e16 : f1 16 = .bool false := hd 16 (by kernel_rfl)
          go_simp
          exact ⟨Ext.refl _, rfl⟩
        trivial
    · have d : decide ((i : Int) < (n : Int)) = false := decide_eq_false (by omega)
      have dn : decide (i < n) = false := decide_eq_false hlt
      have HWR : Hid (Ext w wr) := Ext.trans HX4.out HI.out.ext
      have HBL := Lib.hid (ext_heap (Ext.trans (Ext.refl _) HI.out.ext) HB4.out)
      have k0 := cell_of HBL.out (k := 0) rfl
      have k1 := cell_of HBL.out (k := 1) rfl
      have HLT : Hid (G.length ≤ 40) := by have := H40.out; unfold Hid; omega
      have HLL : Hid ((logB (G.map Bx.bat)).length ≤ 60000000) := by have h1 := logB_len HI.out.put; rw [List.length_map] at h1; have := H40.out; unfold Hid; omega
      clear hlt hm hg
      have HPL : Hid (Calls Try.prog 12 #[.agg #[.int .i64 yi, .slice yA yL.length yc]] wr (WPutAns wr (⟨yi, yA, yc, yL⟩ : Bx).bat)) := wput_any (HBY.out wr HWR.out) HWR.out.size
      obtain ⟨N, hN1⟩ : ∃ N, N = G.length := ⟨_, rfl⟩
      have HNG := Lib.hid hN1
      rw [← hN1]
      clear hN1
      go_wp2_with fail
      refine HPL.out.mono ?_
      clear HPL k0 k1 d dn
      rintro e u1 ⟨hx1, (⟨hno, rfl⟩ | ⟨_, _, rfl⟩ | ⟨hmay, hlen, v, rfl, hown⟩)⟩
      · have HX1' := Lib.hid (HI.out.up hx1)
        clear hx1 hno
        go_wp2_with fail
        refine (wnum_any _ _).mono ?_
        rintro e u2 ⟨rfl, hu2⟩
        have hu2 := hu2.symm
        subst hu2
        obtain ⟨Q, hQ⟩ : ∃ Q : List Nat, Q = [] := ⟨_, rfl⟩
        have HQB : Hid (∀ u, Ext u1 u → Bs u 0 0 (.slice none 0 0) Q) := fun u _ => by rw [hQ]; exact Bs.nil u 0 0
        obtain ⟨N8, hN8⟩ : ∃ N8, N8 = (logB (G.map Bx.bat) ++ Q).length := ⟨_, rfl⟩
        have HN8 := Lib.hid hN8
        have HN8B : Hid (N8 ≤ 62000000) := by have := HLL.out; rw [hN8, hQ]; unfold Hid; simp; omega
        have HQL : Hid ((∀ x ∈ logB (G.map Bx.bat) ++ Q, x < 256) ∧ Batl (Fm.frs (logB (G.map Bx.bat) ++ Q) 0) 0 (gl 0 (G.map Bx.bat)) ∧ wellB (logB (G.map Bx.bat) ++ Q) (gl 0 (G.map Bx.bat)) = true) := by
          rw [hQ]
          refine ⟨by rw [List.append_nil]; exact logB_lt HI.out.put, by have h := batl_good Fm.whole1_nil (G.map Bx.bat) [] 0 HI.out.put HI.out.ris; simpa using h, ?_⟩
          have h := well_good (q := [0]) HI.out.put (by refine ⟨?_, ?_, ?_⟩ <;> simp) (j := 0) (by simp)
          simpa using h
        clear hQ hN8
        go_wp2_with (at_builtin; refine wpList_addn rfl (.const (.slice none 0 0)) (.tmp 98) rfl u1.heap.size _ [] rfl (Own.nil _ u1) _ _ _ (logB (G.map Bx.bat)) rfl HX1'.out.own.bs (logB (G.map Bx.bat)) m (List.nil_append _) HX1'.out.len.symm (by have := HX1'.out.len; have := HLL.out; omega) (Nat.le_refl _) ?_)
        intro A7 c7 w7 ho7 hb7
        have HX17 : Hid (Ext u1 w7) := hb7 u1 (Ext.refl _)
        have HO7 := Lib.hid ho7
        clear ho7 hb7
        go_wp2_with (at_builtin; refine wpList_addn rfl (.tmp 99) (.tmp 100) rfl u1.heap.size _ (logB (G.map Bx.bat)) rfl HO7.out _ _ _ Q rfl (HQB.out w7 HX17.out) (logB (G.map Bx.bat) ++ Q) N8 rfl HN8.out.symm (by have := HN8B.out; omega) HX17.out.size ?_)
        intro A8 c8 w8 ho8 hb8
        have HX18 : Hid (Ext u1 w8) := hb8 u1 HX17.out
        have HO8 := Lib.hid ho8
        have HI8 := Lib.hid (HX1'.out.up HX18.out)
        clear ho8 hb8
        have HBA : Hid (Calls Try.prog 19 #[.slice A8 N8 c8] w8 (BatsAns w8 (logB (G.map Bx.bat) ++ Q) (gl 0 (G.map Bx.bat)))) := batches_any HO8.out.bs (Nat.le_refl _) HQL.out.1 (by have := HN8.out; have := HN8B.out; omega) HQL.out.2.1
        unfold BatsAns at HBA
        rw [endAt_gl, HQL.out.2.2, Nat.zero_add, ← HI8.out.len] at HBA
        go_wp2_with fail
        refine HBA.out.mono ?_
        rintro e w9 ⟨Y, V, q9, hmap, rfl, hbts, hx⟩
        have HX89 : Hid (Ext w8 w9) := hx
        have HI9 := Lib.hid (HI8.out.up hx)
        have HT := Lib.hid hbts
        have HMP : Hid (Y.map Bx.bat = G.map Bx.bat) := by rw [hmap]; exact gl_snd _ _
        have hyl : Y.length = N := by have h1 := congrArg List.length HMP.out; rw [List.length_map, List.length_map] at h1; rw [h1, HNG.out]
        have HYL := Lib.hid hyl
        rw [hyl]
        have eM : ((m : Int) == (m : Int)) = true := by simp
        clear hmap hx hbts hyl HBA
        have HRB := Lib.hid (show Rbs w4.heap.size (.slice U G.length uc) G w9 from HI9.out.rbs (HBT.out w9 (Ext.trans HX4.out HI9.out.ext)) HX4.out.size)
        have HSM : Hid (Calls Try.prog 15 #[.slice V N q9, .slice U N uc] w9 fun x w' => ∃ z : Bool, (z = true ↔ Y.map Bx.bat = G.map Bx.bat) ∧ x = .returned (.bool z) ∧ Ext w9 w') := by
          have h := same13_any (c := q9) (c2 := uc) HT.out HRB.out.bts (Nat.le_refl _) (Nat.le_refl _) (by have := HYL.out; have := HNG.out; have := HLT.out; omega)
          rwa [HYL.out, ← HNG.out] at h
        go_wp2_with fail
        refine HSM.out.mono ?_
        rintro e w10 ⟨z, hz, rfl, hx⟩
        have hz2 : z = true := hz.2 HMP.out
        subst hz2
        have HX10 : Hid (Ext w w10) := Ext.trans HX4.out (Ext.trans HI9.out.ext hx)
        clear hz hx HSM
        go_wp2_with fail
        go_ret
        exact ⟨rfl, HX10.out⟩
      · have HX1' := Lib.hid (HI.out.up hx1)
        clear hx1
        go_wp2_with fail
        refine (wnum_any _ _).mono ?_
        rintro e u2 ⟨rfl, hu2⟩
        have hu2 := hu2.symm
        subst hu2
        obtain ⟨Q, hQ⟩ : ∃ Q : List Nat, Q = [] := ⟨_, rfl⟩
        have HQB : Hid (∀ u, Ext u1 u → Bs u 0 0 (.slice none 0 0) Q) := fun u _ => by rw [hQ]; exact Bs.nil u 0 0
        obtain ⟨N8, hN8⟩ : ∃ N8, N8 = (logB (G.map Bx.bat) ++ Q).length := ⟨_, rfl⟩
        have HN8 := Lib.hid hN8
        have HN8B : Hid (N8 ≤ 62000000) := by have := HLL.out; rw [hN8, hQ]; unfold Hid; simp; omega
        have HQL : Hid ((∀ x ∈ logB (G.map Bx.bat) ++ Q, x < 256) ∧ Batl (Fm.frs (logB (G.map Bx.bat) ++ Q) 0) 0 (gl 0 (G.map Bx.bat)) ∧ wellB (logB (G.map Bx.bat) ++ Q) (gl 0 (G.map Bx.bat)) = true) := by
          rw [hQ]
          refine ⟨by rw [List.append_nil]; exact logB_lt HI.out.put, by have h := batl_good Fm.whole1_nil (G.map Bx.bat) [] 0 HI.out.put HI.out.ris; simpa using h, ?_⟩
          have h := well_good (q := [0]) HI.out.put (by refine ⟨?_, ?_, ?_⟩ <;> simp) (j := 0) (by simp)
          simpa using h
        clear hQ hN8
        go_wp2_with (at_builtin; refine wpList_addn rfl (.const (.slice none 0 0)) (.tmp 98) rfl u1.heap.size _ [] rfl (Own.nil _ u1) _ _ _ (logB (G.map Bx.bat)) rfl HX1'.out.own.bs (logB (G.map Bx.bat)) m (List.nil_append _) HX1'.out.len.symm (by have := HX1'.out.len; have := HLL.out; omega) (Nat.le_refl _) ?_)
        intro A7 c7 w7 ho7 hb7
        have HX17 : Hid (Ext u1 w7) := hb7 u1 (Ext.refl _)
        have HO7 := Lib.hid ho7
        clear ho7 hb7
        go_wp2_with (at_builtin; refine wpList_addn rfl (.tmp 99) (.tmp 100) rfl u1.heap.size _ (logB (G.map Bx.bat)) rfl HO7.out _ _ _ Q rfl (HQB.out w7 HX17.out) (logB (G.map Bx.bat) ++ Q) N8 rfl HN8.out.symm (by have := HN8B.out; omega) HX17.out.size ?_)
        intro A8 c8 w8 ho8 hb8
        have HX18 : Hid (Ext u1 w8) := hb8 u1 HX17.out
        have HO8 := Lib.hid ho8
        have HI8 := Lib.hid (HX1'.out.up HX18.out)
        clear ho8 hb8
        have HBA : Hid (Calls Try.prog 19 #[.slice A8 N8 c8] w8 (BatsAns w8 (logB (G.map Bx.bat) ++ Q) (gl 0 (G.map Bx.bat)))) := batches_any HO8.out.bs (Nat.le_refl _) HQL.out.1 (by have := HN8.out; have := HN8B.out; omega) HQL.out.2.1
        unfold BatsAns at HBA
        rw [endAt_gl, HQL.out.2.2, Nat.zero_add, ← HI8.out.len] at HBA
        go_wp2_with fail
        refine HBA.out.mono ?_
        rintro e w9 ⟨Y, V, q9, hmap, rfl, hbts, hx⟩
        have HX89 : Hid (Ext w8 w9) := hx
        have HI9 := Lib.hid (HI8.out.up hx)
        have HT := Lib.hid hbts
        have HMP : Hid (Y.map Bx.bat = G.map Bx.bat) := by rw [hmap]; exact gl_snd _ _
        have hyl : Y.length = N := by have h1 := congrArg List.length HMP.out; rw [List.length_map, List.length_map] at h1; rw [h1, HNG.out]
        have HYL := Lib.hid hyl
        rw [hyl]
        have eM : ((m : Int) == (m : Int)) = true := by simp
        clear hmap hx hbts hyl HBA
        have HRB := Lib.hid (show Rbs w4.heap.size (.slice U G.length uc) G w9 from HI9.out.rbs (HBT.out w9 (Ext.trans HX4.out HI9.out.ext)) HX4.out.size)
        have HSM : Hid (Calls Try.prog 15 #[.slice V N q9, .slice U N uc] w9 fun x w' => ∃ z : Bool, (z = true ↔ Y.map Bx.bat = G.map Bx.bat) ∧ x = .returned (.bool z) ∧ Ext w9 w') := by
          have h := same13_any (c := q9) (c2 := uc) HT.out HRB.out.bts (Nat.le_refl _) (Nat.le_refl _) (by have := HYL.out; have := HNG.out; have := HLT.out; omega)
          rwa [HYL.out, ← HNG.out] at h
        go_wp2_with fail
        refine HSM.out.mono ?_
        rintro e w10 ⟨z, hz, rfl, hx⟩
        have hz2 : z = true := hz.2 HMP.out
        subst hz2
        have HX10 : Hid (Ext w w10) := Ext.trans HX4.out (Ext.trans HI9.out.ext hx)
        clear hz hx HSM
        go_wp2_with fail
        go_ret
        exact ⟨rfl, HX10.out⟩
      · obtain ⟨bv', cv', rfl⟩ := own_some hown (by intro h; have h2 := Fm.frame_length (⟨yi, yA, yc, yL⟩ : Bx).bat.form; rw [h] at h2; simp at h2)
        obtain ⟨F, hF⟩ : ∃ F, F = Fm.frame (⟨yi, yA, yc, yL⟩ : Bx).bat.form := ⟨_, rfl⟩
        rw [← hF] at hown ⊢
        have HF := Lib.hid hF
        have HOF := Lib.hid hown
        have HX1' := Lib.hid (HI.out.up hx1)
        have HU1 : Hid (Ext w u1) := Ext.trans HWR.out hx1
        have HFL : Hid (F.length = (⟨yi, yA, yc, yL⟩ : Bx).bat.form.length + 8 ∧ F.length ≤ 1048584) := by rw [hF, Fm.frame_length]; unfold Hid; omega
        have HMAY := Lib.hid hmay
        obtain ⟨fl, hfl⟩ : ∃ fl, fl = F.length := ⟨_, rfl⟩
        have HFN := Lib.hid hfl
        rw [← hfl]
        have hf1 : (0 : Int) < (fl : Int) := by have := HFL.out; omega
        have df : decide ((0 : Int) < (fl : Int)) = true := decide_eq_true hf1
        have dfn : decide (0 < fl) = true := decide_eq_true (by omega)
        have df0 : ((fl : Int) = 0) = False := eq_false (by omega)
        obtain ⟨j, ej, hjl⟩ : ∃ j : Nat, part.tmod (fl : Int) = (j : Int) ∧ j < fl := ⟨(part.tmod fl).toNat, by have := Int.tmod_nonneg (fl : Int) HP0.out; omega, by have := Int.tmod_lt_of_pos part hf1; have := Int.tmod_nonneg (fl : Int) HP0.out; omega⟩
        have hcap : fl ≤ cv' := by
          obtain ⟨_, c', e, h1, h2, _⟩ := (show Bs u1 0 u1.heap.size (.slice (some ⟨bv', 0, none⟩) F.length cv') F from Own.bs hown)
          injection e with _ _ e3
          subst e3
          omega
        have HJ : Hid (j < F.length) := by unfold Hid; omega
        have hj0 : (0 : Int) ≤ (j : Int) := by omega
        have hjc : (j : Int) ≤ (cv' : Int) := by omega
        have hjc2 : j ≤ cv' := by omega
        have HP1 : Hid (Put1 (⟨yi, yA, yc, yL⟩ : Bx).bat) := ⟨hmay, hlen, (HBY.out wr HWR.out).bytes⟩
        have HJB : Hid (∀ u, Ext u1 u → Bs u 0 u.heap.size (.slice (some ⟨bv', 0, none⟩) j cv') (F.take j)) := fun u hu =>
          (show Bs u 0 u.heap.size (.slice (some ⟨bv', 0, none⟩) F.length cv') F from Own.bs (hown.below hu)).head (k := j) (by omega)
        clear hjl hcap
        clear hx1 hown hmay hlen hF hfl
        go_wp2_with fail
        refine (wnum_any _ _).mono ?_
        rintro e u2 ⟨rfl, hu2⟩
        have hu2 := hu2.symm
        subst hu2
        obtain ⟨Q, hQ⟩ : ∃ Q : List Nat, Q = F.take j := ⟨_, rfl⟩
        have HQB : Hid (∀ u, Ext u1 u → Bs u 0 u.heap.size (.slice (some ⟨bv', 0, none⟩) j cv') Q) := fun u hu => by rw [hQ]; exact HJB.out u hu
        obtain ⟨N8, hN8⟩ : ∃ N8, N8 = (logB (G.map Bx.bat) ++ Q).length := ⟨_, rfl⟩
        have HN8 := Lib.hid hN8
        have HN8B : Hid (N8 ≤ 62000000) := by have := HLL.out; have h2 := HFL.out.2; have h3 := HJ.out; rw [hN8, hQ, List.length_append, List.length_take]; unfold Hid; omega
        have HQL : Hid ((∀ x ∈ logB (G.map Bx.bat) ++ Q, x < 256) ∧ Batl (Fm.frs (logB (G.map Bx.bat) ++ Q) 0) 0 (gl 0 (G.map Bx.bat)) ∧ wellB (logB (G.map Bx.bat) ++ Q) (gl 0 (G.map Bx.bat)) = true) := by
          have hjl : j < (⟨yi, yA, yc, yL⟩ : Bx).bat.form.length + 8 := by rw [← HFL.out.1]; exact HJ.out
          have hw := Fm.whole_cut HP1.out.mayP hjl
          rw [hQ, HF.out]
          refine ⟨fun x hx => ?_, by have h := batl_good hw.1 (G.map Bx.bat) [] 0 HI.out.put HI.out.ris; simpa using h, well_good HI.out.put HP1.out.mayP hjl⟩
          rcases List.mem_append.1 hx with hx | hx
          · exact logB_lt HI.out.put x hx
          · have h1 := logB_lt (bs := [(⟨yi, yA, yc, yL⟩ : Bx).bat]) (fun b hb => by rw [List.mem_singleton] at hb; subst hb; exact HP1.out) x
            rw [logB_cons, logB_nil, List.append_nil] at h1
            exact h1 (List.mem_of_mem_take hx)
        clear hQ hN8
        go_wp2_with (at_builtin; refine wpList_addn rfl (.const (.slice none 0 0)) (.tmp 98) rfl u1.heap.size _ [] rfl (Own.nil _ u1) _ _ _ (logB (G.map Bx.bat)) rfl HX1'.out.own.bs (logB (G.map Bx.bat)) m (List.nil_append _) HX1'.out.len.symm (by have := HX1'.out.len; have := HLL.out; omega) (Nat.le_refl _) ?_)
        intro A7 c7 w7 ho7 hb7
        have HX17 : Hid (Ext u1 w7) := hb7 u1 (Ext.refl _)
        have HO7 := Lib.hid ho7
        clear ho7 hb7
        go_wp2_with (at_builtin; refine wpList_addn rfl (.tmp 99) (.tmp 100) rfl u1.heap.size _ (logB (G.map Bx.bat)) rfl HO7.out _ _ _ Q rfl (HQB.out w7 HX17.out) (logB (G.map Bx.bat) ++ Q) N8 rfl HN8.out.symm (by have := HN8B.out; omega) HX17.out.size ?_)
        intro A8 c8 w8 ho8 hb8
        have HX18 : Hid (Ext u1 w8) := hb8 u1 HX17.out
        have HO8 := Lib.hid ho8
        have HI8 := Lib.hid (HX1'.out.up HX18.out)
        clear ho8 hb8
        have HBA : Hid (Calls Try.prog 19 #[.slice A8 N8 c8] w8 (BatsAns w8 (logB (G.map Bx.bat) ++ Q) (gl 0 (G.map Bx.bat)))) := batches_any HO8.out.bs (Nat.le_refl _) HQL.out.1 (by have := HN8.out; have := HN8B.out; omega) HQL.out.2.1
        unfold BatsAns at HBA
        rw [endAt_gl, HQL.out.2.2, Nat.zero_add, ← HI8.out.len] at HBA
        go_wp2_with fail
        refine HBA.out.mono ?_
        rintro e w9 ⟨Y, V, q9, hmap, rfl, hbts, hx⟩
        have HX89 : Hid (Ext w8 w9) := hx
        have HI9 := Lib.hid (HI8.out.up hx)
        have HT := Lib.hid hbts
        have HMP : Hid (Y.map Bx.bat = G.map Bx.bat) := by rw [hmap]; exact gl_snd _ _
        have hyl : Y.length = N := by have h1 := congrArg List.length HMP.out; rw [List.length_map, List.length_map] at h1; rw [h1, HNG.out]
        have HYL := Lib.hid hyl
        rw [hyl]
        have eM : ((m : Int) == (m : Int)) = true := by simp
        clear hmap hx hbts hyl HBA
        have HRB := Lib.hid (show Rbs w4.heap.size (.slice U G.length uc) G w9 from HI9.out.rbs (HBT.out w9 (Ext.trans HX4.out HI9.out.ext)) HX4.out.size)
        have HSM : Hid (Calls Try.prog 15 #[.slice V N q9, .slice U N uc] w9 fun x w' => ∃ z : Bool, (z = true ↔ Y.map Bx.bat = G.map Bx.bat) ∧ x = .returned (.bool z) ∧ Ext w9 w') := by
          have h := same13_any (c := q9) (c2 := uc) HT.out HRB.out.bts (Nat.le_refl _) (Nat.le_refl _) (by have := HYL.out; have := HNG.out; have := HLT.out; omega)
          rwa [HYL.out, ← HNG.out] at h
        go_wp2_with fail
        refine HSM.out.mono ?_
        rintro e w10 ⟨z, hz, rfl, hx⟩
        have hz2 : z = true := hz.2 HMP.out
        subst hz2
        have HX10 : Hid (Ext w w10) := Ext.trans HX4.out (Ext.trans HI9.out.ext hx)
        clear hz hx HSM
        go_wp2_with fail
        go_ret
        exact ⟨rfl, HX10.out⟩
end Go.Proofs.Ytndcblhkjhjcdaa

/- WalTorn: from the walk to the statement. For every input the law answers true and leaves its arguments as they were. -/
namespace Go.Proofs.Ytndcblhkjhjcdaa.walTorn
open Go.ChangeShapes Go.WideShapes Go.ChangeAt Go.RowKit
set_option linter.unusedVariables false

set_option maxRecDepth 100000 in
theorem lifted (os : Os) (started : os.Started) (H : Type) (enc : TypeId × Value → H) :
    ReturnsInHanded {} Try.checked os 7 .any (Rows.walTornSpec.pre6 enc Try.prog Try.f7 Rows.walTornRow.domain false) (Rows.walTornSpec.post enc Try.prog Try.f7 false true false false) := by
  refine returnsInHanded_of_change_sized (C := Try.checked) own started (by kernel_rfl) Try.func7
    (ChangeSpec.witness6 (enc := enc) (C := Try.checked) false ⟨#[], #[.slice none 0 0, .agg #[.int .i64 0, .slice none 0 0], .int .i64 0], []⟩ 8 (by kernel_rfl) (by kernel_rfl) (by kernel_rfl) (by kernel_rfl)) ?_
  intro W base args ds gs before hval0 hW hcnd hsz0 _
  have hsz : (DataW.weightsEach Try.prog (Try.f7.params.toList ++ Rows.walTornSpec.plain.varTypes Try.prog) (ds ++ gs)).all (· ≤ reachBytes) = true := hsz0
  have hval : ∀ (j : Nat) t v, Try.f7.params[j]? = some t → args[j]? = some v → Value.okWide Try.prog W .any base t v := hval0
  have hW' := hW
  obtain ⟨p, q, hA0, hV, rfl, hfz, hnd⟩ := hW
  have hA : DataW.TrodAll enc Try.prog W 0 (fun _ => true) true Try.f7.params.toList args.toList ds p := hA0
  rw [Try.params7] at hA hval hsz
  obtain ⟨v0, vs0, d0, ds0, p0, q0, hargs, rfl, rfl, h0, r0⟩ := trodAll_cons hA
  obtain ⟨v1, vs1, d1, ds1, p1, q1, rfl, rfl, rfl, h1, r1⟩ := trodAll_cons r0
  obtain ⟨v2, vs2, d2, ds2, p2, q2, rfl, rfl, rfl, h2, r2⟩ := trodAll_cons r1
  obtain ⟨rfl, rfl, rfl⟩ := trodAll_nil r2
  obtain rfl : args = #[v0, v1, v2] := by cases args; simp_all
  obtain ⟨rfl, rfl⟩ := trodVars_none hV
  have k0 := h0
  have lt0 : ∀ x ∈ p0, x.block < W.heap.size := by obtain ⟨m, hm⟩ := k0; exact DataW.trod_lt m _ _ _ hm
  obtain ⟨A0, c0, L0, rfl, x0, y0, m0, z0, n0⟩ := open_batches (hval 0 26 v0 rfl rfl) h0 hsz (jj := 0) rfl rfl
  have k1 := h1
  have lt1 : ∀ x ∈ p1, x.block < W.heap.size := by obtain ⟨m, hm⟩ := k1; exact DataW.trod_lt m _ _ _ hm
  obtain ⟨x1, rfl, m1, z1⟩ := open_batch (hval 1 24 v1 rfl rfl) h1 hsz (jj := 1) rfl rfl
  obtain ⟨a2, rfl, rfl, rfl, w2⟩ := open_int Try.underlying3 (hval 2 3 v2 rfl rfl) h2
  clear hA0 hval0 hsz0
  refine (wtorn_walk W A0 c0 L0 x0 y0 m0 z0 n0 x1 m1 z1 a2 w2).mono fun e W' ⟨he, bel⟩ => ?_
  subst he
  exact ⟨_, rfl, _, _, _, [], _, [], hW', trodAll_mk1 (shut_bool Try.underlying4 _), (trodAll_cons_mk (Below.trod laidOut (by kernel_rfl) (of_decide_eq_true (by kernel_rfl)) k0 bel lt0) (trodAll_cons_mk (Below.trod laidOut (by kernel_rfl) (of_decide_eq_true (by kernel_rfl)) k1 bel lt1) (trodAll_cons_mk (shut_int Try.underlying3 w2) trodAll_mk0))), rfl, bel.frame _, fun h => by cases h⟩

theorem over : Rows.walTornRow.holds Try.pinned (OpenSpec.ofChange Rows.walTornSpec) :=
  OpenClaim.holds_of_wide 7 Try.f7 rfl rfl rfl rfl rfl rfl rfl ⟨rfl, rfl, rfl, rfl, rfl⟩ rfl rfl rfl rfl rfl (by kernel_rfl) Try.func7 (by kernel_rfl)
    (of_decide_eq_true (by kernel_rfl)) (by unfold Func.isWrapper; first | (rw [if_pos (by decide +kernel)]; kernel_rfl) | (rw [if_neg (by decide +kernel)]; exact ⟨rfl, rfl⟩))
    (fun os started H enc _ => lifted os started H enc)

theorem proved : Rows.WalTornSaid := over
end Go.Proofs.Ytndcblhkjhjcdaa.walTorn
