/- Dsame Dsame2 Dargs3, joined. -/
import Derived.Test.YtenhfphgobalfaaMa13
import Derived.LoopN
import Derived.Test.YtenhfphgobalfaaMa10

/- Whether two disks are the same. -/
namespace Go.Proofs.Ytenhfphgobalfaa
open Go.RowKit Go.Maps

theorem list_nat8' {l : List Nat} (h : ∀ b ∈ l, b < 256) : ∃ d : List UInt8, nat8 d = l := by
  refine ⟨l.map UInt8.ofNat, ?_⟩
  unfold nat8
  rw [List.map_map]
  conv => rhs; rw [← List.map_id l]
  refine List.map_congr_left fun b hb => ?_
  have := h b hb
  simp
  omega
set_option maxRecDepth 100000 in
theorem cvb {w : World} {lo hi : Nat} {A : Option Addr} {n c : Nat} {l : List Nat} (h : Bs w lo hi (.slice A n c) l) : (convert 35 9 (.slice A n c)).run Try.prog w = .ok (.string (tx l)) w := by
  obtain ⟨A', c', e, h1, h2, h3, hy⟩ := h
  injection e with e1 e2 e3
  subst e1 e2 e3
  exact run_text (P := Try.prog) w 35 5 Try.underlying35 Try.underlying5 hy l.length c rfl 9 Try.underlying9
theorem tx_same {a b : List Nat} (ha : ∀ x ∈ a, x < 256) (hb : ∀ x ∈ b, x < 256) : ((tx a).toList == (tx b).toList) = decide (a = b) := by
  by_cases h : a = b
  · subst h; simp
  · rw [decide_eq_false h]
    obtain ⟨a', rfl⟩ := list_nat8' ha
    obtain ⟨b', rfl⟩ := list_nat8' hb
    rw [tx_nat8, tx_nat8, ByteArray.toList_eq, ByteArray.toList_eq]
    simp
    exact fun e => h (by rw [e])
theorem equal_any {w : World} {lo hi lo2 hi2 : Nat} {u v : Value} {a b : List Nat} (hu : Bs w lo hi u a) (hv : Bs w lo2 hi2 v b) (ha : ∀ x ∈ a, x < 256) (hb : ∀ x ∈ b, x < 256) :
    Calls Try.prog 64 #[u, v] w fun e w' => e = .returned (.bool (decide (a = b))) ∧ w' = w := by
  have ht := tx_same ha hb
  obtain ⟨z, hz⟩ : ∃ z, z = decide (a = b) := ⟨_, rfl⟩
  rw [← hz] at ht ⊢
  obtain ⟨A, c, rfl⟩ : ∃ A c, u = .slice A a.length c := by obtain ⟨A, c, e, _⟩ := id hu; exact ⟨A, c, e⟩
  obtain ⟨A2, c2, rfl⟩ : ∃ A c, v = .slice A b.length c := by obtain ⟨A, c, e, _⟩ := id hv; exact ⟨A, c, e⟩
  have c1 := cvb hu
  have c2 := cvb hv
  clear hz hu hv ha hb
  go_enter Try.func64, Try.ntmps64
  go_wp2_with fail
  go_ret
  exact ⟨rfl, rfl⟩
theorem FileAt.sl {w : World} {S : Nat → Prop} {B : Nat} {f : Fl} {v : Value} (h : FileAt w S B f v) : ∃ A c, v = fv A f.data.length c (f.lasts : Int) ∧ IsBytes (.slice A f.data.length c) f.data w := by
  obtain ⟨⟨u, rfl, hr, _⟩, _⟩ := h
  obtain ⟨A, c, rfl⟩ := (show Own B f.data u w from hr).slice
  exact ⟨A, c, rfl, (show Own B f.data _ w from hr).bs⟩

/-- What alike answers. -/
def alikeB (f g : Fl) : Bool := decide (f.lasts = g.lasts) && decide (f.data = g.data)
theorem alikeB_iff {f g : Fl} (h : f.name = g.name) : alikeB f g = true ↔ f = g := by
  obtain ⟨n, a, l⟩ := f
  obtain ⟨n', a', l'⟩ := g
  obtain rfl : n = n' := h
  unfold alikeB
  simp
  exact ⟨fun h => ⟨h.2, h.1⟩, fun h => ⟨h.2, h.1⟩⟩

set_option maxRecDepth 100000 in
theorem alike_any {w : World} {f g : Fl} {A A2 : Option Addr} {c c2 : Nat} (h : IsBytes (.slice A f.data.length c) f.data w) (h2 : IsBytes (.slice A2 g.data.length c2) g.data w) (hf : ∀ b ∈ f.data, b < 256) (hg : ∀ b ∈ g.data, b < 256) :
    Calls Try.prog 51 #[.agg #[.slice A f.data.length c, .int .i64 (f.lasts : Int)], .agg #[.slice A2 g.data.length c2, .int .i64 (g.lasts : Int)]] w fun e w' => e = .returned (.bool (alikeB f g)) ∧ Ext w w' := by
  have HE := Lib.hid (fun u (hu : Ext w u) => equal_any ((show Bs w 0 w.heap.size _ _ from h).below hu (Nat.le_refl _)) ((show Bs w 0 w.heap.size _ _ from h2).below hu (Nat.le_refl _)) hf hg)
  have HFG : Hid (alikeB f g = (decide (f.lasts = g.lasts) && decide (f.data = g.data))) := Lib.hid rfl
  obtain ⟨z, hz⟩ : ∃ z, z = decide (f.data = g.data) := ⟨_, rfl⟩
  rw [← hz] at HE HFG
  obtain ⟨y, hy⟩ : ∃ y, y = decide (f.lasts = g.lasts) := ⟨_, rfl⟩
  rw [← hy] at HFG
  have hyy : ((f.lasts : Int) == (g.lasts : Int)) = y := by 
    rw [hy]
    by_cases e : f.lasts = g.lasts
    · rw [e]; simp
    · simp [e]; omega
  obtain ⟨n1, hn1⟩ : ∃ n, n = f.data.length := ⟨_, rfl⟩
  obtain ⟨n2, hn2⟩ : ∃ n, n = g.data.length := ⟨_, rfl⟩
  obtain ⟨l1, hl1⟩ : ∃ n, n = f.lasts := ⟨_, rfl⟩
  obtain ⟨l2, hl2⟩ : ∃ n, n = g.lasts := ⟨_, rfl⟩
  rw [← hn1, ← hn2] at HE
  rw [← hl1, ← hl2] at hyy
  rw [← hn1, ← hn2, ← hl1, ← hl2]
  clear h h2 hf hg hz hy hn1 hn2 hl1 hl2
  cases y with
  | false =>
    go_enter Try.func51, Try.ntmps51
    go_wp2_with fail
    go_ret
    exact ⟨by rw [HFG.out]; rfl, Ext.trans (ext_alloc _ _) (ext_alloc _ _)⟩
  | true =>
    go_enter Try.func51, Try.ntmps51
    go_wp2_with fail
    refine Calls.mono (HE.out _ (Ext.trans (ext_alloc _ _) (ext_alloc _ _))) ?_
    rintro e w' ⟨rfl, rfl⟩
    go_wp2_with fail
    go_ret
    exact ⟨by rw [HFG.out]; cases z <;> rfl, Ext.trans (ext_alloc _ _) (ext_alloc _ _)⟩
theorem perm_sub : ∀ {F F2 : List Fl}, (F.map Fl.name).Nodup → (F2.map Fl.name).Nodup → (∀ f ∈ F, f ∈ F2) → F.length = F2.length → F.Perm F2
  | [], F2, _, _, _, hl => by rw [List.eq_nil_of_length_eq_zero (l := F2) hl.symm]
  | f :: F, F2, h, h2, hs, hl => by
    have p := del_perm h2 (hs f (List.mem_cons_self ..))
    rw [List.map_cons, List.nodup_cons] at h
    have hlen := p.length_eq
    simp only [List.length_cons] at hlen hl
    refine List.Perm.trans (List.Perm.cons f (perm_sub h.2 (del_nodup h2) (fun g hg => mem_del.2 ⟨hs g (List.mem_cons_of_mem _ hg), fun e => h.1 ?_⟩) (by omega))) p.symm
    rw [← e]
    exact List.mem_map_of_mem hg
theorem ranges_ext {k : TypeId} {R : Value → Option (DataW Value × List MemPlace)} {w w' : World} {b r n : Nat} {D : DataW Value} {left : Lit → Bool} {cnt : Nat} (h : w.ranges Try.prog k R b r n D left cnt) (hx : Ext w w') : w'.ranges Try.prog k R b r n D left cnt := by
  have h1 := h.owns.lt
  have h2 := h.lt
  obtain ⟨es, clock, since, seen, c0, hb, F, hs, hD, hr, rest⟩ := h
  exact ⟨es, clock, since, seen, c0, (hx.block b h1).trans hb, F, hs, hD, (hx.block r h2).trans hr, rest⟩
theorem fv_inj {A A' : Option Addr} {n n' c c' : Nat} {x x' : Int} (h : fv A n c x = fv A' n' c' x') : A = A' ∧ n = n' ∧ c = c' ∧ x = x' := by
  unfold fv at h
  simp at h
  exact ⟨h.1.1, h.1.2.1, h.1.2.2, h.2⟩
theorem isBytes_ext {v : Value} {l : List Nat} {w u : World} (h : IsBytes v l w) (hx : Ext w u) : IsBytes v l u := ((show Bs w 0 w.heap.size _ _ from h).below hx (Nat.le_refl _)).wide (Nat.le_refl _) hx.size
theorem left_step {F F2 : List Fl} (hn : (F.map Fl.name).Nodup) {left : Lit → Bool} (h : ∀ f ∈ F, left (.string f.name) = false → f ∈ F2) {f : Fl} (hf : f ∈ F) (h2 : f ∈ F2) :
    ∀ f' ∈ F, (left (.string f'.name) && !(Lit.string f'.name).sameKey (.string f.name)) = false → f' ∈ F2 := by
  intro f' hf' e
  by_cases hne : f'.name = f.name
  · rw [same_file hn hf' hf hne]; exact h2
  · rw [sameKey_ne (lit_ne hne)] at e
    exact h f' hf' (by simpa using e)

set_option maxRecDepth 100000 in
set_option maxHeartbeats 8000000 in
theorem eqf_any {w : World} {d m room d2 m2 room2 B B2 : Nat} {S S2 : Nat → Prop} {F F2 : List Fl} {V V2 : List UInt8 → Value} {D D2 : DataW Value} (h : Seen w d m S F V D room) (h2 : Seen w d2 m2 S2 F2 V2 D2 room2)
    (hf : ∀ f ∈ F, FileAt w S B f (V f.name)) (hf2 : ∀ f ∈ F2, FileAt w S2 B2 f (V2 f.name)) (hn : ∀ f ∈ F, good f.name = true) (_hc : F.length ≤ 128) (_hc2 : F2.length ≤ 128) :
    Calls Try.prog 50 #[.map (some m), .map (some m2), .func (.func 51) #[] #[]] w fun e w' => ∃ z : Bool, (z = true ↔ F.Perm F2) ∧ e = .returned (.bool z) ∧ Ext w w' := by
  have hown := h.own
  have HS := Lib.hid h
  have HS2 := Lib.hid h2
  have HF := Lib.hid hf
  have HF2 := Lib.hid hf2
  have HN := Lib.hid hn
  have hlen : ∀ ty, (Builtin.len_ #[77] ty #[.map (some m)]).run Try.prog w = .ok (.int .i64 (F.length : Int)) w := fun ty => by
    have h1 := h.own.len (t := 77) Try.underlying77 ty
    rw [h.con.size] at h1
    exact h1
  have hlen2 : ∀ ty, (Builtin.len_ #[77] ty #[.map (some m2)]).run Try.prog w = .ok (.int .i64 (F2.length : Int)) w := fun ty => by
    have h1 := h2.own.len (t := 77) Try.underlying77 ty
    rw [h2.con.size] at h1
    exact h1
  obtain ⟨N, hNN⟩ : ∃ N, N = F.length := ⟨_, rfl⟩
  obtain ⟨N2, hNN2⟩ : ∃ N, N = F2.length := ⟨_, rfl⟩
  have HL := Lib.hid hNN
  have HL2 := Lib.hid hNN2
  rw [← hNN] at hown hlen
  rw [← hNN2] at hlen2
  clear h h2 hf hf2 hn hNN hNN2
  by_cases hne : N = N2
  rotate_left
  · have dd : ((N : Int) != (N2 : Int)) = true := by simp; omega
    have dd2 : (N != N2) = true := by simp; exact hne
    have HNE := Lib.hid hne
    clear hne hown
    go_enter Try.func50, Try.ntmps50
    go_wp2_with fail
    go_ret
    exact ⟨false, ⟨fun h => (by cases h), fun h => absurd (HL.out.trans (h.length_eq.trans HL2.out.symm)) HNE.out⟩, rfl, Ext.refl _⟩
  have HNE := Lib.hid hne
  subst hne
  have dd : ((N : Int) != (N : Int)) = false := by simp
  go_enter Try.func50, Try.ntmps50
  go_wp2_with (first
    | (at_range; refine wpList_range_own _ rfl _ 77 rfl 9 92 lawS Try.underlying77 _ m N D rfl hown ?_; intro w0 hrg0 hg0 hs0)
    | go_in)
  try go_frame
  clear hs0
  have HRG0 := Lib.hid hrg0
  have HG0 := Lib.hid hg0
  clear hrg0 hg0 hown hlen hlen2 dd
  go_loopw [7, 8, 9, 10] (fun _ _ _ _ wr => ∃ (left : Lit → Bool) (cnt : Nat), wr.ranges Try.prog 9 rdf m w.heap.size N D left cnt ∧ Hid (∀ f ∈ F, left (.string f.name) = false → f ∈ F2) ∧ Below w.heap.size w wr)
    (fun _ _ _ _ wr => wr.rangeLeft m w.heap.size)
  case atStart =>
    exact ⟨_, _, HRG0.out, (fun f hf e => by rw [(HS.out.con.has _).2 ⟨f, hf, rfl⟩] at e; cases e), (Below.refl _ _).grown HG0.out (Nat.le_refl _) (fun k e => by cases e)⟩
  case round =>
    obtain ⟨left, cnt, hrg, hk, hB⟩ := hrel
    have HB := Lib.hid hB
    clear hB
    go_wp2_with (first
      | (at_next; refine wpList_next_ranges _ rfl _ rfl 9 lawS rdf encStr (fun q : Option Addr × Nat × Nat × Int => fv q.1 q.2.1 q.2.2.1 q.2.2.2) (fun key kl hk => by obtain ⟨x, hx, _⟩ := Maps.keyOf_str Try.underlying9 hk; exact ⟨x, hx⟩) (fun v y hv => by obtain ⟨A, n, c, x, e, _⟩ := rdf_inv hv; exact ⟨(A, n, c, x), e⟩) m w.heap.size N _ _ _ rfl hrg ?_ ?_)
      | go_in)
    · intro hc0 hl0
      have HP : Hid (F.Perm F2) := perm_sub HS.out.con.nodup HS2.out.con.nodup (fun f hf => hk.out f hf (hl0 _)) (by rw [← HL.out, ← HL2.out])
      clear hl0 hc0
      go_wp2_with fail
      go_ret
      exact ⟨true, ⟨fun _ => HP.out, fun _ => rfl⟩, rfl, HB.out⟩
    · intro x A n cc z kl yd yp w2 cnt2 hkey hlk hv hat hrg2 hlt hg2 hs2 hen
      obtain ⟨f, hf, rfl, hcv, hkl⟩ := entry_file HS.out.con hkey hv hat
      subst hkl
      have HFM := Lib.hid hf
      obtain ⟨A', cc', hvv, hby⟩ := (HF.out f hf).sl
      rw [hcv] at hvv
      obtain ⟨rfl, rfl, rfl, rfl⟩ := fv_inj hvv
      have HBY := Lib.hid hby
      have HRG := Lib.hid hrg2
      have HOLD := Lib.hid hrg
      have HLT := Lib.hid hlt
      have HB2 := Lib.hid (HB.out.grown hg2 HB.out.size (fun k e => by cases e; exact Nat.le_refl _))
      obtain ⟨s, hs⟩ : ∃ s : ByteArray, s = ⟨f.name.toArray⟩ := ⟨_, rfl⟩
      have hsn : s.data.toList = f.name := by rw [hs]
      have HSN := Lib.hid hsn
      have hss : s.size ≤ maxLen := by
        have h1 := HN.out f hf
        unfold good at h1
        simp only [Bool.and_eq_true, decide_eq_true_eq] at h1
        have h2 : s.size = f.name.length := by rw [hs]; rfl
        unfold maxLen
        omega
      obtain ⟨A2, n2, c2, x2, hl2, _, hat2, hno⟩ := HS2.out.look hss (fun g hg => (HF2.out g hg).shape)
      rw [hsn] at hl2 hat2 hno
      obtain ⟨th, hth⟩ : ∃ th, th = there F2 f.name := ⟨_, rfl⟩
      have HTH := Lib.hid hth
      rw [← hth] at hl2
      have HAT := Lib.hid hat2
      have HX3 : Hid (Ext w (w2.alloc (.cells #[.slice A f.data.length cc, .int .i64 (f.lasts : Int)] 92))) := HB2.out.alloc HB2.out.size _
      have hlk2 := hl2 _ HX3.out
      unfold fv at hen hlk2
      have hen0 : encStr f.name = .string s := by rw [hs, encStr]
      rw [hen0] at hen
      clear hcv hvv hat hlk hv hkey hrg hg2 hs2 hlt hrg2 hf hby hsn hss hl2 hat2 hno hs hth hen0
      have hen1 := hen
      cases th with
      | false =>
        have HNO : Hid (¬ F.Perm F2) := fun hp => there_no HTH.out.symm ⟨f, hp.mem_iff.1 HFM.out, rfl⟩
        go_wp2_with fail
        go_ret
        exact ⟨false, ⟨fun h => (by cases h), fun h => absurd h HNO.out⟩, rfl, Ext.trans HX3.out (ext_alloc _ _)⟩
      | true =>
        obtain ⟨g, hg, hgn⟩ := there_yes HTH.out.symm
        obtain ⟨Ag, cg, hvg, hbg⟩ := (HF2.out g hg).sl
        have hat3 := HAT.out g hg hgn
        rw [hvg] at hat3
        obtain ⟨rfl, rfl, rfl, rfl⟩ := fv_inj hat3
        have HBG := Lib.hid hbg
        have HGM := Lib.hid hg
        have HGN := Lib.hid hgn
        have HAL := Lib.hid (fun u (hu : Ext w u) => alike_any (f := f) (g := g) (isBytes_ext HBY.out hu) (isBytes_ext HBG.out hu) (HF.out f HFM.out).bytes (HF2.out g HGM.out).bytes)
        obtain ⟨z, hz⟩ : ∃ z, z = alikeB f g := ⟨_, rfl⟩
        have HZ := Lib.hid hz
        rw [← hz] at HAL
        clear hat3 hvg hbg hg hgn hz
        go_wp2_with fail
        refine Calls.mono (HAL.out _ (Ext.trans HX3.out (ext_alloc _ _))) ?_
        rintro e w5 ⟨rfl, hx5⟩
        have HX5 : Hid (Ext w2 w5) := Ext.trans (ext_alloc _ _) (Ext.trans (ext_alloc _ _) hx5)
        clear hx5 hen hen1 hlk2
        cases z with
        | false =>
          have HNO : Hid (¬ F.Perm F2) := fun hp => by
            have e1 := same_file HS2.out.con.nodup (hp.mem_iff.1 HFM.out) HGM.out HGN.out.symm
            have e2 := (alikeB_iff HGN.out.symm).2 e1
            rw [← HZ.out] at e2
            cases e2
          go_wp2_with fail
          go_ret
          exact ⟨false, ⟨fun h => (by cases h), fun h => absurd h HNO.out⟩, rfl, Ext.trans HB2.out HX5.out⟩
        | true =>
          have HFG : Hid (f ∈ F2) := by rw [(alikeB_iff HGN.out.symm).1 HZ.out.symm]; exact HGM.out
          have HK2 := Lib.hid (left_step HS.out.con.nodup hk.out HFM.out HFG.out)
          go_wp2_with fail
          go_roundw
          case rel => exact ⟨_, cnt2, ranges_ext HRG.out HX5.out, HK2, Ext.trans HB2.out HX5.out⟩
          case measure => rw [(ranges_ext HRG.out HX5.out).left_eq, HOLD.out.left_eq]; exact HLT.out

/-- Are two disks the same? -/
def SameD (w : World) (room room2 : Nat) (F F2 : List Fl) (e : Ending) (w' : World) : Prop := ∃ z : Bool, (z = true ↔ room = room2 ∧ F.Perm F2) ∧ e = .returned (.bool z) ∧ Ext w w'
end Go.Proofs.Ytenhfphgobalfaa

/- The program's Same, of two disks. -/
namespace Go.Proofs.Ytenhfphgobalfaa
open Go.RowKit Go.Maps

set_option maxRecDepth 100000 in
set_option maxHeartbeats 8000000 in
theorem same_any {w : World} {d room d2 room2 B B2 : Nat} {S S2 : Nat → Prop} {F F2 : List Fl} (h : Disk w S B d room F) (h2 : Disk w S2 B2 d2 room2 F2) :
    Calls Try.prog 24 #[.pointer (some ⟨d, 0, none⟩), .pointer (some ⟨d2, 0, none⟩)] w (SameD w room room2 F F2) := by
  obtain ⟨m, D, V, hs, hf, _, _⟩ := h.seen
  obtain ⟨m2, D2, V2, hs2, hf2, _, _⟩ := h2.seen
  have HI := Lib.hid (none_no ⟨room, h.lo, hs.c0⟩)
  have HI2 := Lib.hid (none_no ⟨room2, h2.lo, hs2.c0⟩)
  obtain ⟨zz, hzz⟩ : ∃ zz : Bool, (zz = true ↔ F.Perm F2) := by
    by_cases hp : F.Perm F2
    · exact ⟨true, fun _ => hp, fun _ => rfl⟩
    · exact ⟨false, fun e => (by cases e), fun e => absurd e hp⟩
  have HZZ := Lib.hid hzz
  have HQ := Lib.hid (fun u (hu : Ext w u) => (eqf_any (hs.ext hu) (hs2.ext hu) (fun f hx => (hf f hx).kept fun g _ hl => hu.block g hl) (fun f hx => (hf2 f hx).kept fun g _ hl => hu.block g hl) h.names h.cnt h2.cnt).mono (R' := fun e w' => e = .returned (.bool zz) ∧ Ext u w') fun e w' ⟨z, h1, h3, h4⟩ => ⟨by rw [h3, (Bool.eq_iff_iff.2 (h1.trans hzz.symm) : z = zz)], h4⟩)
  have HP0 := Lib.hid hs.c0
  have HP1 := Lib.hid hs.c1
  have HR0 := Lib.hid hs2.c0
  have HR1 := Lib.hid hs2.c1
  obtain ⟨y, hy⟩ : ∃ y : Bool, y = ((room : Int) == (room2 : Int)) := ⟨_, rfl⟩
  have HY : Hid (y = true ↔ room = room2) := by rw [hy]; unfold Hid; simp; omega
  replace hy := hy.symm
  clear hs hs2 hf hf2 h h2 hzz
  go_enter Try.func24, Try.ntmps24
  go_wp2_with fail
  refine HI.out.mono ?_
  rintro e w1 ⟨rfl, hw⟩
  subst hw
  go_wp2_with fail
  refine HI2.out.mono ?_
  rintro e w1 ⟨rfl, hw⟩
  subst hw
  cases y with
  | false =>
    have HRN : Hid (room ≠ room2) := fun e => by have h1 := HY.out.2 e; cases h1
    go_upto_region 3 with (fail)
    refine flow (by kernel_rfl) [Is (.pointer (some ⟨d, 0, none⟩)), Is (.pointer (some ⟨d, 0, none⟩)), Is (.pointer (some ⟨d, 0, none⟩)), Is (.int .i64 (room : Int)), Is (.pointer (some ⟨d2, 0, none⟩)), Is (.pointer (some ⟨d2, 0, none⟩)), Is (.pointer (some ⟨d2, 0, none⟩)), Is (.int .i64 (room2 : Int)), Is (.bool false), Is (.bool false), Is undef, Is undef, Is undef, Is undef, Is undef, Is undef, Is undef, Is undef, Is undef, Is (.bool false), Is (.bool false)] (by kernel_rfl) (by kernel_rfl) ?mono (fun f1 => ?obl) ?fin
    case mono =>
      simp only [List.forall_mem_cons, List.not_mem_nil, false_imp_iff, implies_true, and_true]
      exact ⟨.is _, .is _, .is _, .is _, .is _, .is _, .is _, .is _, .is _, .is _, .is _, .is _, .is _, .is _, .is _, .is _, .is _, .is _, .is _, .is _, .is _⟩
    case fin =>
      intro g1 u hu hg
      simp only [puts, Act.put, List.setIfInBounds_toArray, List.set_cons_zero, List.set_cons_succ]
      have h20 : g1 20 = .bool false := hg 20 (by decide)
      rw [h20]
      have HU : Hid (Ext w u) := Ext.trans (Ext.drew w) hu
      clear h20 hg hu hy
      go_wp2_with fail
      go_ret
      exact ⟨false, ⟨fun h => (by cases h), fun h => absurd h.1 HRN.out⟩, rfl, HU.out⟩
    case obl =>
      refine ⟨fun u hu hd => ?_, ?_⟩
      · go_simp
        exact ⟨Ext.refl _, rfl⟩
      refine ⟨fun u hu hd => ?_, ?_⟩
      · simp only [Act.put, List.setIfInBounds_toArray, List.set_cons_zero, List.set_cons_succ]
        have e0 : f1 0 = .pointer (some ⟨d, 0, none⟩) := hd 0 (by kernel_rfl)
        go_simp
        exact ⟨Ext.refl _, rfl⟩
      refine ⟨fun u hu hd => ?_, ?_⟩
      · simp only [Act.put, List.setIfInBounds_toArray, List.set_cons_zero, List.set_cons_succ]
        have e1 : f1 1 = .pointer (some ⟨d, 0, none⟩) := hd 1 (by kernel_rfl)
        go_simp
        exact ⟨Ext.refl _, rfl⟩
      refine ⟨fun u hu hd => ?_, ?_⟩
      · simp only [Act.put, List.setIfInBounds_toArray, List.set_cons_zero, List.set_cons_succ]
        have e2 : f1 2 = .pointer (some ⟨d, 0, none⟩) := hd 2 (by kernel_rfl)
        have hu2 := Ext.trans (Ext.drew w) hu
        have q0 := ext_cell hu2 HP0.out
        go_simp
        exact ⟨Ext.refl _, rfl⟩
      refine ⟨fun u hu hd => ?_, ?_⟩
      · simp only [Act.put, List.setIfInBounds_toArray, List.set_cons_zero, List.set_cons_succ]
        go_simp
        exact ⟨Ext.refl _, rfl⟩
      refine ⟨fun u hu hd => ?_, ?_⟩
      · simp only [Act.put, List.setIfInBounds_toArray, List.set_cons_zero, List.set_cons_succ]
        have e4 : f1 4 = .pointer (some ⟨d2, 0, none⟩) := hd 4 (by kernel_rfl)
        go_simp
        exact ⟨Ext.refl _, rfl⟩
      refine ⟨fun u hu hd => ?_, ?_⟩
      · simp only [Act.put, List.setIfInBounds_toArray, List.set_cons_zero, List.set_cons_succ]
        have e5 : f1 5 = .pointer (some ⟨d2, 0, none⟩) := hd 5 (by kernel_rfl)
        go_simp
        exact ⟨Ext.refl _, rfl⟩
      refine ⟨fun u hu hd => ?_, ?_⟩
      · simp only [Act.put, List.setIfInBounds_toArray, List.set_cons_zero, List.set_cons_succ]
        have e6 : f1 6 = .pointer (some ⟨d2, 0, none⟩) := hd 6 (by kernel_rfl)
        have hu2 := Ext.trans (Ext.drew w) hu
        have q0 := ext_cell hu2 HR0.out
        go_simp
        exact ⟨Ext.refl _, rfl⟩
      refine ⟨fun u hu hd => ?_, ?_⟩
      · simp only [Act.put, List.setIfInBounds_toArray, List.set_cons_zero, List.set_cons_succ]
        have e3 : f1 3 = .int .i64 (room : Int) := hd 3 (by kernel_rfl)
        have e7 : f1 7 = .int .i64 (room2 : Int) := hd 7 (by kernel_rfl)
        have t := hy
        clear hd
        go_simp
        exact ⟨Ext.refl _, rfl⟩
      refine ⟨fun u hu hd => ?_, ?_⟩
      · simp only [Act.put, List.setIfInBounds_toArray, List.set_cons_zero, List.set_cons_succ]
        have e8 : f1 8 = .bool false := hd 8 (by kernel_rfl)
        go_simp
        exact ⟨Ext.refl _, rfl⟩
      refine ⟨fun u hu hd => ?_, ?_⟩
      · simp only [Act.put, List.setIfInBounds_toArray, List.set_cons_zero, List.set_cons_succ]
        have e9 : f1 9 = .bool false := hd 9 (by kernel_rfl)
        go_simp
        rfl
      refine ⟨fun u hu hd => ?_, ?_⟩
      · simp only [Act.put, List.setIfInBounds_toArray, List.set_cons_zero, List.set_cons_succ]
        have e9 : f1 9 = .bool false := hd 9 (by kernel_rfl)
        go_simp
        rfl
      refine ⟨fun u hu hd => ?_, ?_⟩
      · simp only [Act.put, List.setIfInBounds_toArray, List.set_cons_zero, List.set_cons_succ]
        have e9 : f1 9 = .bool false := hd 9 (by kernel_rfl)
        go_simp
        rfl
      refine ⟨fun u hu hd => ?_, ?_⟩
      · simp only [Act.put, List.setIfInBounds_toArray, List.set_cons_zero, List.set_cons_succ]
        have e9 : f1 9 = .bool false := hd 9 (by kernel_rfl)
        go_simp
        rfl
      refine ⟨fun u hu hd => ?_, ?_⟩
      · simp only [Act.put, List.setIfInBounds_toArray, List.set_cons_zero, List.set_cons_succ]
        have e9 : f1 9 = .bool false := hd 9 (by kernel_rfl)
        go_simp
        rfl
      refine ⟨fun u hu hd => ?_, ?_⟩
      · simp only [Act.put, List.setIfInBounds_toArray, List.set_cons_zero, List.set_cons_succ]
        have e9 : f1 9 = .bool false := hd 9 (by kernel_rfl)
        go_simp
        rfl
      refine ⟨fun u hu hd => ?_, ?_⟩
      · simp only [Act.put, List.setIfInBounds_toArray, List.set_cons_zero, List.set_cons_succ]
        have e9 : f1 9 = .bool false := hd 9 (by kernel_rfl)
        go_simp
        rfl
      refine ⟨fun u hu hd => ?_, ?_⟩
      · simp only [Act.put, List.setIfInBounds_toArray, List.set_cons_zero, List.set_cons_succ]
        have e9 : f1 9 = .bool false := hd 9 (by kernel_rfl)
        go_simp
        rfl
      refine ⟨fun u hu hd => ?_, ?_⟩
      · simp only [Act.put, List.setIfInBounds_toArray, List.set_cons_zero, List.set_cons_succ]
        have e9 : f1 9 = .bool false := hd 9 (by kernel_rfl)
        go_simp
        rfl
      refine ⟨fun u hu hd => ?_, ?_⟩
      · simp only [Act.put, List.setIfInBounds_toArray, List.set_cons_zero, List.set_cons_succ]
        have e9 : f1 9 = .bool false := hd 9 (by kernel_rfl)
        go_simp
        exact ⟨Ext.refl _, rfl⟩
      refine ⟨fun u hu hd => ?_, ?_⟩
      · simp only [Act.put, List.setIfInBounds_toArray, List.set_cons_zero, List.set_cons_succ]
        have e19 : f1 19 = .bool false := hd 19 (by kernel_rfl)
        go_simp
        exact ⟨Ext.refl _, rfl⟩
      trivial
  | true =>
    have HRE : Hid (room = room2) := HY.out.1 rfl
    go_upto_region 3 with (fail)
    refine flow (by kernel_rfl) [Is (.pointer (some ⟨d, 0, none⟩)), Is (.pointer (some ⟨d, 0, none⟩)), Is (.pointer (some ⟨d, 0, none⟩)), Is (.int .i64 (room : Int)), Is (.pointer (some ⟨d2, 0, none⟩)), Is (.pointer (some ⟨d2, 0, none⟩)), Is (.pointer (some ⟨d2, 0, none⟩)), Is (.int .i64 (room2 : Int)), Is (.bool true), Is (.bool true), Is (.pointer (some ⟨d, 0, none⟩)), Is (.pointer (some ⟨d, 0, none⟩)), Is (.pointer (some ⟨d, 1, none⟩)), Is (.map (some m)), Is (.pointer (some ⟨d2, 0, none⟩)), Is (.pointer (some ⟨d2, 0, none⟩)), Is (.pointer (some ⟨d2, 1, none⟩)), Is (.map (some m2)), Is (.bool zz), Is (.bool zz), Is (.bool zz)] (by kernel_rfl) (by kernel_rfl) ?mono (fun f1 => ?obl) ?fin
    case mono =>
      simp only [List.forall_mem_cons, List.not_mem_nil, false_imp_iff, implies_true, and_true]
      exact ⟨.is _, .is _, .is _, .is _, .is _, .is _, .is _, .is _, .is _, .is _, .is _, .is _, .is _, .is _, .is _, .is _, .is _, .is _, .is _, .is _, .is _⟩
    case fin =>
      intro g1 u hu hg
      simp only [puts, Act.put, List.setIfInBounds_toArray, List.set_cons_zero, List.set_cons_succ]
      have h20 : g1 20 = .bool zz := hg 20 (by decide)
      rw [h20]
      have HU : Hid (Ext w u) := Ext.trans (Ext.drew w) hu
      clear h20 hg hu hy
      go_wp2_with fail
      go_ret
      exact ⟨zz, ⟨fun h => ⟨HRE.out, HZZ.out.1 h⟩, fun h => HZZ.out.2 h.2⟩, rfl, HU.out⟩
    case obl =>
      refine ⟨fun u hu hd => ?_, ?_⟩
      · go_simp
        exact ⟨Ext.refl _, rfl⟩
      refine ⟨fun u hu hd => ?_, ?_⟩
      · simp only [Act.put, List.setIfInBounds_toArray, List.set_cons_zero, List.set_cons_succ]
        have e0 : f1 0 = .pointer (some ⟨d, 0, none⟩) := hd 0 (by kernel_rfl)
        go_simp
        exact ⟨Ext.refl _, rfl⟩
      refine ⟨fun u hu hd => ?_, ?_⟩
      · simp only [Act.put, List.setIfInBounds_toArray, List.set_cons_zero, List.set_cons_succ]
        have e1 : f1 1 = .pointer (some ⟨d, 0, none⟩) := hd 1 (by kernel_rfl)
        go_simp
        exact ⟨Ext.refl _, rfl⟩
      refine ⟨fun u hu hd => ?_, ?_⟩
      · simp only [Act.put, List.setIfInBounds_toArray, List.set_cons_zero, List.set_cons_succ]
        have e2 : f1 2 = .pointer (some ⟨d, 0, none⟩) := hd 2 (by kernel_rfl)
        have hu2 := Ext.trans (Ext.drew w) hu
        have q0 := ext_cell hu2 HP0.out
        go_simp
        exact ⟨Ext.refl _, rfl⟩
      refine ⟨fun u hu hd => ?_, ?_⟩
      · simp only [Act.put, List.setIfInBounds_toArray, List.set_cons_zero, List.set_cons_succ]
        go_simp
        exact ⟨Ext.refl _, rfl⟩
      refine ⟨fun u hu hd => ?_, ?_⟩
      · simp only [Act.put, List.setIfInBounds_toArray, List.set_cons_zero, List.set_cons_succ]
        have e4 : f1 4 = .pointer (some ⟨d2, 0, none⟩) := hd 4 (by kernel_rfl)
        go_simp
        exact ⟨Ext.refl _, rfl⟩
      refine ⟨fun u hu hd => ?_, ?_⟩
      · simp only [Act.put, List.setIfInBounds_toArray, List.set_cons_zero, List.set_cons_succ]
        have e5 : f1 5 = .pointer (some ⟨d2, 0, none⟩) := hd 5 (by kernel_rfl)
        go_simp
        exact ⟨Ext.refl _, rfl⟩
      refine ⟨fun u hu hd => ?_, ?_⟩
      · simp only [Act.put, List.setIfInBounds_toArray, List.set_cons_zero, List.set_cons_succ]
        have e6 : f1 6 = .pointer (some ⟨d2, 0, none⟩) := hd 6 (by kernel_rfl)
        have hu2 := Ext.trans (Ext.drew w) hu
        have q0 := ext_cell hu2 HR0.out
        go_simp
        exact ⟨Ext.refl _, rfl⟩
      refine ⟨fun u hu hd => ?_, ?_⟩
      · simp only [Act.put, List.setIfInBounds_toArray, List.set_cons_zero, List.set_cons_succ]
        have e3 : f1 3 = .int .i64 (room : Int) := hd 3 (by kernel_rfl)
        have e7 : f1 7 = .int .i64 (room2 : Int) := hd 7 (by kernel_rfl)
        have t := hy
        clear hd
        go_simp
        exact ⟨Ext.refl _, rfl⟩
      refine ⟨fun u hu hd => ?_, ?_⟩
      · simp only [Act.put, List.setIfInBounds_toArray, List.set_cons_zero, List.set_cons_succ]
        have e8 : f1 8 = .bool true := hd 8 (by kernel_rfl)
        go_simp
        exact ⟨Ext.refl _, rfl⟩
      refine ⟨fun u hu hd => ?_, ?_⟩
      · simp only [Act.put, List.setIfInBounds_toArray, List.set_cons_zero, List.set_cons_succ]
        have e9 : f1 9 = .bool true := hd 9 (by kernel_rfl)
        go_simp
        exact ⟨Ext.refl _, rfl⟩
      refine ⟨fun u hu hd => ?_, ?_⟩
      · simp only [Act.put, List.setIfInBounds_toArray, List.set_cons_zero, List.set_cons_succ]
        have e9 : f1 9 = .bool true := hd 9 (by kernel_rfl)
        have e10 : f1 10 = .pointer (some ⟨d, 0, none⟩) := hd 10 (by kernel_rfl)
        go_simp
        exact ⟨Ext.refl _, rfl⟩
      refine ⟨fun u hu hd => ?_, ?_⟩
      · simp only [Act.put, List.setIfInBounds_toArray, List.set_cons_zero, List.set_cons_succ]
        have e9 : f1 9 = .bool true := hd 9 (by kernel_rfl)
        have e11 : f1 11 = .pointer (some ⟨d, 0, none⟩) := hd 11 (by kernel_rfl)
        go_simp
        exact ⟨Ext.refl _, rfl⟩
      refine ⟨fun u hu hd => ?_, ?_⟩
      · simp only [Act.put, List.setIfInBounds_toArray, List.set_cons_zero, List.set_cons_succ]
        have e9 : f1 9 = .bool true := hd 9 (by kernel_rfl)
        have e12 : f1 12 = .pointer (some ⟨d, 1, none⟩) := hd 12 (by kernel_rfl)
        have hu2 := Ext.trans (Ext.drew w) hu
        have q0 := ext_cell hu2 HP1.out
        go_simp
        exact ⟨Ext.refl _, rfl⟩
      refine ⟨fun u hu hd => ?_, ?_⟩
      · simp only [Act.put, List.setIfInBounds_toArray, List.set_cons_zero, List.set_cons_succ]
        have e9 : f1 9 = .bool true := hd 9 (by kernel_rfl)
        go_simp
        exact ⟨Ext.refl _, rfl⟩
      refine ⟨fun u hu hd => ?_, ?_⟩
      · simp only [Act.put, List.setIfInBounds_toArray, List.set_cons_zero, List.set_cons_succ]
        have e9 : f1 9 = .bool true := hd 9 (by kernel_rfl)
        have e14 : f1 14 = .pointer (some ⟨d2, 0, none⟩) := hd 14 (by kernel_rfl)
        go_simp
        exact ⟨Ext.refl _, rfl⟩
      refine ⟨fun u hu hd => ?_, ?_⟩
      · simp only [Act.put, List.setIfInBounds_toArray, List.set_cons_zero, List.set_cons_succ]
        have e9 : f1 9 = .bool true := hd 9 (by kernel_rfl)
        have e15 : f1 15 = .pointer (some ⟨d2, 0, none⟩) := hd 15 (by kernel_rfl)
        go_simp
        exact ⟨Ext.refl _, rfl⟩
      refine ⟨fun u hu hd => ?_, ?_⟩
      · simp only [Act.put, List.setIfInBounds_toArray, List.set_cons_zero, List.set_cons_succ]
        have e9 : f1 9 = .bool true := hd 9 (by kernel_rfl)
        have e16 : f1 16 = .pointer (some ⟨d2, 1, none⟩) := hd 16 (by kernel_rfl)
        have hu2 := Ext.trans (Ext.drew w) hu
        have q0 := ext_cell hu2 HR1.out
        go_simp
        exact ⟨Ext.refl _, rfl⟩
      refine ⟨fun u hu hd => ?_, ?_⟩
      · simp only [Act.put, List.setIfInBounds_toArray, List.set_cons_zero, List.set_cons_succ]
        have e9 : f1 9 = .bool true := hd 9 (by kernel_rfl)
        have e13 : f1 13 = .map (some m) := hd 13 (by kernel_rfl)
        have e17 : f1 17 = .map (some m2) := hd 17 (by kernel_rfl)
        have hu2 := Ext.trans (Ext.drew w) hu
        have HC := Lib.hid (HQ.out u hu2)
        clear hd
        go_simp
        refine HC.out.mono ?_
        rintro e9 w9 ⟨rfl, hx9⟩
        exact ⟨_, rfl, hx9, rfl⟩
      refine ⟨fun u hu hd => ?_, ?_⟩
      · simp only [Act.put, List.setIfInBounds_toArray, List.set_cons_zero, List.set_cons_succ]
        have e9 : f1 9 = .bool true := hd 9 (by kernel_rfl)
        have e18 : f1 18 = .bool zz := hd 18 (by kernel_rfl)
        go_simp
        exact ⟨Ext.refl _, rfl⟩
      refine ⟨fun u hu hd => ?_, ?_⟩
      · simp only [Act.put, List.setIfInBounds_toArray, List.set_cons_zero, List.set_cons_succ]
        have e19 : f1 19 = .bool zz := hd 19 (by kernel_rfl)
        go_simp
        exact ⟨Ext.refl _, rfl⟩
      trivial
end Go.Proofs.Ytenhfphgobalfaa

/- Two numbers that came in, opened. -/
namespace Go.Proofs.Ytenhfphgobalfaa
open Go.ChangeShapes Go.WideShapes Go.ChangeAt Go.RowKit Go.Joins
section
variable {H : Type} {enc : TypeId × Value → H} {W : World}
set_option maxRecDepth 100000 in
theorem open_ints2 {v : Value} {d : DataW H} {p : List MemPlace} {b0 : Nat} (hv : Value.okWide Try.prog W .any b0 68 v) (h : DataW.Trod enc Try.prog W 0 (fun _ => true) true 68 v d p) :
    ∃ (i j : Int), v = .agg #[.int .i64 i, .int .i64 j] ∧ (Lit.int .i64 i).wf = true ∧ (Lit.int .i64 j).wf = true := by
  simp only [Value.okWide, Try.underlying68] at hv
  obtain ⟨cs, rfl, hs, _⟩ := hv
  obtain ⟨fuel, hf⟩ := h
  obtain ⟨xs, m, rfl, hx, hl, hn, hat⟩ := DataW.trod_array Try.underlying68 hf
  have hC : Try.prog.cellsOf 3 = 1 := by kernel_rfl
  have hC2 : Try.prog.cellsOf 68 = 2 := by kernel_rfl
  rw [hC2] at hl
  rw [hC] at hat
  obtain ⟨x0, x1, rfl⟩ : ∃ a b, xs = [a, b] := by
    match xs, hn with
    | [a, b], _ => exact ⟨a, b, rfl⟩
  obtain ⟨u0, u1, rfl⟩ : ∃ a b, cs = #[a, b] := by
    obtain ⟨l⟩ := cs
    match l, hl with
    | [a, b], _ => exact ⟨a, b, rfl⟩
  have h0 := (hat 0 (by omega)).trans (show [x0, x1][0]? = some x0 from rfl)
  have h1 := (hat 1 (by omega)).trans (show [x0, x1][1]? = some x1 from rfl)
  simp [Value.cells] at h0 h1
  obtain ⟨i, e0, _, w0⟩ := DataW.trod_int Try.underlying3 h0
  obtain ⟨j, e1, _, w1⟩ := DataW.trod_int Try.underlying3 h1
  injection e0 with e0
  injection e1 with e1
  subst e0 e1
  exact ⟨i, j, rfl, w0, w1⟩
end
end Go.Proofs.Ytenhfphgobalfaa
