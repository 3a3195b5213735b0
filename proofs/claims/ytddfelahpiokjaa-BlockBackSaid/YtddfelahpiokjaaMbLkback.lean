/- Lkback Pkback, joined. -/
import Derived.Test.YtddfelahpiokjaaMb16
import Derived.Test.YtddfelahpiokjaaMb7
import Derived.Test.YtddfelahpiokjaaMb1

/- BlockBack: the walk. -/
namespace Go.Proofs.Ytddfelahpiokjaa.kback
open Go.ChangeShapes Go.WideShapes Go.ChangeAt Go.RowKit

theorem rise_lt {L : List Ent} (h : Rise L) : ∀ (d j : Nat) (a b : Ent), L[j]? = some a → L[j + d + 1]? = some b → cmpE a b < 0
  | 0, j, a, b, ha, hb => h j a b ha hb
  | d + 1, j, a, b, ha, hb => by
    have hl : j + d + 1 < L.length := by have := (List.getElem?_eq_some_iff.1 hb).1; omega
    have h1 := rise_lt h d j a _ ha (List.getElem?_eq_getElem hl)
    exact cmpE_trans h1 (h (j + d + 1) _ b (List.getElem?_eq_getElem hl) hb)
theorem find_self {L : List Ent} (h : Rise L) {i : Nat} {e : Ent} (he : L[i]? = some e) : L.find? (seenE e.key e.seq) = some e := by
  have hlt := (List.getElem?_eq_some_iff.1 he).1
  have hz : cmpE e e = 0 := cmpE_zero.2 ⟨rfl, rfl⟩
  have hc : Cut L ⟨e.key, e.seq, 0, []⟩ i := by
    refine ⟨Nat.le_of_lt hlt, fun j a hj ha => ?_, fun j y hj hy => ?_⟩
    · have := rise_lt h (i - j - 1) j a e ha (by rw [show j + (i - j - 1) + 1 = i by omega]; exact he)
      exact this
    · show 0 ≤ cmpE y e
      rcases Nat.lt_or_ge i j with h1 | h1
      · have := rise_lt h (j - i - 1) i e y he (by rw [show i + (j - i - 1) + 1 = j by omega]; exact hy)
        have h2 := cmpE_turn e y
        omega
      · obtain rfl : i = j := by omega
        rw [he] at hy
        injection hy with hy
        rw [← hy, hz]
        exact Int.le_refl _
  rw [cut_find h hc, dif_pos hlt]
  have e1 : L[i] = e := by rw [List.getElem?_eq_getElem hlt] at he; injection he
  rw [e1, if_pos rfl]

def GotF (e : Ent) (v : Value) (u : World) : Prop := ∃ g : Hd, v = .tuple #[e.at_ g, .int .i64 0] ∧ Em u 0 u.heap.size e g
def OneE (e : Ent) (v : Value) (u : World) : Prop := ∃ g : Hd, v = e.at_ g ∧ Em u 0 u.heap.size e g
def FrmF (L : List Ent) (v : Value) (u : World) : Prop := FromF L v u
def RowF (M : List Ent) (v : Value) (u : World) : Prop := ∃ (Y : Option Addr) (d : Nat) (S : List (Ent × Hd)), v = .slice Y S.length d ∧ Es u 0 u.heap.size Y S ∧ S.map Prod.fst = M
theorem GotF.mono (e : Ent) : Mono (GotF e) := fun _ _ _ ⟨g, h, m⟩ hu => ⟨g, h, (m.below hu (Nat.le_refl _)).wide (Nat.le_refl _) hu.size⟩
theorem OneE.mono (e : Ent) : Mono (OneE e) := fun _ _ _ ⟨g, h, m⟩ hu => ⟨g, h, (m.below hu (Nat.le_refl _)).wide (Nat.le_refl _) hu.size⟩
theorem FrmF.mono (L : List Ent) : Mono (FrmF L) := fun _ _ _ ⟨bd, X, c, S, h, hb, hE, hl, hin, he⟩ hu => ⟨bd, X, c, S, h, ext_heap hu hb, (hE.below hu (Nat.le_refl _)).wide (Nat.le_refl _) hu.size, hl, hin, he⟩
theorem RowF.mono (M : List Ent) : Mono (RowF M) := fun _ _ _ ⟨Y, d, S, h, hE, he⟩ hu => ⟨Y, d, S, h, (hE.below hu (Nat.le_refl _)).wide (Nat.le_refl _) hu.size, he⟩

/-- A block of four that holds nothing yet. -/
def zc : Obj := .cells #[.slice none 0 0, .int .i64 0, .int .i64 0, .slice none 0 0] 37 (0, 0)
theorem bs_store {u u' : World} {gb lo hi : Nat} {v : Value} {l : List Nat} (h : Bs u lo hi v l) (hz : u.heap[gb]? = some zc) (hc : Chg (fun i => i = gb) u u') : Bs u' lo hi v l := by
  obtain ⟨A, c, e, h1, h2, h3, h4⟩ := h
  refine ⟨A, c, e, h1, h2, h3, ?_⟩
  rcases h4 with h4 | ⟨b, o, e, h5, h6, h7⟩
  · exact .inl h4
  · refine .inr ⟨b, o, e, h5, h6, fun i x hx => ?_⟩
    have h8 := h7 i x hx
    by_cases hb : b = gb
    · exfalso
      subst hb
      have h9 := List.mem_of_getElem? hx
      obtain ⟨n, _, rfl⟩ := List.mem_map.1 h9
      unfold World.cell? at h8
      rw [hz] at h8
      unfold zc at h8
      generalize o + i = m at h8
      rcases m with _ | _ | _ | _ | m <;> simp at h8
    · exact (World.cell?_of_block (hc.block b (World.block_lt_of_cell? _ _ h8) hb)).trans h8
theorem em_store {u u' : World} {gb : Nat} {e : Ent} {g : Hd} (h : Em u 0 u.heap.size e g) (hz : u.heap[gb]? = some zc) (hc : Chg (fun i => i = gb) u u') : Em u' 0 u'.heap.size e g :=
  (⟨bs_store h.k hz hc, bs_store h.v hz hc, h.bk, h.bv, h.s1, h.s2, h.d1, h.d2⟩ : Em u' 0 u.heap.size e g).wide (Nat.le_refl _) hc.size
theorem gives_store {P : Program} {u : World} {gb : Nat} {a b c d x y z t : Value} {R : Value → World → Prop} (h : ∀ U, U.heap[gb]? = some (.cells #[x, y, z, t] 37 (0, 0)) → Chg (fun i => i = gb) u U → R undef U) (hz : u.heap[gb]? = some (.cells #[a, b, c, d] 37 (0, 0))) :
    GivesR P (.ok .skip ((((u.setCell ⟨gb, 0, none⟩ x).setCell ⟨gb, 1, none⟩ y).setCell ⟨gb, 2, none⟩ z).setCell ⟨gb, 3, none⟩ t)) R :=
  h _ (set_four hz) (((Chg.trans (S := fun i => i = gb) (Chg.setCell u ⟨gb, 0, none⟩ x rfl) (Chg.setCell _ ⟨gb, 1, none⟩ y rfl)).trans (Chg.setCell _ ⟨gb, 2, none⟩ z rfl)).trans (Chg.setCell _ ⟨gb, 3, none⟩ t rfl))
def StM (p : Value → World → Prop) : Prop := ∀ v u u' gb, u.heap[gb]? = some zc → Chg (fun i => i = gb) u u' → p v u → p v u'
theorem StM.is (c : Value) : StM (Is c) := fun _ _ _ _ _ _ h => h
theorem StM.got (e : Ent) : StM (GotF e) := fun _ _ _ _ hz hc ⟨g, h, m⟩ => ⟨g, h, em_store m hz hc⟩
theorem StM.one (e : Ent) : StM (OneE e) := fun _ _ _ _ hz hc ⟨g, h, m⟩ => ⟨g, h, em_store m hz hc⟩
/-- The region that finds an entry and lays it: what holds in any order. -/
structure BI (φ : List (Value → World → Prop)) (W0 : World) (e : Ent) (seen : Nat → Bool) (f : Nat → Value) (u : World) : Prop where
  x : Ext W0 u
  facts : ∀ j, j < 15 → seen j = true → fact φ j (f j) u
  alc : seen 15 = true → ∃ gb, f 15 = .pointer (some ⟨gb, 0, none⟩) ∧ W0.heap.size ≤ gb ∧ (seen 16 = false → u.heap[gb]? = some zc) ∧ (seen 16 = true → ∃ g : Hd, u.heap[gb]? = some (.cells #[.slice g.kA e.key.length g.kc, .int .i64 e.seq, .int .i64 e.kind, .slice g.vA e.val.length g.vc] 37 (0, 0)) ∧ Em u 0 u.heap.size e g)
  sto : seen 16 = true → seen 15 = true
  asg : seen 17 = true → f 17 = .int .i64 0
section
variable {φ : List (Value → World → Prop)} {W0 u u' : World} {e : Ent} {seen : Nat → Bool} {f : Nat → Value}
theorem BI.start (φ : List (Value → World → Prop)) (W0 : World) (e : Ent) (f : Nat → Value) : BI φ W0 e (fun _ => false) f W0 :=
  ⟨Ext.refl _, fun _ _ h => (by cases h), fun h => (by cases h), fun h => (by cases h), fun h => (by cases h)⟩
theorem BI.plain (h : BI φ W0 e seen f u) (hm : ∀ p ∈ φ, Mono p) {k : Nat} {v : Value} (hk : k < 15) (hx : Ext u u') (hv : fact φ k v u') : BI φ W0 e (Fi.upd seen k true) (Fi.upd f k v) u' := by
  have n15 : 15 ≠ k := by omega
  have n16 : 16 ≠ k := by omega
  have n17 : 17 ≠ k := by omega
  refine ⟨Ext.trans h.x hx, fun j hj hs => ?_, fun hs => ?_, fun hs => ?_, fun hs => ?_⟩
  · by_cases e : j = k
    · subst e; unfold Fi.upd; rw [if_pos rfl]; exact hv
    · rw [Fi.upd_ne _ _ e] at hs ⊢; exact fact_mono hm j (h.facts j hj hs) hx
  · rw [Fi.upd_ne _ _ n15] at hs ⊢
    rw [Fi.upd_ne _ _ n16]
    obtain ⟨gb, h1, h2, h3, h4⟩ := h.alc hs
    refine ⟨gb, h1, h2, fun h5 => ext_heap hx (h3 h5), fun h5 => ?_⟩
    obtain ⟨g, h6, h7⟩ := h4 h5
    exact ⟨g, ext_heap hx h6, (h7.below hx (Nat.le_refl _)).wide (Nat.le_refl _) hx.size⟩
  · rw [Fi.upd_ne _ _ n16] at hs; rw [Fi.upd_ne _ _ n15]; exact h.sto hs
  · rw [Fi.upd_ne _ _ n17] at hs ⊢; exact h.asg hs
theorem BI.alloc (h : BI φ W0 e seen f u) (hm : ∀ p ∈ φ, Mono p) (hn : seen 15 = false) : BI φ W0 e (Fi.upd seen 15 true) (Fi.upd f 15 (.pointer (some ⟨u.heap.size, 0, none⟩))) (u.alloc zc) := by
  have hx : Ext u (u.alloc zc) := ext_alloc _ _
  have h16 : seen 16 = false := by
    cases h16 : seen 16 with
    | false => rfl
    | true => rw [h.sto h16] at hn; cases hn
  refine ⟨Ext.trans h.x hx, fun j hj hs => ?_, fun _ => ?_, fun hs => ?_, fun hs => ?_⟩
  · rw [Fi.upd_ne _ _ (by omega)] at hs ⊢; exact fact_mono hm j (h.facts j hj hs) hx
  · refine ⟨u.heap.size, by unfold Fi.upd; rw [if_pos rfl], h.x.size, fun _ => heap_at _ _ rfl, fun h5 => ?_⟩
    rw [Fi.upd_ne _ _ (by omega), h16] at h5; cases h5
  · rw [Fi.upd_ne _ _ (by omega), h16] at hs; cases hs
  · rw [Fi.upd_ne _ _ (by omega)] at hs ⊢; exact h.asg hs
theorem BI.store (h : BI φ W0 e seen f u) (hm : ∀ p ∈ φ, StM p) {gb : Nat} {g : Hd} {v : Value} (hf : f 15 = .pointer (some ⟨gb, 0, none⟩)) (h15 : seen 15 = true) (h16 : seen 16 = false) (hg : Em u 0 u.heap.size e g) (hc : Chg (fun i => i = gb) u u')
    (hb : u'.heap[gb]? = some (.cells #[.slice g.kA e.key.length g.kc, .int .i64 e.seq, .int .i64 e.kind, .slice g.vA e.val.length g.vc] 37 (0, 0))) : BI φ W0 e (Fi.upd seen 16 true) (Fi.upd f 16 v) u' := by
  obtain ⟨gb', h1, h2, h3, _⟩ := h.alc h15
  rw [hf] at h1
  injection h1 with h1; injection h1 with h1; injection h1 with h1
  subst h1
  have hz := h3 h16
  refine ⟨Below.trans h.x (hc.below (fun i hi => by rw [hi]; exact h2) h.x.size), fun j hj hs => ?_, fun _ => ?_, fun _ => ?_, fun hs => ?_⟩
  · rw [Fi.upd_ne _ _ (by omega)] at hs ⊢
    have h5 := h.facts j hj hs
    unfold fact at h5 ⊢
    rcases Nat.lt_or_ge j φ.length with hl | hl
    · have e1 : φ.getD j (fun _ _ => True) = φ[j] := by simp [List.getD, hl]
      rw [e1] at h5 ⊢
      exact hm _ (List.getElem_mem hl) _ _ _ gb hz hc h5
    · have e1 : φ.getD j (fun _ _ => True) = fun _ _ => True := by simp [List.getD, hl]
      rw [e1]; trivial
  · refine ⟨gb, by rw [Fi.upd_ne _ _ (by omega)]; exact hf, h2, fun h5 => ?_, fun _ => ⟨g, hb, em_store hg hz hc⟩⟩
    unfold Fi.upd at h5; rw [if_pos rfl] at h5; cases h5
  · rw [Fi.upd_ne _ _ (by omega)]; exact h15
  · rw [Fi.upd_ne _ _ (by omega)] at hs ⊢; exact h.asg hs
theorem BI.last (h : BI φ W0 e seen f u) (v : Value) (hv : v = .int .i64 0) : BI φ W0 e (Fi.upd seen 17 true) (Fi.upd f 17 v) u := by
  refine ⟨h.x, fun j hj hs => ?_, fun hs => ?_, fun hs => ?_, fun _ => ?_⟩
  · rw [Fi.upd_ne _ _ (by omega)] at hs ⊢; exact h.facts j hj hs
  · rw [Fi.upd_ne _ _ (by omega)] at hs ⊢; rw [Fi.upd_ne _ _ (by omega)]; exact h.alc hs
  · rw [Fi.upd_ne _ _ (by omega)] at hs ⊢; exact h.sto hs
  · unfold Fi.upd; rw [if_pos rfl]; exact hv
end

set_option maxRecDepth 100000 in
set_option maxHeartbeats 16000000 in
theorem walk (W : World) (A : Option Addr) (c : Nat) (L : List (Ent × Hd)) (hlc : L.length ≤ c) (_hc : c ≤ maxLen) (hE : Es W 0 W.heap.size A L) (hln : ∀ p ∈ L, p.1.key.length ≤ 140737488351232 ∧ p.1.val.length ≤ 140737488351232) (hn : L.length ≤ 2199023255552)
    (v : Value) (b : List Nat) (hv : Bs W 0 W.heap.size v b) (hb : ∀ x ∈ b, x < 256) :
    Calls Try.prog 4 #[.slice A L.length c, v] W fun e w' => e = .returned (.bool true) ∧ Below W.heap.size W w' := by
  have HE := Lib.hid hE
  have HLC := Lib.hid hlc
  have HV := Lib.hid hv
  have HBY := Lib.hid hb
  have HES : Hid (∀ u, Ext W u → Es u 0 W.heap.size A L ∧ W.heap.size ≤ u.heap.size) := fun u hu => ⟨hE.below hu (Nat.le_refl _), hu.size⟩
  have HMU : Hid (∀ u, Ext W u → Calls Try.prog 13 #[.slice A L.length c] u fun x w' => ∃ z : Bool, (z = false → L.length ≤ 1100 ∧ ∀ p ∈ L, p.1.key.length + p.1.val.length < 200000) ∧ x = .returned (.bool z) ∧ Ext u w') := fun u hu => kmuch_any (HES.out u hu).1 (HES.out u hu).2 (by omega) hln
  obtain ⟨VA, vc, rfl, _, _, _, _⟩ := hv
  obtain ⟨Ls, hLs⟩ : ∃ Ls, Ls = L.map Prod.fst := ⟨_, rfl⟩
  have HLS := Lib.hid hLs
  have HLL : Hid (Ls.length = L.length) := by rw [hLs]; exact List.length_map ..
  have HBW : Hid (MayB Ls → ∀ x ∈ wr Ls, x < 256) := fun hm => wr_lt hm (fun e he => by
    rw [HLS.out] at he
    obtain ⟨p, hp, rfl⟩ := List.mem_map.1 he
    have hem := HE.out.each p hp
    exact ⟨hem.bk, hem.bv⟩)
  have HWLEN : Hid (MayB Ls → (wr Ls).length ≤ 1000000000) := fun hm => by
    have h1 := wr_len Ls
    have h2 := upto_le hm.2.2.2 Ls.length
    have h3 := ats_len Ls Ls.length
    have h4 := hm.2.1
    omega
  clear hE hln hn hlc _hc hb hLs
  go_enter Try.func4, Try.ntmps4
  go_wp2_with fail
  refine (known_any W).mono ?_
  rintro x w1 ⟨rfl, hx1⟩
  have HX1 : Hid (Ext W w1) := hx1
  clear hx1
  by_cases hbl : b.length ≤ 100000
  rotate_left
  · have d : decide ((b.length : Int) ≤ 100000) = false := decide_eq_false (by omega)
    have dn : decide (b.length ≤ 100000) = false := decide_eq_false hbl
    clear hbl
    go_wp2_with fail
    refine (HMU.out w1 HX1.out).mono ?_
    rintro x w10 ⟨z, hz, rfl, hx10⟩
    have HX10 : Hid (Ext W w10) := Ext.trans HX1.out hx10
    have HZ := Lib.hid hz
    clear hz hx10
    rcases z with _ | _
    rotate_left
    · go_wp2_with fail
      go_ret
      exact ⟨rfl, HX10.out⟩
    have HB := Lib.hid (HZ.out rfl)
    have HWR := Lib.hid (write_any (c := c) (HES.out w10 HX10.out).1 (HES.out w10 HX10.out).2 HLC.out (by have := HB.out.1; omega))
    rw [← HLS.out] at HWR
    go_wp2_with fail
    refine HWR.out.mono ?_
    rintro x w11 ⟨hx11, (⟨hm, WA, wc, rfl, hown⟩ | ⟨hm, rfl⟩)⟩
    rotate_left
    · have HX11 : Hid (Ext W w11) := Ext.trans HX10.out hx11
      clear hx11 hm HWR
      go_wp2_with fail
      refine (knum _ _).mono ?_
      rintro x _ ⟨rfl, rfl⟩
      go_wp2_with fail
      go_ret
      exact ⟨rfl, HX11.out⟩
    have HX11 : Hid (Ext W w11) := Ext.trans HX10.out hx11
    have HM := Lib.hid hm
    obtain ⟨D, hD⟩ : ∃ D, D = wr Ls := ⟨_, rfl⟩
    have HD := Lib.hid hD
    rw [← hD] at hown ⊢
    have HDB : Hid (∀ x ∈ D, x < 256) := by rw [hD]; exact HBW.out hm
    have HDL : Hid (D.length ≤ 1000000000) := by rw [hD]; exact HWLEN.out hm
    have HIS : Hid (IsB D Ls) := ⟨hm, hD.symm⟩
    have HO := Lib.hid hown
    clear hx11 hm HWR hown hD
    go_wp2_with fail
    refine (knum _ _).mono ?_
    rintro x _ ⟨rfl, rfl⟩
    go_wp2_with fail
    refine (bread_any HO.out.bs (Nat.le_refl _) HDB.out HDL.out).mono ?_
    rintro x w12 ⟨hx12, (⟨R, X, cR, his, rfl, hgot⟩ | ⟨hno, _⟩)⟩
    rotate_left
    · exact absurd HIS.out (hno _)
    have HX12 : Hid (Ext W w12) := Ext.trans HX11.out hx12
    have HO12 := Lib.hid (HO.out.below hx12)
    have hmap : R.map Prod.fst = L.map Prod.fst := by rw [← HLS.out]; exact his.unique HIS.out
    have HMAP := Lib.hid hmap
    have hrl : R.length = L.length := by have := congrArg List.length hmap; simpa using this
    have HSL := Lib.hid (rsamelist_any (c := cR) (c2 := c) hgot.rs (HES.out w12 HX12.out).1 (Nat.le_refl _) (HES.out w12 HX12.out).2 (by have := HB.out.1; omega) (by have := HB.out.1; omega))
    clear hx12 his hgot hmap hrl
    go_wp2_with fail
    refine (knum _ _).mono ?_
    rintro x _ ⟨rfl, rfl⟩
    go_wp2_with fail
    refine HSL.out.mono ?_
    rintro x w13 ⟨y, hy, rfl, hx13⟩
    obtain rfl : y = true := hy.2 HMAP.out
    have HX13 : Hid (Ext W w13) := Ext.trans HX12.out hx13
    have HO13 := Lib.hid (HO12.out.below hx13)
    clear hx13 hy HSL
    go_wp2_with fail
    go_loopw [13, 14, 15] (fun i _ _ wr => ∃ k : Nat, k ≤ L.length ∧ i = .int .i64 (k : Int) ∧ Hid (Ext w13 wr)) (fun i _ _ _ => L.length - (intOf i).toNat)
    case atStart => exact ⟨0, Nat.zero_le _, rfl, Ext.refl _⟩
    case round =>
      obtain ⟨k, hk, rfl, HX⟩ := hrel
      have HXW : Hid (Ext W wr) := Ext.trans HX13.out HX.out
      by_cases hlt : k < L.length
      rotate_left
      · have d : decide ((k : Int) < (L.length : Int)) = false := by rw [decide_eq_false_iff_not]; exact fun h => hlt (Int.ofNat_lt.1 h)
        have dn : decide (k < L.length) = false := decide_eq_false hlt
        clear hlt hk
        go_wp2_with fail
        go_ret
        exact ⟨rfl, HXW.out⟩
      have d : decide ((k : Int) < (L.length : Int)) = true := by rw [decide_eq_true_eq]; exact Int.ofNat_lt.2 hlt
      have dn : decide (k < L.length) = true := decide_eq_true hlt
      by_cases h40 : k < 40
      rotate_left
      · have d4 : decide ((k : Int) < 40) = false := decide_eq_false (by omega)
        have d4n : decide (k < 40) = false := decide_eq_false h40
        clear hlt hk h40
        go_wp2_with fail
        go_ret
        exact ⟨rfl, HXW.out⟩
      have d4 : decide ((k : Int) < 40) = true := decide_eq_true (by omega)
      have d4n : decide (k < 40) = true := decide_eq_true h40
      obtain ⟨p, hp⟩ : ∃ p, L[k]? = some p := ⟨_, List.getElem?_eq_getElem hlt⟩
      have HP := Lib.hid hp
      have HPM := Lib.hid (List.mem_of_getElem? hp)
      have HLT := Lib.hid hlt
      obtain ⟨ab, ao, rfl⟩ := HE.out.base (by omega)
      obtain ⟨c0, c1, c2, c3⟩ := (HES.out wr HXW.out).1.get hp
      have n1 : (0 : Int) ≤ (k : Int) := Int.natCast_nonneg _
      have n2 : (k : Int) < (L.length : Int) := Int.ofNat_lt.2 hlt
      have HFS : Hid (Ls.find? (seenE p.1.key p.1.seq) = some p.1) := by
        refine find_self HM.out.2.2.1 (i := k) ?_
        rw [HLS.out, List.getElem?_map, hp]; rfl
      have HU : Hid (∀ u, Ext wr u → Bs u 0 u.heap.size (.slice WA D.length wc) D ∧ Em u 0 W.heap.size p.1 p.2 ∧ W.heap.size ≤ u.heap.size ∧ Es u 0 W.heap.size (some ⟨ab, ao, none⟩) L) := fun u hu => by
        have hx := Ext.trans HX.out hu
        have hw := HES.out u (Ext.trans HXW.out hu)
        exact ⟨(HO13.out.below hx).bs, hw.1.each p HPM.out, hw.2, hw.1⟩
      have HGT : Hid (∀ u, Ext wr u → Calls Try.prog 14 #[.slice WA D.length wc, .slice p.2.kA p.1.key.length p.2.kc, .int .i64 p.1.seq] u fun x w' => Ext u w' ∧ ∃ g : Hd, x = .returned (.tuple #[p.1.at_ g, .int .i64 0]) ∧ Em w' 0 w'.heap.size p.1 g) := fun u hu => by
        obtain ⟨h1, h2, h3, _⟩ := HU.out u hu
        refine (bget_any (s := p.1.seq) h1 (Nat.le_refl _) HDB.out HDL.out h2.k h3 h2.bk h2.s1 h2.s2).mono ?_
        rintro x w' ⟨hx, (⟨hno, _⟩ | ⟨L', hL', hm⟩)⟩
        · exact absurd HIS.out (hno _)
        · obtain rfl := hL'.unique HIS.out
          rw [HFS.out] at hm
          exact ⟨hx, hm⟩
      have HFR : Hid (∀ u, Ext wr u → Calls Try.prog 17 #[.slice WA D.length wc, .slice p.2.kA p.1.key.length p.2.kc] u fun x w' => ∃ v, x = .returned v ∧ Ext u w' ∧ FromF (Ls.drop (cutOf (belowK p.1.key) Ls)) v w') := fun u hu => by
        obtain ⟨h1, h2, h3, _⟩ := HU.out u hu
        refine (bfrom_any h1 (Nat.le_refl _) HDB.out HDL.out h2.k h3 h2.bk).mono ?_
        rintro x w' ⟨hx, bd, X, cc, S, rfl, hb, hE, hl, hin, (⟨L', hL', hs⟩ | ⟨hno, _⟩)⟩
        · obtain rfl := hL'.unique HIS.out
          exact ⟨_, rfl, hx, bd, X, cc, S, rfl, hb, hE, hl, hin, hs⟩
        · exact absurd HIS.out (hno _)
      have HRF : Hid (∀ u, Ext wr u → Calls Try.prog 18 #[.slice (some ⟨ab, ao, none⟩) L.length c, .slice p.2.kA p.1.key.length p.2.kc] u fun x w' => ∃ v, x = .returned v ∧ Ext u w' ∧ RowF (Ls.drop (cutOf (belowK p.1.key) Ls)) v w') := fun u hu => by
        obtain ⟨_, h2, h3, h4⟩ := HU.out u hu
        have hmk : ∀ q ∈ L, q.1.key.length ≤ 32 := fun q hq => (mayN_iff.1 (HM.out.2.2.2 q.1 (by rw [HLS.out]; exact List.mem_map_of_mem hq))).2.1
        refine (rfrom_any h4 h3 HLC.out (by have := HB.out.1; omega) (fun q hq => by have := hmk q hq; omega) h2.k h3 h2.bk (by have := hmk p HPM.out; omega)).mono ?_
        rintro x w' ⟨Y, d, rfl, hE, hx⟩
        refine ⟨_, rfl, hx, Y, d, _, rfl, (hE.below hx h3).wide (Nat.zero_le _) (Nat.le_trans h3 hx.size), ?_⟩
        rw [List.map_drop, ← HLS.out]
      obtain ⟨M, hM⟩ : ∃ M, M = Ls.drop (cutOf (belowK p.1.key) Ls) := ⟨_, rfl⟩
      have HML : Hid (M.length ≤ 1024) := by have := HM.out.2.1; rw [hM]; unfold Hid; rw [List.length_drop]; omega
      rw [← hM] at HFR HRF
      clear hlt hk h40 hp hM
      go_upto_region 19 with (fail)
      have HMX : Try.prog.follows .mixedOrders = true := by kernel_rfl
      have HMO : Hid (∀ F9 ∈ ([Is (.slice WA D.length wc), Is (.slice (some ⟨ab, ao, none⟩) L.length c), Is (.int .i64 (k : Int)), Is (.pointer (some ⟨ab, ao + k * 4, none⟩)), Is (.pointer (some ⟨ab, ao + k * 4, none⟩)), Is (.slice p.2.kA p.1.key.length p.2.kc), Is (.slice (some ⟨ab, ao, none⟩) L.length c), Is (.int .i64 (k : Int)), Is (.pointer (some ⟨ab, ao + k * 4, none⟩)), Is (.pointer (some ⟨ab, ao + k * 4 + 1, none⟩)), Is (.int .i64 p.1.seq), GotF p.1, GotF p.1, OneE p.1, Is (.int .i64 0)] : List (Value → World → Prop)), Mono F9) := by
        unfold Hid
        simp only [List.forall_mem_cons, List.not_mem_nil, false_imp_iff, implies_true, and_true]
        exact ⟨.is _, .is _, .is _, .is _, .is _, .is _, .is _, .is _, .is _, .is _, .is _, GotF.mono _, GotF.mono _, OneE.mono _, .is _⟩
      have HSM : Hid (∀ F9 ∈ ([Is (.slice WA D.length wc), Is (.slice (some ⟨ab, ao, none⟩) L.length c), Is (.int .i64 (k : Int)), Is (.pointer (some ⟨ab, ao + k * 4, none⟩)), Is (.pointer (some ⟨ab, ao + k * 4, none⟩)), Is (.slice p.2.kA p.1.key.length p.2.kc), Is (.slice (some ⟨ab, ao, none⟩) L.length c), Is (.int .i64 (k : Int)), Is (.pointer (some ⟨ab, ao + k * 4, none⟩)), Is (.pointer (some ⟨ab, ao + k * 4 + 1, none⟩)), Is (.int .i64 p.1.seq), GotF p.1, GotF p.1, OneE p.1, Is (.int .i64 0)] : List (Value → World → Prop)), StM F9) := by
        unfold Hid
        simp only [List.forall_mem_cons, List.not_mem_nil, false_imp_iff, implies_true, and_true]
        exact ⟨.is _, .is _, .is _, .is _, .is _, .is _, .is _, .is _, .is _, .is _, .is _, .got _, .got _, .one _, .is _⟩
      refine Fi.flow HMX (BI [Is (.slice WA D.length wc), Is (.slice (some ⟨ab, ao, none⟩) L.length c), Is (.int .i64 (k : Int)), Is (.pointer (some ⟨ab, ao + k * 4, none⟩)), Is (.pointer (some ⟨ab, ao + k * 4, none⟩)), Is (.slice p.2.kA p.1.key.length p.2.kc), Is (.slice (some ⟨ab, ao, none⟩) L.length c), Is (.int .i64 (k : Int)), Is (.pointer (some ⟨ab, ao + k * 4, none⟩)), Is (.pointer (some ⟨ab, ao + k * 4 + 1, none⟩)), Is (.int .i64 p.1.seq), GotF p.1, GotF p.1, OneE p.1, Is (.int .i64 0)] wr.drew p.1) (by kernel_rfl) (by kernel_rfl) (fun f => BI.start _ _ _ f) (fun f1 => ?obl) ?fin
      case fin =>
        intro g1 sn w5 hs hI
        simp only [puts, Act.put, List.setIfInBounds_toArray, List.set_cons_zero, List.set_cons_succ]
        obtain ⟨gb, e15, _, _, h16⟩ := hI.alc (hs 15 (by decide))
        obtain ⟨g, hb5, hm⟩ := h16 (hs 16 (by decide))
        have e17 := hI.asg (hs 17 (by decide))
        have HX5 : Hid (Ext wr w5) := Ext.trans (Ext.drew wr) hI.x
        rw [e15, e17]
        have HMU2 := Lib.hid hm
        clear hI hs e15 e17 h16 hm c0 c1 c2 c3
        go_upto_region 20 with (fail)
        have q0 := cell_of hb5 (k := 0) rfl
        have q1 := cell_of hb5 (k := 1) rfl
        have q2 := cell_of hb5 (k := 2) rfl
        have q3 := cell_of hb5 (k := 3) rfl
        obtain ⟨c0, c1, c2, c3⟩ := (HES.out w5 (Ext.trans HXW.out HX5.out)).1.get HP.out
        have HEG : Hid (∀ u2, Ext w5 u2 → Em u2 0 u2.heap.size p.1 g) := fun u2 hu2 => (HMU2.out.below hu2 (Nat.le_refl _)).wide (Nat.le_refl _) hu2.size
        clear hb5
        refine flow (by kernel_rfl) [Is (.int .i64 0), Is (.int .i64 0), Is (.bool false), Is (.bool false), Is (.agg #[.slice g.kA p.1.key.length g.kc, .int .i64 p.1.seq, .int .i64 p.1.kind, .slice g.vA p.1.val.length g.vc]), Is (.slice (some ⟨ab, ao, none⟩) L.length c), Is (.int .i64 (k : Int)), Is (.pointer (some ⟨ab, ao + k * 4, none⟩)), Is (.agg #[.slice p.2.kA p.1.key.length p.2.kc, .int .i64 p.1.seq, .int .i64 p.1.kind, .slice p.2.vA p.1.val.length p.2.vc]), Is (.bool true), Is (.bool false), Is (.bool false), Is (.bool false), Is (.slice WA D.length wc), Is (.slice (some ⟨ab, ao, none⟩) L.length c), Is (.int .i64 (k : Int)), Is (.pointer (some ⟨ab, ao + k * 4, none⟩)), Is (.pointer (some ⟨ab, ao + k * 4, none⟩)), Is (.slice p.2.kA p.1.key.length p.2.kc), FrmF M, Is (.slice (some ⟨ab, ao, none⟩) L.length c), Is (.slice (some ⟨ab, ao, none⟩) L.length c), Is (.int .i64 (k : Int)), Is (.pointer (some ⟨ab, ao + k * 4, none⟩)), Is (.pointer (some ⟨ab, ao + k * 4, none⟩)), Is (.slice p.2.kA p.1.key.length p.2.kc), RowF M, Is (.bool true), Is (.bool false), Is (.bool false)] (by kernel_rfl) (by kernel_rfl) ?mono2 (fun f2 => ?obl2) ?fin2
        case mono2 =>
          simp only [List.forall_mem_cons, List.not_mem_nil, false_imp_iff, implies_true, and_true]
          exact ⟨.is _, .is _, .is _, .is _, .is _, .is _, .is _, .is _, .is _, .is _, .is _, .is _, .is _, .is _, .is _, .is _, .is _, .is _, .is _, FrmF.mono _, .is _, .is _, .is _, .is _, .is _, .is _, RowF.mono _, .is _, .is _, .is _⟩
        case fin2 =>
          intro h1 u hu hg
          simp only [puts, Act.put, List.setIfInBounds_toArray, List.set_cons_zero, List.set_cons_succ]
          have e29 : h1 29 = .bool false := hg 29 (by decide)
          rw [e29]
          have HXZ : Hid (Ext w13 u) := Ext.trans HX.out (Ext.trans HX5.out (Ext.trans (Ext.drew w5) hu))
          clear hg hu e29 c0 c1 c2 c3 q0 q1 q2 q3
          go_wp2_with fail
          go_roundw
          case rel => exact ⟨k + 1, HLT.out, by rw [wrap_succ (by have := HLT.out; have := HB.out.1; omega)], HXZ.out⟩
          case measure => have := HLT.out; have := HB.out.1; rw [wrap_succ (by omega)]; simp [intOf]; omega
        case obl2 =>
          refine ⟨fun u hu hd => ?_, ?_⟩
          · go_simp
            exact ⟨Ext.refl _, rfl⟩
          refine ⟨fun u hu hd => ?_, ?_⟩
          · simp only [Act.put, List.setIfInBounds_toArray, List.set_cons_zero, List.set_cons_succ]
            have e0 : f2 0 = .int .i64 0 := hd 0 (by kernel_rfl)
            go_simp
            refine (knum _ _).mono ?_
            rintro x9 w9 ⟨rfl, rfl⟩
            exact ⟨_, rfl, Ext.refl _, rfl⟩
          refine ⟨fun u hu hd => ?_, ?_⟩
          · simp only [Act.put, List.setIfInBounds_toArray, List.set_cons_zero, List.set_cons_succ]
            have e1 : f2 1 = .int .i64 0 := hd 1 (by kernel_rfl)
            go_simp
            exact ⟨Ext.refl _, rfl⟩
          refine ⟨fun u hu hd => ?_, ?_⟩
          · simp only [Act.put, List.setIfInBounds_toArray, List.set_cons_zero, List.set_cons_succ]
            have e2 : f2 2 = .bool false := hd 2 (by kernel_rfl)
            go_simp
            exact ⟨Ext.refl _, rfl⟩
          refine ⟨fun u hu hd => ?_, ?_⟩
          · simp only [Act.put, List.setIfInBounds_toArray, List.set_cons_zero, List.set_cons_succ]
            have e3 : f2 3 = .bool false := hd 3 (by kernel_rfl)
            have hu2 := Ext.trans (Ext.drew w5) hu
            have q0 := ext_cell hu2 q0
            have q1 := ext_cell hu2 q1
            have q2 := ext_cell hu2 q2
            have q3 := ext_cell hu2 q3
            go_simp
            exact ⟨Ext.refl _, rfl⟩
          refine ⟨fun u hu hd => ?_, ?_⟩
          · simp only [Act.put, List.setIfInBounds_toArray, List.set_cons_zero, List.set_cons_succ]
            have e3 : f2 3 = .bool false := hd 3 (by kernel_rfl)
            go_simp
            exact ⟨Ext.refl _, rfl⟩
          refine ⟨fun u hu hd => ?_, ?_⟩
          · simp only [Act.put, List.setIfInBounds_toArray, List.set_cons_zero, List.set_cons_succ]
            have e3 : f2 3 = .bool false := hd 3 (by kernel_rfl)
            go_simp
            exact ⟨Ext.refl _, rfl⟩
          refine ⟨fun u hu hd => ?_, ?_⟩
          · simp only [Act.put, List.setIfInBounds_toArray, List.set_cons_zero, List.set_cons_succ]
            have e3 : f2 3 = .bool false := hd 3 (by kernel_rfl)
            have e5 : f2 5 = .slice (some ⟨ab, ao, none⟩) L.length c := hd 5 (by kernel_rfl)
            have e6 : f2 6 = .int .i64 (k : Int) := hd 6 (by kernel_rfl)
            go_simp
            exact ⟨Ext.refl _, rfl⟩
          refine ⟨fun u hu hd => ?_, ?_⟩
          · simp only [Act.put, List.setIfInBounds_toArray, List.set_cons_zero, List.set_cons_succ]
            have e3 : f2 3 = .bool false := hd 3 (by kernel_rfl)
            have e7 : f2 7 = .pointer (some ⟨ab, ao + k * 4, none⟩) := hd 7 (by kernel_rfl)
            have hu2 := Ext.trans (Ext.drew w5) hu
            have q0 := ext_cell hu2 c0
            have q1 := ext_cell hu2 c1
            have q2 := ext_cell hu2 c2
            have q3 := ext_cell hu2 c3
            go_simp
            exact ⟨Ext.refl _, rfl⟩
          refine ⟨fun u hu hd => ?_, ?_⟩
          · simp only [Act.put, List.setIfInBounds_toArray, List.set_cons_zero, List.set_cons_succ]
            have e3 : f2 3 = .bool false := hd 3 (by kernel_rfl)
            have e4 : f2 4 = .agg #[.slice g.kA p.1.key.length g.kc, .int .i64 p.1.seq, .int .i64 p.1.kind, .slice g.vA p.1.val.length g.vc] := hd 4 (by kernel_rfl)
            have e8 : f2 8 = .agg #[.slice p.2.kA p.1.key.length p.2.kc, .int .i64 p.1.seq, .int .i64 p.1.kind, .slice p.2.vA p.1.val.length p.2.vc] := hd 8 (by kernel_rfl)
            have hu2 := Ext.trans (Ext.drew w5) hu
            have hp2 := HU.out _ (Ext.trans HX5.out hu2)
            have HR9 := Lib.hid (rsame_any (HEG.out _ hu2) hp2.2.1 (Nat.le_refl _) hp2.2.2.1)
            unfold Ent.at_ at HR9
            clear hp2
            go_simp
            refine HR9.out.mono ?_
            rintro x9 w9 ⟨z, hz, rfl, hx9⟩
            obtain rfl : z = true := hz.2 rfl
            exact ⟨_, rfl, hx9, rfl⟩
          refine ⟨fun u hu hd => ?_, ?_⟩
          · simp only [Act.put, List.setIfInBounds_toArray, List.set_cons_zero, List.set_cons_succ]
            have e3 : f2 3 = .bool false := hd 3 (by kernel_rfl)
            have e9 : f2 9 = .bool true := hd 9 (by kernel_rfl)
            go_simp
            exact ⟨Ext.refl _, rfl⟩
          refine ⟨fun u hu hd => ?_, ?_⟩
          · simp only [Act.put, List.setIfInBounds_toArray, List.set_cons_zero, List.set_cons_succ]
            have e3 : f2 3 = .bool false := hd 3 (by kernel_rfl)
            have e10 : f2 10 = .bool false := hd 10 (by kernel_rfl)
            go_simp
            exact ⟨Ext.refl _, rfl⟩
          refine ⟨fun u hu hd => ?_, ?_⟩
          · simp only [Act.put, List.setIfInBounds_toArray, List.set_cons_zero, List.set_cons_succ]
            have e11 : f2 11 = .bool false := hd 11 (by kernel_rfl)
            go_simp
            exact ⟨Ext.refl _, rfl⟩
          refine ⟨fun u hu hd => ?_, ?_⟩
          · simp only [Act.put, List.setIfInBounds_toArray, List.set_cons_zero, List.set_cons_succ]
            have e12 : f2 12 = .bool false := hd 12 (by kernel_rfl)
            go_simp
            exact ⟨Ext.refl _, rfl⟩
          refine ⟨fun u hu hd => ?_, ?_⟩
          · simp only [Act.put, List.setIfInBounds_toArray, List.set_cons_zero, List.set_cons_succ]
            have e12 : f2 12 = .bool false := hd 12 (by kernel_rfl)
            go_simp
            exact ⟨Ext.refl _, rfl⟩
          refine ⟨fun u hu hd => ?_, ?_⟩
          · simp only [Act.put, List.setIfInBounds_toArray, List.set_cons_zero, List.set_cons_succ]
            have e12 : f2 12 = .bool false := hd 12 (by kernel_rfl)
            go_simp
            exact ⟨Ext.refl _, rfl⟩
          refine ⟨fun u hu hd => ?_, ?_⟩
          · simp only [Act.put, List.setIfInBounds_toArray, List.set_cons_zero, List.set_cons_succ]
            have e12 : f2 12 = .bool false := hd 12 (by kernel_rfl)
            have e14 : f2 14 = .slice (some ⟨ab, ao, none⟩) L.length c := hd 14 (by kernel_rfl)
            have e15 : f2 15 = .int .i64 (k : Int) := hd 15 (by kernel_rfl)
            go_simp
            exact ⟨Ext.refl _, rfl⟩
          refine ⟨fun u hu hd => ?_, ?_⟩
          · simp only [Act.put, List.setIfInBounds_toArray, List.set_cons_zero, List.set_cons_succ]
            have e12 : f2 12 = .bool false := hd 12 (by kernel_rfl)
            have e16 : f2 16 = .pointer (some ⟨ab, ao + k * 4, none⟩) := hd 16 (by kernel_rfl)
            go_simp
            exact ⟨Ext.refl _, rfl⟩
          refine ⟨fun u hu hd => ?_, ?_⟩
          · simp only [Act.put, List.setIfInBounds_toArray, List.set_cons_zero, List.set_cons_succ]
            have e12 : f2 12 = .bool false := hd 12 (by kernel_rfl)
            have e17 : f2 17 = .pointer (some ⟨ab, ao + k * 4, none⟩) := hd 17 (by kernel_rfl)
            have hu2 := Ext.trans (Ext.drew w5) hu
            have q0 := ext_cell hu2 c0
            go_simp
            exact ⟨Ext.refl _, rfl⟩
          refine ⟨fun u hu hd => ?_, ?_⟩
          · simp only [Act.put, List.setIfInBounds_toArray, List.set_cons_zero, List.set_cons_succ]
            have e12 : f2 12 = .bool false := hd 12 (by kernel_rfl)
            have e13 : f2 13 = .slice WA D.length wc := hd 13 (by kernel_rfl)
            have e18 : f2 18 = .slice p.2.kA p.1.key.length p.2.kc := hd 18 (by kernel_rfl)
            have hu2 := Ext.trans (Ext.drew w5) hu
            go_simp
            refine (HFR.out _ (Ext.trans HX5.out hu2)).mono ?_
            rintro x9 w9 ⟨v9, rfl, hx9, hf9⟩
            exact ⟨_, rfl, hx9, hf9⟩
          refine ⟨fun u hu hd => ?_, ?_⟩
          · simp only [Act.put, List.setIfInBounds_toArray, List.set_cons_zero, List.set_cons_succ]
            have e12 : f2 12 = .bool false := hd 12 (by kernel_rfl)
            go_simp
            exact ⟨Ext.refl _, rfl⟩
          refine ⟨fun u hu hd => ?_, ?_⟩
          · simp only [Act.put, List.setIfInBounds_toArray, List.set_cons_zero, List.set_cons_succ]
            have e12 : f2 12 = .bool false := hd 12 (by kernel_rfl)
            go_simp
            exact ⟨Ext.refl _, rfl⟩
          refine ⟨fun u hu hd => ?_, ?_⟩
          · simp only [Act.put, List.setIfInBounds_toArray, List.set_cons_zero, List.set_cons_succ]
            have e12 : f2 12 = .bool false := hd 12 (by kernel_rfl)
            go_simp
            exact ⟨Ext.refl _, rfl⟩
          refine ⟨fun u hu hd => ?_, ?_⟩
          · simp only [Act.put, List.setIfInBounds_toArray, List.set_cons_zero, List.set_cons_succ]
            have e12 : f2 12 = .bool false := hd 12 (by kernel_rfl)
            have e21 : f2 21 = .slice (some ⟨ab, ao, none⟩) L.length c := hd 21 (by kernel_rfl)
            have e22 : f2 22 = .int .i64 (k : Int) := hd 22 (by kernel_rfl)
            go_simp
            exact ⟨Ext.refl _, rfl⟩
          refine ⟨fun u hu hd => ?_, ?_⟩
          · simp only [Act.put, List.setIfInBounds_toArray, List.set_cons_zero, List.set_cons_succ]
            have e12 : f2 12 = .bool false := hd 12 (by kernel_rfl)
            have e23 : f2 23 = .pointer (some ⟨ab, ao + k * 4, none⟩) := hd 23 (by kernel_rfl)
            go_simp
            exact ⟨Ext.refl _, rfl⟩
          refine ⟨fun u hu hd => ?_, ?_⟩
          · simp only [Act.put, List.setIfInBounds_toArray, List.set_cons_zero, List.set_cons_succ]
            have e12 : f2 12 = .bool false := hd 12 (by kernel_rfl)
            have e24 : f2 24 = .pointer (some ⟨ab, ao + k * 4, none⟩) := hd 24 (by kernel_rfl)
            have hu2 := Ext.trans (Ext.drew w5) hu
            have q0 := ext_cell hu2 c0
            go_simp
            exact ⟨Ext.refl _, rfl⟩
          refine ⟨fun u hu hd => ?_, ?_⟩
          · simp only [Act.put, List.setIfInBounds_toArray, List.set_cons_zero, List.set_cons_succ]
            have e12 : f2 12 = .bool false := hd 12 (by kernel_rfl)
            have e20 : f2 20 = .slice (some ⟨ab, ao, none⟩) L.length c := hd 20 (by kernel_rfl)
            have e25 : f2 25 = .slice p.2.kA p.1.key.length p.2.kc := hd 25 (by kernel_rfl)
            have hu2 := Ext.trans (Ext.drew w5) hu
            go_simp
            refine (HRF.out _ (Ext.trans HX5.out hu2)).mono ?_
            rintro x9 w9 ⟨v9, rfl, hx9, hf9⟩
            exact ⟨_, rfl, hx9, hf9⟩
          refine ⟨fun u hu hd => ?_, ?_⟩
          · simp only [Act.put, List.setIfInBounds_toArray, List.set_cons_zero, List.set_cons_succ]
            have e12 : f2 12 = .bool false := hd 12 (by kernel_rfl)
            obtain ⟨bd9, X9, c9, S9, e19, hbx9, hes9, hl9, hin9, hmp9⟩ := (show FrmF M (f2 19) u from hd 19 (by kernel_rfl))
            obtain ⟨Y9, d9, T9, e26, ht9, hmt9⟩ := (show RowF M (f2 26) u from hd 26 (by kernel_rfl))
            have HG9 := Lib.hid (kgoes.goes_over (most := 0) (d := d9) hbx9 hes9 hl9 hin9 ht9 (by have := congrArg List.length hmt9; rw [List.length_map] at this; have := HML.out; omega) (hmp9.trans hmt9.symm))
            clear hbx9 hes9 hl9 hin9 ht9 hmp9 hmt9
            go_simp
            refine HG9.out.mono ?_
            rintro x9 w9 ⟨rfl, hb9⟩
            exact ⟨_, rfl, hb9, rfl⟩
          refine ⟨fun u hu hd => ?_, ?_⟩
          · simp only [Act.put, List.setIfInBounds_toArray, List.set_cons_zero, List.set_cons_succ]
            have e12 : f2 12 = .bool false := hd 12 (by kernel_rfl)
            have e27 : f2 27 = .bool true := hd 27 (by kernel_rfl)
            go_simp
            exact ⟨Ext.refl _, rfl⟩
          refine ⟨fun u hu hd => ?_, ?_⟩
          · simp only [Act.put, List.setIfInBounds_toArray, List.set_cons_zero, List.set_cons_succ]
            have e12 : f2 12 = .bool false := hd 12 (by kernel_rfl)
            have e28 : f2 28 = .bool false := hd 28 (by kernel_rfl)
            go_simp
            exact ⟨Ext.refl _, rfl⟩
          trivial
      case obl =>
        refine ⟨fun sn u hI hn hs => ?_, ?_⟩
        · have HI := Lib.hid hI
          clear hI hn hs
          go_simp
          exact HI.out.plain HMO.out (by decide) (Ext.refl _) rfl
        simp only [Act.put, List.setIfInBounds_toArray, List.set_cons_zero, List.set_cons_succ]
        refine ⟨fun sn u hI hn hs => ?_, ?_⟩
        · have HI := Lib.hid hI
          clear hI hn hs
          go_simp
          exact HI.out.plain HMO.out (by decide) (Ext.refl _) rfl
        simp only [Act.put, List.setIfInBounds_toArray, List.set_cons_zero, List.set_cons_succ]
        refine ⟨fun sn u hI hn hs => ?_, ?_⟩
        · have HI := Lib.hid hI
          clear hI hn hs
          go_simp
          exact HI.out.plain HMO.out (by decide) (Ext.refl _) rfl
        simp only [Act.put, List.setIfInBounds_toArray, List.set_cons_zero, List.set_cons_succ]
        refine ⟨fun sn u hI hn hs => ?_, ?_⟩
        · have e1 : f1 1 = .slice (some ⟨ab, ao, none⟩) L.length c := hI.facts 1 (by decide) (hs 1 (by kernel_rfl))
          have e2 : f1 2 = .int .i64 (k : Int) := hI.facts 2 (by decide) (hs 2 (by kernel_rfl))
          have HI := Lib.hid hI
          clear hI hn hs
          go_simp
          exact HI.out.plain HMO.out (by decide) (Ext.refl _) rfl
        simp only [Act.put, List.setIfInBounds_toArray, List.set_cons_zero, List.set_cons_succ]
        refine ⟨fun sn u hI hn hs => ?_, ?_⟩
        · have e3 : f1 3 = .pointer (some ⟨ab, ao + k * 4, none⟩) := hI.facts 3 (by decide) (hs 3 (by kernel_rfl))
          have HI := Lib.hid hI
          clear hI hn hs
          go_simp
          exact HI.out.plain HMO.out (by decide) (Ext.refl _) rfl
        simp only [Act.put, List.setIfInBounds_toArray, List.set_cons_zero, List.set_cons_succ]
        refine ⟨fun sn u hI hn hs => ?_, ?_⟩
        · have e4 : f1 4 = .pointer (some ⟨ab, ao + k * 4, none⟩) := hI.facts 4 (by decide) (hs 4 (by kernel_rfl))
          have hu2 := Ext.trans (Ext.drew wr) hI.x
          have q0 := ext_cell hu2 c0
          have HI := Lib.hid hI
          clear hI hn hs
          go_simp
          exact HI.out.plain HMO.out (by decide) (Ext.refl _) rfl
        simp only [Act.put, List.setIfInBounds_toArray, List.set_cons_zero, List.set_cons_succ]
        refine ⟨fun sn u hI hn hs => ?_, ?_⟩
        · have HI := Lib.hid hI
          clear hI hn hs
          go_simp
          exact HI.out.plain HMO.out (by decide) (Ext.refl _) rfl
        simp only [Act.put, List.setIfInBounds_toArray, List.set_cons_zero, List.set_cons_succ]
        refine ⟨fun sn u hI hn hs => ?_, ?_⟩
        · have HI := Lib.hid hI
          clear hI hn hs
          go_simp
          exact HI.out.plain HMO.out (by decide) (Ext.refl _) rfl
        simp only [Act.put, List.setIfInBounds_toArray, List.set_cons_zero, List.set_cons_succ]
        refine ⟨fun sn u hI hn hs => ?_, ?_⟩
        · have e6 : f1 6 = .slice (some ⟨ab, ao, none⟩) L.length c := hI.facts 6 (by decide) (hs 6 (by kernel_rfl))
          have e7 : f1 7 = .int .i64 (k : Int) := hI.facts 7 (by decide) (hs 7 (by kernel_rfl))
          have HI := Lib.hid hI
          clear hI hn hs
          go_simp
          exact HI.out.plain HMO.out (by decide) (Ext.refl _) rfl
        simp only [Act.put, List.setIfInBounds_toArray, List.set_cons_zero, List.set_cons_succ]
        refine ⟨fun sn u hI hn hs => ?_, ?_⟩
        · have e8 : f1 8 = .pointer (some ⟨ab, ao + k * 4, none⟩) := hI.facts 8 (by decide) (hs 8 (by kernel_rfl))
          have HI := Lib.hid hI
          clear hI hn hs
          go_simp
          exact HI.out.plain HMO.out (by decide) (Ext.refl _) rfl
        simp only [Act.put, List.setIfInBounds_toArray, List.set_cons_zero, List.set_cons_succ]
        refine ⟨fun sn u hI hn hs => ?_, ?_⟩
        · have e9 : f1 9 = .pointer (some ⟨ab, ao + k * 4 + 1, none⟩) := hI.facts 9 (by decide) (hs 9 (by kernel_rfl))
          have hu2 := Ext.trans (Ext.drew wr) hI.x
          have q0 := ext_cell hu2 c1
          have HI := Lib.hid hI
          clear hI hn hs
          go_simp
          exact HI.out.plain HMO.out (by decide) (Ext.refl _) rfl
        simp only [Act.put, List.setIfInBounds_toArray, List.set_cons_zero, List.set_cons_succ]
        refine ⟨fun sn u hI hn hs => ?_, ?_⟩
        · have e0 : f1 0 = .slice WA D.length wc := hI.facts 0 (by decide) (hs 0 (by kernel_rfl))
          have e5 : f1 5 = .slice p.2.kA p.1.key.length p.2.kc := hI.facts 5 (by decide) (hs 5 (by kernel_rfl))
          have e10 : f1 10 = .int .i64 p.1.seq := hI.facts 10 (by decide) (hs 10 (by kernel_rfl))
          have hu2 := Ext.trans (Ext.drew wr) hI.x
          have HI := Lib.hid hI
          clear hI hn hs
          go_simp
          refine (HGT.out _ hu2).mono ?_
          rintro y w9 ⟨hx9, g9, rfl, hm9⟩
          exact ⟨_, rfl, HI.out.plain HMO.out (by decide) hx9 ⟨g9, rfl, hm9⟩⟩
        simp only [Act.put, List.setIfInBounds_toArray, List.set_cons_zero, List.set_cons_succ]
        refine ⟨fun sn u hI hn hs => ?_, ?_⟩
        · obtain ⟨g9, e11, hm9⟩ := (show GotF p.1 (f1 11) u from hI.facts 11 (by decide) (hs 11 (by kernel_rfl)))
          have HM9 := Lib.hid hm9
          clear hm9
          have HI := Lib.hid hI
          clear hI hn hs
          go_simp
          exact HI.out.plain HMO.out (by decide) (Ext.refl _) ⟨g9, rfl, HM9.out⟩
        simp only [Act.put, List.setIfInBounds_toArray, List.set_cons_zero, List.set_cons_succ]
        refine ⟨fun sn u hI hn hs => ?_, ?_⟩
        · obtain ⟨g9, e12, hm9⟩ := (show GotF p.1 (f1 12) u from hI.facts 12 (by decide) (hs 12 (by kernel_rfl)))
          have HM9 := Lib.hid hm9
          clear hm9
          have HI := Lib.hid hI
          clear hI hn hs
          go_simp
          exact HI.out.plain HMO.out (by decide) (Ext.refl _) ⟨g9, rfl, HM9.out⟩
        simp only [Act.put, List.setIfInBounds_toArray, List.set_cons_zero, List.set_cons_succ]
        refine ⟨fun sn u hI hn hs => ?_, ?_⟩
        · obtain ⟨g9, e12, hm9⟩ := (show GotF p.1 (f1 12) u from hI.facts 12 (by decide) (hs 12 (by kernel_rfl)))
          clear hm9
          have HI := Lib.hid hI
          clear hI hn hs
          go_simp
          exact HI.out.plain HMO.out (by decide) (Ext.refl _) rfl
        simp only [Act.put, List.setIfInBounds_toArray, List.set_cons_zero, List.set_cons_succ]
        refine ⟨fun sn u hI hn hs => ?_, ?_⟩
        · have HI := Lib.hid (hI.alloc HMO.out hn)
          clear hI hn hs
          go_simp
          exact HI.out
        simp only [Act.put, List.setIfInBounds_toArray, List.set_cons_zero, List.set_cons_succ]
        refine ⟨fun sn u hI hn hs => ?_, ?_⟩
        · have k15 : sn 15 = true := hs 15 (by kernel_rfl)
          obtain ⟨g9, e13, hm9⟩ := (show OneE p.1 (f1 13) u from hI.facts 13 (by decide) (hs 13 (by kernel_rfl)))
          obtain ⟨gb, e15, _, hz, _⟩ := hI.alc k15
          have hz2 := hz hn
          unfold zc at hz2
          have q0 := cell_of hz2 (k := 0) rfl
          have q1 := cell_of hz2 (k := 1) rfl
          have q2 := cell_of hz2 (k := 2) rfl
          have q3 := cell_of hz2 (k := 3) rfl
          have z0 := frozen_four (j := 0) hz2
          have z1 := frozen_four (j := 1) hz2
          have z2 := frozen_four (j := 2) hz2
          have z3 := frozen_four (j := 3) hz2
          have HI := Lib.hid (And.intro hI (And.intro k15 hn))
          have HM9 := Lib.hid hm9
          have HZ9 := Lib.hid hz2
          have HE15 := Lib.hid e15
          unfold Ent.at_ at e13
          clear hI hn hs hz hz2 hm9 k15
          go_simp
          refine gives_store (fun U hb9 hc9 => ?_) HZ9.out
          exact BI.store HI.out.1 HSM.out (g := g9) HE15.out HI.out.2.1 HI.out.2.2 HM9.out hc9 hb9
        simp only [Act.put]
        refine ⟨fun sn u hI hn hs => ?_, ?_⟩
        · have e14 : f1 14 = .int .i64 0 := hI.facts 14 (by decide) (hs 14 (by kernel_rfl))
          have HI := Lib.hid hI
          clear hI hn hs
          go_simp
          exact HI.out.last _ rfl
        trivial
  have d : decide ((b.length : Int) ≤ 100000) = true := decide_eq_true (by omega)
  have dn : decide (b.length ≤ 100000) = true := decide_eq_true hbl
  have HBL := Lib.hid hbl
  clear hbl
  go_wp2_with fail
  refine (bread_any (HV.out.below HX1.out (Nat.le_refl _)) HX1.out.size HBY.out (by have := HBL.out; omega)).mono ?_
  rintro x w2 ⟨hx2, (⟨R, X, cR, his, rfl, hgot⟩ | ⟨_, rfl⟩)⟩
  rotate_left
  · have HX2 : Hid (Ext W w2) := Ext.trans HX1.out hx2
    clear hx2
    go_wp2_with fail
    refine (kwrite0 w2).mono ?_
    rintro x w3 ⟨hx3, rfl⟩
    have HX3 : Hid (Ext W w3) := Ext.trans HX2.out hx3
    clear hx3
    go_wp2_with fail
    refine (knum _ _).mono ?_
    rintro x _ ⟨rfl, rfl⟩
    go_wp2_with fail
    refine (HMU.out w3 HX3.out).mono ?_
    rintro x w10 ⟨z, hz, rfl, hx10⟩
    have HX10 : Hid (Ext W w10) := Ext.trans HX3.out hx10
    have HZ := Lib.hid hz
    clear hz hx10
    rcases z with _ | _
    rotate_left
    · go_wp2_with fail
      go_ret
      exact ⟨rfl, HX10.out⟩
    have HB := Lib.hid (HZ.out rfl)
    have HWR := Lib.hid (write_any (c := c) (HES.out w10 HX10.out).1 (HES.out w10 HX10.out).2 HLC.out (by have := HB.out.1; omega))
    rw [← HLS.out] at HWR
    go_wp2_with fail
    refine HWR.out.mono ?_
    rintro x w11 ⟨hx11, (⟨hm, WA, wc, rfl, hown⟩ | ⟨hm, rfl⟩)⟩
    rotate_left
    · have HX11 : Hid (Ext W w11) := Ext.trans HX10.out hx11
      clear hx11 hm HWR
      go_wp2_with fail
      refine (knum _ _).mono ?_
      rintro x _ ⟨rfl, rfl⟩
      go_wp2_with fail
      go_ret
      exact ⟨rfl, HX11.out⟩
    have HX11 : Hid (Ext W w11) := Ext.trans HX10.out hx11
    have HM := Lib.hid hm
    obtain ⟨D, hD⟩ : ∃ D, D = wr Ls := ⟨_, rfl⟩
    have HD := Lib.hid hD
    rw [← hD] at hown ⊢
    have HDB : Hid (∀ x ∈ D, x < 256) := by rw [hD]; exact HBW.out hm
    have HDL : Hid (D.length ≤ 1000000000) := by rw [hD]; exact HWLEN.out hm
    have HIS : Hid (IsB D Ls) := ⟨hm, hD.symm⟩
    have HO := Lib.hid hown
    clear hx11 hm HWR hown hD
    go_wp2_with fail
    refine (knum _ _).mono ?_
    rintro x _ ⟨rfl, rfl⟩
    go_wp2_with fail
    refine (bread_any HO.out.bs (Nat.le_refl _) HDB.out HDL.out).mono ?_
    rintro x w12 ⟨hx12, (⟨R, X, cR, his, rfl, hgot⟩ | ⟨hno, _⟩)⟩
    rotate_left
    · exact absurd HIS.out (hno _)
    have HX12 : Hid (Ext W w12) := Ext.trans HX11.out hx12
    have HO12 := Lib.hid (HO.out.below hx12)
    have hmap : R.map Prod.fst = L.map Prod.fst := by rw [← HLS.out]; exact his.unique HIS.out
    have HMAP := Lib.hid hmap
    have hrl : R.length = L.length := by have := congrArg List.length hmap; simpa using this
    have HSL := Lib.hid (rsamelist_any (c := cR) (c2 := c) hgot.rs (HES.out w12 HX12.out).1 (Nat.le_refl _) (HES.out w12 HX12.out).2 (by have := HB.out.1; omega) (by have := HB.out.1; omega))
    clear hx12 his hgot hmap hrl
    go_wp2_with fail
    refine (knum _ _).mono ?_
    rintro x _ ⟨rfl, rfl⟩
    go_wp2_with fail
    refine HSL.out.mono ?_
    rintro x w13 ⟨y, hy, rfl, hx13⟩
    obtain rfl : y = true := hy.2 HMAP.out
    have HX13 : Hid (Ext W w13) := Ext.trans HX12.out hx13
    have HO13 := Lib.hid (HO12.out.below hx13)
    clear hx13 hy HSL
    go_wp2_with fail
    go_loopw [13, 14, 15] (fun i _ _ wr => ∃ k : Nat, k ≤ L.length ∧ i = .int .i64 (k : Int) ∧ Hid (Ext w13 wr)) (fun i _ _ _ => L.length - (intOf i).toNat)
    case atStart => exact ⟨0, Nat.zero_le _, rfl, Ext.refl _⟩
    case round =>
      obtain ⟨k, hk, rfl, HX⟩ := hrel
      have HXW : Hid (Ext W wr) := Ext.trans HX13.out HX.out
      by_cases hlt : k < L.length
      rotate_left
      · have d : decide ((k : Int) < (L.length : Int)) = false := by rw [decide_eq_false_iff_not]; exact fun h => hlt (Int.ofNat_lt.1 h)
        have dn : decide (k < L.length) = false := decide_eq_false hlt
        clear hlt hk
        go_wp2_with fail
        go_ret
        exact ⟨rfl, HXW.out⟩
      have d : decide ((k : Int) < (L.length : Int)) = true := by rw [decide_eq_true_eq]; exact Int.ofNat_lt.2 hlt
      have dn : decide (k < L.length) = true := decide_eq_true hlt
      by_cases h40 : k < 40
      rotate_left
      · have d4 : decide ((k : Int) < 40) = false := decide_eq_false (by omega)
        have d4n : decide (k < 40) = false := decide_eq_false h40
        clear hlt hk h40
        go_wp2_with fail
        go_ret
        exact ⟨rfl, HXW.out⟩
      have d4 : decide ((k : Int) < 40) = true := decide_eq_true (by omega)
      have d4n : decide (k < 40) = true := decide_eq_true h40
      obtain ⟨p, hp⟩ : ∃ p, L[k]? = some p := ⟨_, List.getElem?_eq_getElem hlt⟩
      have HP := Lib.hid hp
      have HPM := Lib.hid (List.mem_of_getElem? hp)
      have HLT := Lib.hid hlt
      obtain ⟨ab, ao, rfl⟩ := HE.out.base (by omega)
      obtain ⟨c0, c1, c2, c3⟩ := (HES.out wr HXW.out).1.get hp
      have n1 : (0 : Int) ≤ (k : Int) := Int.natCast_nonneg _
      have n2 : (k : Int) < (L.length : Int) := Int.ofNat_lt.2 hlt
      have HFS : Hid (Ls.find? (seenE p.1.key p.1.seq) = some p.1) := by
        refine find_self HM.out.2.2.1 (i := k) ?_
        rw [HLS.out, List.getElem?_map, hp]; rfl
      have HU : Hid (∀ u, Ext wr u → Bs u 0 u.heap.size (.slice WA D.length wc) D ∧ Em u 0 W.heap.size p.1 p.2 ∧ W.heap.size ≤ u.heap.size ∧ Es u 0 W.heap.size (some ⟨ab, ao, none⟩) L) := fun u hu => by
        have hx := Ext.trans HX.out hu
        have hw := HES.out u (Ext.trans HXW.out hu)
        exact ⟨(HO13.out.below hx).bs, hw.1.each p HPM.out, hw.2, hw.1⟩
      have HGT : Hid (∀ u, Ext wr u → Calls Try.prog 14 #[.slice WA D.length wc, .slice p.2.kA p.1.key.length p.2.kc, .int .i64 p.1.seq] u fun x w' => Ext u w' ∧ ∃ g : Hd, x = .returned (.tuple #[p.1.at_ g, .int .i64 0]) ∧ Em w' 0 w'.heap.size p.1 g) := fun u hu => by
        obtain ⟨h1, h2, h3, _⟩ := HU.out u hu
        refine (bget_any (s := p.1.seq) h1 (Nat.le_refl _) HDB.out HDL.out h2.k h3 h2.bk h2.s1 h2.s2).mono ?_
        rintro x w' ⟨hx, (⟨hno, _⟩ | ⟨L', hL', hm⟩)⟩
        · exact absurd HIS.out (hno _)
        · obtain rfl := hL'.unique HIS.out
          rw [HFS.out] at hm
          exact ⟨hx, hm⟩
      have HFR : Hid (∀ u, Ext wr u → Calls Try.prog 17 #[.slice WA D.length wc, .slice p.2.kA p.1.key.length p.2.kc] u fun x w' => ∃ v, x = .returned v ∧ Ext u w' ∧ FromF (Ls.drop (cutOf (belowK p.1.key) Ls)) v w') := fun u hu => by
        obtain ⟨h1, h2, h3, _⟩ := HU.out u hu
        refine (bfrom_any h1 (Nat.le_refl _) HDB.out HDL.out h2.k h3 h2.bk).mono ?_
        rintro x w' ⟨hx, bd, X, cc, S, rfl, hb, hE, hl, hin, (⟨L', hL', hs⟩ | ⟨hno, _⟩)⟩
        · obtain rfl := hL'.unique HIS.out
          exact ⟨_, rfl, hx, bd, X, cc, S, rfl, hb, hE, hl, hin, hs⟩
        · exact absurd HIS.out (hno _)
      have HRF : Hid (∀ u, Ext wr u → Calls Try.prog 18 #[.slice (some ⟨ab, ao, none⟩) L.length c, .slice p.2.kA p.1.key.length p.2.kc] u fun x w' => ∃ v, x = .returned v ∧ Ext u w' ∧ RowF (Ls.drop (cutOf (belowK p.1.key) Ls)) v w') := fun u hu => by
        obtain ⟨_, h2, h3, h4⟩ := HU.out u hu
        have hmk : ∀ q ∈ L, q.1.key.length ≤ 32 := fun q hq => (mayN_iff.1 (HM.out.2.2.2 q.1 (by rw [HLS.out]; exact List.mem_map_of_mem hq))).2.1
        refine (rfrom_any h4 h3 HLC.out (by have := HB.out.1; omega) (fun q hq => by have := hmk q hq; omega) h2.k h3 h2.bk (by have := hmk p HPM.out; omega)).mono ?_
        rintro x w' ⟨Y, d, rfl, hE, hx⟩
        refine ⟨_, rfl, hx, Y, d, _, rfl, (hE.below hx h3).wide (Nat.zero_le _) (Nat.le_trans h3 hx.size), ?_⟩
        rw [List.map_drop, ← HLS.out]
      obtain ⟨M, hM⟩ : ∃ M, M = Ls.drop (cutOf (belowK p.1.key) Ls) := ⟨_, rfl⟩
      have HML : Hid (M.length ≤ 1024) := by have := HM.out.2.1; rw [hM]; unfold Hid; rw [List.length_drop]; omega
      rw [← hM] at HFR HRF
      clear hlt hk h40 hp hM
      go_upto_region 19 with (fail)
      have HMX : Try.prog.follows .mixedOrders = true := by kernel_rfl
      have HMO : Hid (∀ F9 ∈ ([Is (.slice WA D.length wc), Is (.slice (some ⟨ab, ao, none⟩) L.length c), Is (.int .i64 (k : Int)), Is (.pointer (some ⟨ab, ao + k * 4, none⟩)), Is (.pointer (some ⟨ab, ao + k * 4, none⟩)), Is (.slice p.2.kA p.1.key.length p.2.kc), Is (.slice (some ⟨ab, ao, none⟩) L.length c), Is (.int .i64 (k : Int)), Is (.pointer (some ⟨ab, ao + k * 4, none⟩)), Is (.pointer (some ⟨ab, ao + k * 4 + 1, none⟩)), Is (.int .i64 p.1.seq), GotF p.1, GotF p.1, OneE p.1, Is (.int .i64 0)] : List (Value → World → Prop)), Mono F9) := by
        unfold Hid
        simp only [List.forall_mem_cons, List.not_mem_nil, false_imp_iff, implies_true, and_true]
        exact ⟨.is _, .is _, .is _, .is _, .is _, .is _, .is _, .is _, .is _, .is _, .is _, GotF.mono _, GotF.mono _, OneE.mono _, .is _⟩
      have HSM : Hid (∀ F9 ∈ ([Is (.slice WA D.length wc), Is (.slice (some ⟨ab, ao, none⟩) L.length c), Is (.int .i64 (k : Int)), Is (.pointer (some ⟨ab, ao + k * 4, none⟩)), Is (.pointer (some ⟨ab, ao + k * 4, none⟩)), Is (.slice p.2.kA p.1.key.length p.2.kc), Is (.slice (some ⟨ab, ao, none⟩) L.length c), Is (.int .i64 (k : Int)), Is (.pointer (some ⟨ab, ao + k * 4, none⟩)), Is (.pointer (some ⟨ab, ao + k * 4 + 1, none⟩)), Is (.int .i64 p.1.seq), GotF p.1, GotF p.1, OneE p.1, Is (.int .i64 0)] : List (Value → World → Prop)), StM F9) := by
        unfold Hid
        simp only [List.forall_mem_cons, List.not_mem_nil, false_imp_iff, implies_true, and_true]
        exact ⟨.is _, .is _, .is _, .is _, .is _, .is _, .is _, .is _, .is _, .is _, .is _, .got _, .got _, .one _, .is _⟩
      refine Fi.flow HMX (BI [Is (.slice WA D.length wc), Is (.slice (some ⟨ab, ao, none⟩) L.length c), Is (.int .i64 (k : Int)), Is (.pointer (some ⟨ab, ao + k * 4, none⟩)), Is (.pointer (some ⟨ab, ao + k * 4, none⟩)), Is (.slice p.2.kA p.1.key.length p.2.kc), Is (.slice (some ⟨ab, ao, none⟩) L.length c), Is (.int .i64 (k : Int)), Is (.pointer (some ⟨ab, ao + k * 4, none⟩)), Is (.pointer (some ⟨ab, ao + k * 4 + 1, none⟩)), Is (.int .i64 p.1.seq), GotF p.1, GotF p.1, OneE p.1, Is (.int .i64 0)] wr.drew p.1) (by kernel_rfl) (by kernel_rfl) (fun f => BI.start _ _ _ f) (fun f1 => ?obl) ?fin
      case fin =>
        intro g1 sn w5 hs hI
        simp only [puts, Act.put, List.setIfInBounds_toArray, List.set_cons_zero, List.set_cons_succ]
        obtain ⟨gb, e15, _, _, h16⟩ := hI.alc (hs 15 (by decide))
        obtain ⟨g, hb5, hm⟩ := h16 (hs 16 (by decide))
        have e17 := hI.asg (hs 17 (by decide))
        have HX5 : Hid (Ext wr w5) := Ext.trans (Ext.drew wr) hI.x
        rw [e15, e17]
        have HMU2 := Lib.hid hm
        clear hI hs e15 e17 h16 hm c0 c1 c2 c3
        go_upto_region 20 with (fail)
        have q0 := cell_of hb5 (k := 0) rfl
        have q1 := cell_of hb5 (k := 1) rfl
        have q2 := cell_of hb5 (k := 2) rfl
        have q3 := cell_of hb5 (k := 3) rfl
        obtain ⟨c0, c1, c2, c3⟩ := (HES.out w5 (Ext.trans HXW.out HX5.out)).1.get HP.out
        have HEG : Hid (∀ u2, Ext w5 u2 → Em u2 0 u2.heap.size p.1 g) := fun u2 hu2 => (HMU2.out.below hu2 (Nat.le_refl _)).wide (Nat.le_refl _) hu2.size
        clear hb5
        refine flow (by kernel_rfl) [Is (.int .i64 0), Is (.int .i64 0), Is (.bool false), Is (.bool false), Is (.agg #[.slice g.kA p.1.key.length g.kc, .int .i64 p.1.seq, .int .i64 p.1.kind, .slice g.vA p.1.val.length g.vc]), Is (.slice (some ⟨ab, ao, none⟩) L.length c), Is (.int .i64 (k : Int)), Is (.pointer (some ⟨ab, ao + k * 4, none⟩)), Is (.agg #[.slice p.2.kA p.1.key.length p.2.kc, .int .i64 p.1.seq, .int .i64 p.1.kind, .slice p.2.vA p.1.val.length p.2.vc]), Is (.bool true), Is (.bool false), Is (.bool false), Is (.bool false), Is (.slice WA D.length wc), Is (.slice (some ⟨ab, ao, none⟩) L.length c), Is (.int .i64 (k : Int)), Is (.pointer (some ⟨ab, ao + k * 4, none⟩)), Is (.pointer (some ⟨ab, ao + k * 4, none⟩)), Is (.slice p.2.kA p.1.key.length p.2.kc), FrmF M, Is (.slice (some ⟨ab, ao, none⟩) L.length c), Is (.slice (some ⟨ab, ao, none⟩) L.length c), Is (.int .i64 (k : Int)), Is (.pointer (some ⟨ab, ao + k * 4, none⟩)), Is (.pointer (some ⟨ab, ao + k * 4, none⟩)), Is (.slice p.2.kA p.1.key.length p.2.kc), RowF M, Is (.bool true), Is (.bool false), Is (.bool false)] (by kernel_rfl) (by kernel_rfl) ?mono2 (fun f2 => ?obl2) ?fin2
        case mono2 =>
          simp only [List.forall_mem_cons, List.not_mem_nil, false_imp_iff, implies_true, and_true]
          exact ⟨.is _, .is _, .is _, .is _, .is _, .is _, .is _, .is _, .is _, .is _, .is _, .is _, .is _, .is _, .is _, .is _, .is _, .is _, .is _, FrmF.mono _, .is _, .is _, .is _, .is _, .is _, .is _, RowF.mono _, .is _, .is _, .is _⟩
        case fin2 =>
          intro h1 u hu hg
          simp only [puts, Act.put, List.setIfInBounds_toArray, List.set_cons_zero, List.set_cons_succ]
          have e29 : h1 29 = .bool false := hg 29 (by decide)
          rw [e29]
          have HXZ : Hid (Ext w13 u) := Ext.trans HX.out (Ext.trans HX5.out (Ext.trans (Ext.drew w5) hu))
          clear hg hu e29 c0 c1 c2 c3 q0 q1 q2 q3
          go_wp2_with fail
          go_roundw
          case rel => exact ⟨k + 1, HLT.out, by rw [wrap_succ (by have := HLT.out; have := HB.out.1; omega)], HXZ.out⟩
          case measure => have := HLT.out; have := HB.out.1; rw [wrap_succ (by omega)]; simp [intOf]; omega
        case obl2 =>
          refine ⟨fun u hu hd => ?_, ?_⟩
          · go_simp
            exact ⟨Ext.refl _, rfl⟩
          refine ⟨fun u hu hd => ?_, ?_⟩
          · simp only [Act.put, List.setIfInBounds_toArray, List.set_cons_zero, List.set_cons_succ]
            have e0 : f2 0 = .int .i64 0 := hd 0 (by kernel_rfl)
            go_simp
            refine (knum _ _).mono ?_
            rintro x9 w9 ⟨rfl, rfl⟩
            exact ⟨_, rfl, Ext.refl _, rfl⟩
          refine ⟨fun u hu hd => ?_, ?_⟩
          · simp only [Act.put, List.setIfInBounds_toArray, List.set_cons_zero, List.set_cons_succ]
            have e1 : f2 1 = .int .i64 0 := hd 1 (by kernel_rfl)
            go_simp
            exact ⟨Ext.refl _, rfl⟩
          refine ⟨fun u hu hd => ?_, ?_⟩
          · simp only [Act.put, List.setIfInBounds_toArray, List.set_cons_zero, List.set_cons_succ]
            have e2 : f2 2 = .bool false := hd 2 (by kernel_rfl)
            go_simp
            exact ⟨Ext.refl _, rfl⟩
          refine ⟨fun u hu hd => ?_, ?_⟩
          · simp only [Act.put, List.setIfInBounds_toArray, List.set_cons_zero, List.set_cons_succ]
            have e3 : f2 3 = .bool false := hd 3 (by kernel_rfl)
            have hu2 := Ext.trans (Ext.drew w5) hu
            have q0 := ext_cell hu2 q0
            have q1 := ext_cell hu2 q1
            have q2 := ext_cell hu2 q2
            have q3 := ext_cell hu2 q3
            go_simp
            exact ⟨Ext.refl _, rfl⟩
          refine ⟨fun u hu hd => ?_, ?_⟩
          · simp only [Act.put, List.setIfInBounds_toArray, List.set_cons_zero, List.set_cons_succ]
            have e3 : f2 3 = .bool false := hd 3 (by kernel_rfl)
            go_simp
            exact ⟨Ext.refl _, rfl⟩
          refine ⟨fun u hu hd => ?_, ?_⟩
          · simp only [Act.put, List.setIfInBounds_toArray, List.set_cons_zero, List.set_cons_succ]
            have e3 : f2 3 = .bool false := hd 3 (by kernel_rfl)
            go_simp
            exact ⟨Ext.refl _, rfl⟩
          refine ⟨fun u hu hd => ?_, ?_⟩
          · simp only [Act.put, List.setIfInBounds_toArray, List.set_cons_zero, List.set_cons_succ]
            have e3 : f2 3 = .bool false := hd 3 (by kernel_rfl)
            have e5 : f2 5 = .slice (some ⟨ab, ao, none⟩) L.length c := hd 5 (by kernel_rfl)
            have e6 : f2 6 = .int .i64 (k : Int) := hd 6 (by kernel_rfl)
            go_simp
            exact ⟨Ext.refl _, rfl⟩
          refine ⟨fun u hu hd => ?_, ?_⟩
          · simp only [Act.put, List.setIfInBounds_toArray, List.set_cons_zero, List.set_cons_succ]
            have e3 : f2 3 = .bool false := hd 3 (by kernel_rfl)
            have e7 : f2 7 = .pointer (some ⟨ab, ao + k * 4, none⟩) := hd 7 (by kernel_rfl)
            have hu2 := Ext.trans (Ext.drew w5) hu
            have q0 := ext_cell hu2 c0
            have q1 := ext_cell hu2 c1
            have q2 := ext_cell hu2 c2
            have q3 := ext_cell hu2 c3
            go_simp
            exact ⟨Ext.refl _, rfl⟩
          refine ⟨fun u hu hd => ?_, ?_⟩
          · simp only [Act.put, List.setIfInBounds_toArray, List.set_cons_zero, List.set_cons_succ]
            have e3 : f2 3 = .bool false := hd 3 (by kernel_rfl)
            have e4 : f2 4 = .agg #[.slice g.kA p.1.key.length g.kc, .int .i64 p.1.seq, .int .i64 p.1.kind, .slice g.vA p.1.val.length g.vc] := hd 4 (by kernel_rfl)
            have e8 : f2 8 = .agg #[.slice p.2.kA p.1.key.length p.2.kc, .int .i64 p.1.seq, .int .i64 p.1.kind, .slice p.2.vA p.1.val.length p.2.vc] := hd 8 (by kernel_rfl)
            have hu2 := Ext.trans (Ext.drew w5) hu
            have hp2 := HU.out _ (Ext.trans HX5.out hu2)
            have HR9 := Lib.hid (rsame_any (HEG.out _ hu2) hp2.2.1 (Nat.le_refl _) hp2.2.2.1)
            unfold Ent.at_ at HR9
            clear hp2
            go_simp
            refine HR9.out.mono ?_
            rintro x9 w9 ⟨z, hz, rfl, hx9⟩
            obtain rfl : z = true := hz.2 rfl
            exact ⟨_, rfl, hx9, rfl⟩
          refine ⟨fun u hu hd => ?_, ?_⟩
          · simp only [Act.put, List.setIfInBounds_toArray, List.set_cons_zero, List.set_cons_succ]
            have e3 : f2 3 = .bool false := hd 3 (by kernel_rfl)
            have e9 : f2 9 = .bool true := hd 9 (by kernel_rfl)
            go_simp
            exact ⟨Ext.refl _, rfl⟩
          refine ⟨fun u hu hd => ?_, ?_⟩
          · simp only [Act.put, List.setIfInBounds_toArray, List.set_cons_zero, List.set_cons_succ]
            have e3 : f2 3 = .bool false := hd 3 (by kernel_rfl)
            have e10 : f2 10 = .bool false := hd 10 (by kernel_rfl)
            go_simp
            exact ⟨Ext.refl _, rfl⟩
          refine ⟨fun u hu hd => ?_, ?_⟩
          · simp only [Act.put, List.setIfInBounds_toArray, List.set_cons_zero, List.set_cons_succ]
            have e11 : f2 11 = .bool false := hd 11 (by kernel_rfl)
            go_simp
            exact ⟨Ext.refl _, rfl⟩
          refine ⟨fun u hu hd => ?_, ?_⟩
          · simp only [Act.put, List.setIfInBounds_toArray, List.set_cons_zero, List.set_cons_succ]
            have e12 : f2 12 = .bool false := hd 12 (by kernel_rfl)
            go_simp
            exact ⟨Ext.refl _, rfl⟩
          refine ⟨fun u hu hd => ?_, ?_⟩
          · simp only [Act.put, List.setIfInBounds_toArray, List.set_cons_zero, List.set_cons_succ]
            have e12 : f2 12 = .bool false := hd 12 (by kernel_rfl)
            go_simp
            exact ⟨Ext.refl _, rfl⟩
          refine ⟨fun u hu hd => ?_, ?_⟩
          · simp only [Act.put, List.setIfInBounds_toArray, List.set_cons_zero, List.set_cons_succ]
            have e12 : f2 12 = .bool false := hd 12 (by kernel_rfl)
            go_simp
            exact ⟨Ext.refl _, rfl⟩
          refine ⟨fun u hu hd => ?_, ?_⟩
          · simp only [Act.put, List.setIfInBounds_toArray, List.set_cons_zero, List.set_cons_succ]
            have e12 : f2 12 = .bool false := hd 12 (by kernel_rfl)
            have e14 : f2 14 = .slice (some ⟨ab, ao, none⟩) L.length c := hd 14 (by kernel_rfl)
            have e15 : f2 15 = .int .i64 (k : Int) := hd 15 (by kernel_rfl)
            go_simp
            exact ⟨Ext.refl _, rfl⟩
          refine ⟨fun u hu hd => ?_, ?_⟩
          · simp only [Act.put, List.setIfInBounds_toArray, List.set_cons_zero, List.set_cons_succ]
            have e12 : f2 12 = .bool false := hd 12 (by kernel_rfl)
            have e16 : f2 16 = .pointer (some ⟨ab, ao + k * 4, none⟩) := hd 16 (by kernel_rfl)
            go_simp
            exact ⟨Ext.refl _, rfl⟩
          refine ⟨fun u hu hd => ?_, ?_⟩
          · simp only [Act.put, List.setIfInBounds_toArray, List.set_cons_zero, List.set_cons_succ]
            have e12 : f2 12 = .bool false := hd 12 (by kernel_rfl)
            have e17 : f2 17 = .pointer (some ⟨ab, ao + k * 4, none⟩) := hd 17 (by kernel_rfl)
            have hu2 := Ext.trans (Ext.drew w5) hu
            have q0 := ext_cell hu2 c0
            go_simp
            exact ⟨Ext.refl _, rfl⟩
          refine ⟨fun u hu hd => ?_, ?_⟩
          · simp only [Act.put, List.setIfInBounds_toArray, List.set_cons_zero, List.set_cons_succ]
            have e12 : f2 12 = .bool false := hd 12 (by kernel_rfl)
            have e13 : f2 13 = .slice WA D.length wc := hd 13 (by kernel_rfl)
            have e18 : f2 18 = .slice p.2.kA p.1.key.length p.2.kc := hd 18 (by kernel_rfl)
            have hu2 := Ext.trans (Ext.drew w5) hu
            go_simp
            refine (HFR.out _ (Ext.trans HX5.out hu2)).mono ?_
            rintro x9 w9 ⟨v9, rfl, hx9, hf9⟩
            exact ⟨_, rfl, hx9, hf9⟩
          refine ⟨fun u hu hd => ?_, ?_⟩
          · simp only [Act.put, List.setIfInBounds_toArray, List.set_cons_zero, List.set_cons_succ]
            have e12 : f2 12 = .bool false := hd 12 (by kernel_rfl)
            go_simp
            exact ⟨Ext.refl _, rfl⟩
          refine ⟨fun u hu hd => ?_, ?_⟩
          · simp only [Act.put, List.setIfInBounds_toArray, List.set_cons_zero, List.set_cons_succ]
            have e12 : f2 12 = .bool false := hd 12 (by kernel_rfl)
            go_simp
            exact ⟨Ext.refl _, rfl⟩
          refine ⟨fun u hu hd => ?_, ?_⟩
          · simp only [Act.put, List.setIfInBounds_toArray, List.set_cons_zero, List.set_cons_succ]
            have e12 : f2 12 = .bool false := hd 12 (by kernel_rfl)
            go_simp
            exact ⟨Ext.refl _, rfl⟩
          refine ⟨fun u hu hd => ?_, ?_⟩
          · simp only [Act.put, List.setIfInBounds_toArray, List.set_cons_zero, List.set_cons_succ]
            have e12 : f2 12 = .bool false := hd 12 (by kernel_rfl)
            have e21 : f2 21 = .slice (some ⟨ab, ao, none⟩) L.length c := hd 21 (by kernel_rfl)
            have e22 : f2 22 = .int .i64 (k : Int) := hd 22 (by kernel_rfl)
            go_simp
            exact ⟨Ext.refl _, rfl⟩
          refine ⟨fun u hu hd => ?_, ?_⟩
          · simp only [Act.put, List.setIfInBounds_toArray, List.set_cons_zero, List.set_cons_succ]
            have e12 : f2 12 = .bool false := hd 12 (by kernel_rfl)
            have e23 : f2 23 = .pointer (some ⟨ab, ao + k * 4, none⟩) := hd 23 (by kernel_rfl)
            go_simp
            exact ⟨Ext.refl _, rfl⟩
          refine ⟨fun u hu hd => ?_, ?_⟩
          · simp only [Act.put, List.setIfInBounds_toArray, List.set_cons_zero, List.set_cons_succ]
            have e12 : f2 12 = .bool false := hd 12 (by kernel_rfl)
            have e24 : f2 24 = .pointer (some ⟨ab, ao + k * 4, none⟩) := hd 24 (by kernel_rfl)
            have hu2 := Ext.trans (Ext.drew w5) hu
            have q0 := ext_cell hu2 c0
            go_simp
            exact ⟨Ext.refl _, rfl⟩
          refine ⟨fun u hu hd => ?_, ?_⟩
          · simp only [Act.put, List.setIfInBounds_toArray, List.set_cons_zero, List.set_cons_succ]
            have e12 : f2 12 = .bool false := hd 12 (by kernel_rfl)
            have e20 : f2 20 = .slice (some ⟨ab, ao, none⟩) L.length c := hd 20 (by kernel_rfl)
            have e25 : f2 25 = .slice p.2.kA p.1.key.length p.2.kc := hd 25 (by kernel_rfl)
            have hu2 := Ext.trans (Ext.drew w5) hu
            go_simp
            refine (HRF.out _ (Ext.trans HX5.out hu2)).mono ?_
            rintro x9 w9 ⟨v9, rfl, hx9, hf9⟩
            exact ⟨_, rfl, hx9, hf9⟩
          refine ⟨fun u hu hd => ?_, ?_⟩
          · simp only [Act.put, List.setIfInBounds_toArray, List.set_cons_zero, List.set_cons_succ]
            have e12 : f2 12 = .bool false := hd 12 (by kernel_rfl)
            obtain ⟨bd9, X9, c9, S9, e19, hbx9, hes9, hl9, hin9, hmp9⟩ := (show FrmF M (f2 19) u from hd 19 (by kernel_rfl))
            obtain ⟨Y9, d9, T9, e26, ht9, hmt9⟩ := (show RowF M (f2 26) u from hd 26 (by kernel_rfl))
            have HG9 := Lib.hid (kgoes.goes_over (most := 0) (d := d9) hbx9 hes9 hl9 hin9 ht9 (by have := congrArg List.length hmt9; rw [List.length_map] at this; have := HML.out; omega) (hmp9.trans hmt9.symm))
            clear hbx9 hes9 hl9 hin9 ht9 hmp9 hmt9
            go_simp
            refine HG9.out.mono ?_
            rintro x9 w9 ⟨rfl, hb9⟩
            exact ⟨_, rfl, hb9, rfl⟩
          refine ⟨fun u hu hd => ?_, ?_⟩
          · simp only [Act.put, List.setIfInBounds_toArray, List.set_cons_zero, List.set_cons_succ]
            have e12 : f2 12 = .bool false := hd 12 (by kernel_rfl)
            have e27 : f2 27 = .bool true := hd 27 (by kernel_rfl)
            go_simp
            exact ⟨Ext.refl _, rfl⟩
          refine ⟨fun u hu hd => ?_, ?_⟩
          · simp only [Act.put, List.setIfInBounds_toArray, List.set_cons_zero, List.set_cons_succ]
            have e12 : f2 12 = .bool false := hd 12 (by kernel_rfl)
            have e28 : f2 28 = .bool false := hd 28 (by kernel_rfl)
            go_simp
            exact ⟨Ext.refl _, rfl⟩
          trivial
      case obl =>
        refine ⟨fun sn u hI hn hs => ?_, ?_⟩
        · have HI := Lib.hid hI
          clear hI hn hs
          go_simp
          exact HI.out.plain HMO.out (by decide) (Ext.refl _) rfl
        simp only [Act.put, List.setIfInBounds_toArray, List.set_cons_zero, List.set_cons_succ]
        refine ⟨fun sn u hI hn hs => ?_, ?_⟩
        · have HI := Lib.hid hI
          clear hI hn hs
          go_simp
          exact HI.out.plain HMO.out (by decide) (Ext.refl _) rfl
        simp only [Act.put, List.setIfInBounds_toArray, List.set_cons_zero, List.set_cons_succ]
        refine ⟨fun sn u hI hn hs => ?_, ?_⟩
        · have HI := Lib.hid hI
          clear hI hn hs
          go_simp
          exact HI.out.plain HMO.out (by decide) (Ext.refl _) rfl
        simp only [Act.put, List.setIfInBounds_toArray, List.set_cons_zero, List.set_cons_succ]
        refine ⟨fun sn u hI hn hs => ?_, ?_⟩
        · have e1 : f1 1 = .slice (some ⟨ab, ao, none⟩) L.length c := hI.facts 1 (by decide) (hs 1 (by kernel_rfl))
          have e2 : f1 2 = .int .i64 (k : Int) := hI.facts 2 (by decide) (hs 2 (by kernel_rfl))
          have HI := Lib.hid hI
          clear hI hn hs
          go_simp
          exact HI.out.plain HMO.out (by decide) (Ext.refl _) rfl
        simp only [Act.put, List.setIfInBounds_toArray, List.set_cons_zero, List.set_cons_succ]
        refine ⟨fun sn u hI hn hs => ?_, ?_⟩
        · have e3 : f1 3 = .pointer (some ⟨ab, ao + k * 4, none⟩) := hI.facts 3 (by decide) (hs 3 (by kernel_rfl))
          have HI := Lib.hid hI
          clear hI hn hs
          go_simp
          exact HI.out.plain HMO.out (by decide) (Ext.refl _) rfl
        simp only [Act.put, List.setIfInBounds_toArray, List.set_cons_zero, List.set_cons_succ]
        refine ⟨fun sn u hI hn hs => ?_, ?_⟩
        · have e4 : f1 4 = .pointer (some ⟨ab, ao + k * 4, none⟩) := hI.facts 4 (by decide) (hs 4 (by kernel_rfl))
          have hu2 := Ext.trans (Ext.drew wr) hI.x
          have q0 := ext_cell hu2 c0
          have HI := Lib.hid hI
          clear hI hn hs
          go_simp
          exact HI.out.plain HMO.out (by decide) (Ext.refl _) rfl
        simp only [Act.put, List.setIfInBounds_toArray, List.set_cons_zero, List.set_cons_succ]
        refine ⟨fun sn u hI hn hs => ?_, ?_⟩
        · have HI := Lib.hid hI
          clear hI hn hs
          go_simp
          exact HI.out.plain HMO.out (by decide) (Ext.refl _) rfl
        simp only [Act.put, List.setIfInBounds_toArray, List.set_cons_zero, List.set_cons_succ]
        refine ⟨fun sn u hI hn hs => ?_, ?_⟩
        · have HI := Lib.hid hI
          clear hI hn hs
          go_simp
          exact HI.out.plain HMO.out (by decide) (Ext.refl _) rfl
        simp only [Act.put, List.setIfInBounds_toArray, List.set_cons_zero, List.set_cons_succ]
        refine ⟨fun sn u hI hn hs => ?_, ?_⟩
        · have e6 : f1 6 = .slice (some ⟨ab, ao, none⟩) L.length c := hI.facts 6 (by decide) (hs 6 (by kernel_rfl))
          have e7 : f1 7 = .int .i64 (k : Int) := hI.facts 7 (by decide) (hs 7 (by kernel_rfl))
          have HI := Lib.hid hI
          clear hI hn hs
          go_simp
          exact HI.out.plain HMO.out (by decide) (Ext.refl _) rfl
        simp only [Act.put, List.setIfInBounds_toArray, List.set_cons_zero, List.set_cons_succ]
        refine ⟨fun sn u hI hn hs => ?_, ?_⟩
        · have e8 : f1 8 = .pointer (some ⟨ab, ao + k * 4, none⟩) := hI.facts 8 (by decide) (hs 8 (by kernel_rfl))
          have HI := Lib.hid hI
          clear hI hn hs
          go_simp
          exact HI.out.plain HMO.out (by decide) (Ext.refl _) rfl
        simp only [Act.put, List.setIfInBounds_toArray, List.set_cons_zero, List.set_cons_succ]
        refine ⟨fun sn u hI hn hs => ?_, ?_⟩
        · have e9 : f1 9 = .pointer (some ⟨ab, ao + k * 4 + 1, none⟩) := hI.facts 9 (by decide) (hs 9 (by kernel_rfl))
          have hu2 := Ext.trans (Ext.drew wr) hI.x
          have q0 := ext_cell hu2 c1
          have HI := Lib.hid hI
          clear hI hn hs
          go_simp
          exact HI.out.plain HMO.out (by decide) (Ext.refl _) rfl
        simp only [Act.put, List.setIfInBounds_toArray, List.set_cons_zero, List.set_cons_succ]
        refine ⟨fun sn u hI hn hs => ?_, ?_⟩
        · have e0 : f1 0 = .slice WA D.length wc := hI.facts 0 (by decide) (hs 0 (by kernel_rfl))
          have e5 : f1 5 = .slice p.2.kA p.1.key.length p.2.kc := hI.facts 5 (by decide) (hs 5 (by kernel_rfl))
          have e10 : f1 10 = .int .i64 p.1.seq := hI.facts 10 (by decide) (hs 10 (by kernel_rfl))
          have hu2 := Ext.trans (Ext.drew wr) hI.x
          have HI := Lib.hid hI
          clear hI hn hs
          go_simp
          refine (HGT.out _ hu2).mono ?_
          rintro y w9 ⟨hx9, g9, rfl, hm9⟩
          exact ⟨_, rfl, HI.out.plain HMO.out (by decide) hx9 ⟨g9, rfl, hm9⟩⟩
        simp only [Act.put, List.setIfInBounds_toArray, List.set_cons_zero, List.set_cons_succ]
        refine ⟨fun sn u hI hn hs => ?_, ?_⟩
        · obtain ⟨g9, e11, hm9⟩ := (show GotF p.1 (f1 11) u from hI.facts 11 (by decide) (hs 11 (by kernel_rfl)))
          have HM9 := Lib.hid hm9
          clear hm9
          have HI := Lib.hid hI
          clear hI hn hs
          go_simp
          exact HI.out.plain HMO.out (by decide) (Ext.refl _) ⟨g9, rfl, HM9.out⟩
        simp only [Act.put, List.setIfInBounds_toArray, List.set_cons_zero, List.set_cons_succ]
        refine ⟨fun sn u hI hn hs => ?_, ?_⟩
        · obtain ⟨g9, e12, hm9⟩ := (show GotF p.1 (f1 12) u from hI.facts 12 (by decide) (hs 12 (by kernel_rfl)))
          have HM9 := Lib.hid hm9
          clear hm9
          have HI := Lib.hid hI
          clear hI hn hs
          go_simp
          exact HI.out.plain HMO.out (by decide) (Ext.refl _) ⟨g9, rfl, HM9.out⟩
        simp only [Act.put, List.setIfInBounds_toArray, List.set_cons_zero, List.set_cons_succ]
        refine ⟨fun sn u hI hn hs => ?_, ?_⟩
        · obtain ⟨g9, e12, hm9⟩ := (show GotF p.1 (f1 12) u from hI.facts 12 (by decide) (hs 12 (by kernel_rfl)))
          clear hm9
          have HI := Lib.hid hI
          clear hI hn hs
          go_simp
          exact HI.out.plain HMO.out (by decide) (Ext.refl _) rfl
        simp only [Act.put, List.setIfInBounds_toArray, List.set_cons_zero, List.set_cons_succ]
        refine ⟨fun sn u hI hn hs => ?_, ?_⟩
        · have HI := Lib.hid (hI.alloc HMO.out hn)
          clear hI hn hs
          go_simp
          exact HI.out
        simp only [Act.put, List.setIfInBounds_toArray, List.set_cons_zero, List.set_cons_succ]
        refine ⟨fun sn u hI hn hs => ?_, ?_⟩
        · have k15 : sn 15 = true := hs 15 (by kernel_rfl)
          obtain ⟨g9, e13, hm9⟩ := (show OneE p.1 (f1 13) u from hI.facts 13 (by decide) (hs 13 (by kernel_rfl)))
          obtain ⟨gb, e15, _, hz, _⟩ := hI.alc k15
          have hz2 := hz hn
          unfold zc at hz2
          have q0 := cell_of hz2 (k := 0) rfl
          have q1 := cell_of hz2 (k := 1) rfl
          have q2 := cell_of hz2 (k := 2) rfl
          have q3 := cell_of hz2 (k := 3) rfl
          have z0 := frozen_four (j := 0) hz2
          have z1 := frozen_four (j := 1) hz2
          have z2 := frozen_four (j := 2) hz2
          have z3 := frozen_four (j := 3) hz2
          have HI := Lib.hid (And.intro hI (And.intro k15 hn))
          have HM9 := Lib.hid hm9
          have HZ9 := Lib.hid hz2
          have HE15 := Lib.hid e15
          unfold Ent.at_ at e13
          clear hI hn hs hz hz2 hm9 k15
          go_simp
          refine gives_store (fun U hb9 hc9 => ?_) HZ9.out
          exact BI.store HI.out.1 HSM.out (g := g9) HE15.out HI.out.2.1 HI.out.2.2 HM9.out hc9 hb9
        simp only [Act.put]
        refine ⟨fun sn u hI hn hs => ?_, ?_⟩
        · have e14 : f1 14 = .int .i64 0 := hI.facts 14 (by decide) (hs 14 (by kernel_rfl))
          have HI := Lib.hid hI
          clear hI hn hs
          go_simp
          exact HI.out.last _ rfl
        trivial
  have HX2 : Hid (Ext W w2) := Ext.trans HX1.out hx2
  have HISB := Lib.hid his
  have HWB := Lib.hid (write_any (c := cR) hgot.rs (Nat.le_refl _) hgot.capd.1 (by have := his.1.2.1; rw [List.length_map] at this; omega))
  clear hx2 his hgot
  go_wp2_with fail
  refine HWB.out.mono ?_
  rintro x w3 ⟨hx3, (⟨_, QA, qc, rfl, hown⟩ | ⟨hm, _⟩)⟩
  rotate_left
  · exact absurd HISB.out.1 hm
  rw [HISB.out.2] at hown ⊢
  have HX3 : Hid (Ext W w3) := Ext.trans HX2.out hx3
  have v1 := cv_any hown.bs
  have v2 := cv_any (HV.out.below HX3.out (Nat.le_refl _))
  have t1 := tx_same HBY.out HBY.out
  rw [decide_eq_true rfl] at t1
  clear hx3 hown HWB
  go_wp2_with fail
  refine (knum _ _).mono ?_
  rintro x _ ⟨rfl, rfl⟩
  go_wp2_with fail
  refine (knum _ _).mono ?_
  rintro x _ ⟨rfl, rfl⟩
  go_upto_region 8 with (fail)
  clear v1 v2 t1
  go_wp2_with fail
  refine (HMU.out w3 HX3.out).mono ?_
  rintro x w10 ⟨z, hz, rfl, hx10⟩
  have HX10 : Hid (Ext W w10) := Ext.trans HX3.out hx10
  have HZ := Lib.hid hz
  clear hz hx10
  rcases z with _ | _
  rotate_left
  · go_wp2_with fail
    go_ret
    exact ⟨rfl, HX10.out⟩
  have HB := Lib.hid (HZ.out rfl)
  have HWR := Lib.hid (write_any (c := c) (HES.out w10 HX10.out).1 (HES.out w10 HX10.out).2 HLC.out (by have := HB.out.1; omega))
  rw [← HLS.out] at HWR
  go_wp2_with fail
  refine HWR.out.mono ?_
  rintro x w11 ⟨hx11, (⟨hm, WA, wc, rfl, hown⟩ | ⟨hm, rfl⟩)⟩
  rotate_left
  · have HX11 : Hid (Ext W w11) := Ext.trans HX10.out hx11
    clear hx11 hm HWR
    go_wp2_with fail
    refine (knum _ _).mono ?_
    rintro x _ ⟨rfl, rfl⟩
    go_wp2_with fail
    go_ret
    exact ⟨rfl, HX11.out⟩
  have HX11 : Hid (Ext W w11) := Ext.trans HX10.out hx11
  have HM := Lib.hid hm
  obtain ⟨D, hD⟩ : ∃ D, D = wr Ls := ⟨_, rfl⟩
  have HD := Lib.hid hD
  rw [← hD] at hown ⊢
  have HDB : Hid (∀ x ∈ D, x < 256) := by rw [hD]; exact HBW.out hm
  have HDL : Hid (D.length ≤ 1000000000) := by rw [hD]; exact HWLEN.out hm
  have HIS : Hid (IsB D Ls) := ⟨hm, hD.symm⟩
  have HO := Lib.hid hown
  clear hx11 hm HWR hown hD
  go_wp2_with fail
  refine (knum _ _).mono ?_
  rintro x _ ⟨rfl, rfl⟩
  go_wp2_with fail
  refine (bread_any HO.out.bs (Nat.le_refl _) HDB.out HDL.out).mono ?_
  rintro x w12 ⟨hx12, (⟨R, X, cR, his, rfl, hgot⟩ | ⟨hno, _⟩)⟩
  rotate_left
  · exact absurd HIS.out (hno _)
  have HX12 : Hid (Ext W w12) := Ext.trans HX11.out hx12
  have HO12 := Lib.hid (HO.out.below hx12)
  have hmap : R.map Prod.fst = L.map Prod.fst := by rw [← HLS.out]; exact his.unique HIS.out
  have HMAP := Lib.hid hmap
  have hrl : R.length = L.length := by have := congrArg List.length hmap; simpa using this
  have HSL := Lib.hid (rsamelist_any (c := cR) (c2 := c) hgot.rs (HES.out w12 HX12.out).1 (Nat.le_refl _) (HES.out w12 HX12.out).2 (by have := HB.out.1; omega) (by have := HB.out.1; omega))
  clear hx12 his hgot hmap hrl
  go_wp2_with fail
  refine (knum _ _).mono ?_
  rintro x _ ⟨rfl, rfl⟩
  go_wp2_with fail
  refine HSL.out.mono ?_
  rintro x w13 ⟨y, hy, rfl, hx13⟩
  obtain rfl : y = true := hy.2 HMAP.out
  have HX13 : Hid (Ext W w13) := Ext.trans HX12.out hx13
  have HO13 := Lib.hid (HO12.out.below hx13)
  clear hx13 hy HSL
  go_wp2_with fail
  go_loopw [13, 14, 15] (fun i _ _ wr => ∃ k : Nat, k ≤ L.length ∧ i = .int .i64 (k : Int) ∧ Hid (Ext w13 wr)) (fun i _ _ _ => L.length - (intOf i).toNat)
  case atStart => exact ⟨0, Nat.zero_le _, rfl, Ext.refl _⟩
  case round =>
    obtain ⟨k, hk, rfl, HX⟩ := hrel
    have HXW : Hid (Ext W wr) := Ext.trans HX13.out HX.out
    by_cases hlt : k < L.length
    rotate_left
    · have d : decide ((k : Int) < (L.length : Int)) = false := by rw [decide_eq_false_iff_not]; exact fun h => hlt (Int.ofNat_lt.1 h)
      have dn : decide (k < L.length) = false := decide_eq_false hlt
      clear hlt hk
      go_wp2_with fail
      go_ret
      exact ⟨rfl, HXW.out⟩
    have d : decide ((k : Int) < (L.length : Int)) = true := by rw [decide_eq_true_eq]; exact Int.ofNat_lt.2 hlt
    have dn : decide (k < L.length) = true := decide_eq_true hlt
    by_cases h40 : k < 40
    rotate_left
    · have d4 : decide ((k : Int) < 40) = false := decide_eq_false (by omega)
      have d4n : decide (k < 40) = false := decide_eq_false h40
      clear hlt hk h40
      go_wp2_with fail
      go_ret
      exact ⟨rfl, HXW.out⟩
    have d4 : decide ((k : Int) < 40) = true := decide_eq_true (by omega)
    have d4n : decide (k < 40) = true := decide_eq_true h40
    obtain ⟨p, hp⟩ : ∃ p, L[k]? = some p := ⟨_, List.getElem?_eq_getElem hlt⟩
    have HP := Lib.hid hp
    have HPM := Lib.hid (List.mem_of_getElem? hp)
    have HLT := Lib.hid hlt
    obtain ⟨ab, ao, rfl⟩ := HE.out.base (by omega)
    obtain ⟨c0, c1, c2, c3⟩ := (HES.out wr HXW.out).1.get hp
    have n1 : (0 : Int) ≤ (k : Int) := Int.natCast_nonneg _
    have n2 : (k : Int) < (L.length : Int) := Int.ofNat_lt.2 hlt
    have HFS : Hid (Ls.find? (seenE p.1.key p.1.seq) = some p.1) := by
      refine find_self HM.out.2.2.1 (i := k) ?_
      rw [HLS.out, List.getElem?_map, hp]; rfl
    have HU : Hid (∀ u, Ext wr u → Bs u 0 u.heap.size (.slice WA D.length wc) D ∧ Em u 0 W.heap.size p.1 p.2 ∧ W.heap.size ≤ u.heap.size ∧ Es u 0 W.heap.size (some ⟨ab, ao, none⟩) L) := fun u hu => by
      have hx := Ext.trans HX.out hu
      have hw := HES.out u (Ext.trans HXW.out hu)
      exact ⟨(HO13.out.below hx).bs, hw.1.each p HPM.out, hw.2, hw.1⟩
    have HGT : Hid (∀ u, Ext wr u → Calls Try.prog 14 #[.slice WA D.length wc, .slice p.2.kA p.1.key.length p.2.kc, .int .i64 p.1.seq] u fun x w' => Ext u w' ∧ ∃ g : Hd, x = .returned (.tuple #[p.1.at_ g, .int .i64 0]) ∧ Em w' 0 w'.heap.size p.1 g) := fun u hu => by
      obtain ⟨h1, h2, h3, _⟩ := HU.out u hu
      refine (bget_any (s := p.1.seq) h1 (Nat.le_refl _) HDB.out HDL.out h2.k h3 h2.bk h2.s1 h2.s2).mono ?_
      rintro x w' ⟨hx, (⟨hno, _⟩ | ⟨L', hL', hm⟩)⟩
      · exact absurd HIS.out (hno _)
      · obtain rfl := hL'.unique HIS.out
        rw [HFS.out] at hm
        exact ⟨hx, hm⟩
    have HFR : Hid (∀ u, Ext wr u → Calls Try.prog 17 #[.slice WA D.length wc, .slice p.2.kA p.1.key.length p.2.kc] u fun x w' => ∃ v, x = .returned v ∧ Ext u w' ∧ FromF (Ls.drop (cutOf (belowK p.1.key) Ls)) v w') := fun u hu => by
      obtain ⟨h1, h2, h3, _⟩ := HU.out u hu
      refine (bfrom_any h1 (Nat.le_refl _) HDB.out HDL.out h2.k h3 h2.bk).mono ?_
      rintro x w' ⟨hx, bd, X, cc, S, rfl, hb, hE, hl, hin, (⟨L', hL', hs⟩ | ⟨hno, _⟩)⟩
      · obtain rfl := hL'.unique HIS.out
        exact ⟨_, rfl, hx, bd, X, cc, S, rfl, hb, hE, hl, hin, hs⟩
      · exact absurd HIS.out (hno _)
    have HRF : Hid (∀ u, Ext wr u → Calls Try.prog 18 #[.slice (some ⟨ab, ao, none⟩) L.length c, .slice p.2.kA p.1.key.length p.2.kc] u fun x w' => ∃ v, x = .returned v ∧ Ext u w' ∧ RowF (Ls.drop (cutOf (belowK p.1.key) Ls)) v w') := fun u hu => by
      obtain ⟨_, h2, h3, h4⟩ := HU.out u hu
      have hmk : ∀ q ∈ L, q.1.key.length ≤ 32 := fun q hq => (mayN_iff.1 (HM.out.2.2.2 q.1 (by rw [HLS.out]; exact List.mem_map_of_mem hq))).2.1
      refine (rfrom_any h4 h3 HLC.out (by have := HB.out.1; omega) (fun q hq => by have := hmk q hq; omega) h2.k h3 h2.bk (by have := hmk p HPM.out; omega)).mono ?_
      rintro x w' ⟨Y, d, rfl, hE, hx⟩
      refine ⟨_, rfl, hx, Y, d, _, rfl, (hE.below hx h3).wide (Nat.zero_le _) (Nat.le_trans h3 hx.size), ?_⟩
      rw [List.map_drop, ← HLS.out]
    obtain ⟨M, hM⟩ : ∃ M, M = Ls.drop (cutOf (belowK p.1.key) Ls) := ⟨_, rfl⟩
    have HML : Hid (M.length ≤ 1024) := by have := HM.out.2.1; rw [hM]; unfold Hid; rw [List.length_drop]; omega
    rw [← hM] at HFR HRF
    clear hlt hk h40 hp hM
    go_upto_region 19 with (fail)
    have HMX : Try.prog.follows .mixedOrders = true := by kernel_rfl
    have HMO : Hid (∀ F9 ∈ ([Is (.slice WA D.length wc), Is (.slice (some ⟨ab, ao, none⟩) L.length c), Is (.int .i64 (k : Int)), Is (.pointer (some ⟨ab, ao + k * 4, none⟩)), Is (.pointer (some ⟨ab, ao + k * 4, none⟩)), Is (.slice p.2.kA p.1.key.length p.2.kc), Is (.slice (some ⟨ab, ao, none⟩) L.length c), Is (.int .i64 (k : Int)), Is (.pointer (some ⟨ab, ao + k * 4, none⟩)), Is (.pointer (some ⟨ab, ao + k * 4 + 1, none⟩)), Is (.int .i64 p.1.seq), GotF p.1, GotF p.1, OneE p.1, Is (.int .i64 0)] : List (Value → World → Prop)), Mono F9) := by
      unfold Hid
      simp only [List.forall_mem_cons, List.not_mem_nil, false_imp_iff, implies_true, and_true]
      exact ⟨.is _, .is _, .is _, .is _, .is _, .is _, .is _, .is _, .is _, .is _, .is _, GotF.mono _, GotF.mono _, OneE.mono _, .is _⟩
    have HSM : Hid (∀ F9 ∈ ([Is (.slice WA D.length wc), Is (.slice (some ⟨ab, ao, none⟩) L.length c), Is (.int .i64 (k : Int)), Is (.pointer (some ⟨ab, ao + k * 4, none⟩)), Is (.pointer (some ⟨ab, ao + k * 4, none⟩)), Is (.slice p.2.kA p.1.key.length p.2.kc), Is (.slice (some ⟨ab, ao, none⟩) L.length c), Is (.int .i64 (k : Int)), Is (.pointer (some ⟨ab, ao + k * 4, none⟩)), Is (.pointer (some ⟨ab, ao + k * 4 + 1, none⟩)), Is (.int .i64 p.1.seq), GotF p.1, GotF p.1, OneE p.1, Is (.int .i64 0)] : List (Value → World → Prop)), StM F9) := by
      unfold Hid
      simp only [List.forall_mem_cons, List.not_mem_nil, false_imp_iff, implies_true, and_true]
      exact ⟨.is _, .is _, .is _, .is _, .is _, .is _, .is _, .is _, .is _, .is _, .is _, .got _, .got _, .one _, .is _⟩
    refine Fi.flow HMX (BI [Is (.slice WA D.length wc), Is (.slice (some ⟨ab, ao, none⟩) L.length c), Is (.int .i64 (k : Int)), Is (.pointer (some ⟨ab, ao + k * 4, none⟩)), Is (.pointer (some ⟨ab, ao + k * 4, none⟩)), Is (.slice p.2.kA p.1.key.length p.2.kc), Is (.slice (some ⟨ab, ao, none⟩) L.length c), Is (.int .i64 (k : Int)), Is (.pointer (some ⟨ab, ao + k * 4, none⟩)), Is (.pointer (some ⟨ab, ao + k * 4 + 1, none⟩)), Is (.int .i64 p.1.seq), GotF p.1, GotF p.1, OneE p.1, Is (.int .i64 0)] wr.drew p.1) (by kernel_rfl) (by kernel_rfl) (fun f => BI.start _ _ _ f) (fun f1 => ?obl) ?fin
    case fin =>
      intro g1 sn w5 hs hI
      simp only [puts, Act.put, List.setIfInBounds_toArray, List.set_cons_zero, List.set_cons_succ]
      obtain ⟨gb, e15, _, _, h16⟩ := hI.alc (hs 15 (by decide))
      obtain ⟨g, hb5, hm⟩ := h16 (hs 16 (by decide))
      have e17 := hI.asg (hs 17 (by decide))
      have HX5 : Hid (Ext wr w5) := Ext.trans (Ext.drew wr) hI.x
      rw [e15, e17]
      have HMU2 := Lib.hid hm
      clear hI hs e15 e17 h16 hm c0 c1 c2 c3
      go_upto_region 20 with (fail)
      have q0 := cell_of hb5 (k := 0) rfl
      have q1 := cell_of hb5 (k := 1) rfl
      have q2 := cell_of hb5 (k := 2) rfl
      have q3 := cell_of hb5 (k := 3) rfl
      obtain ⟨c0, c1, c2, c3⟩ := (HES.out w5 (Ext.trans HXW.out HX5.out)).1.get HP.out
      have HEG : Hid (∀ u2, Ext w5 u2 → Em u2 0 u2.heap.size p.1 g) := fun u2 hu2 => (HMU2.out.below hu2 (Nat.le_refl _)).wide (Nat.le_refl _) hu2.size
      clear hb5
      refine flow (by kernel_rfl) [Is (.int .i64 0), Is (.int .i64 0), Is (.bool false), Is (.bool false), Is (.agg #[.slice g.kA p.1.key.length g.kc, .int .i64 p.1.seq, .int .i64 p.1.kind, .slice g.vA p.1.val.length g.vc]), Is (.slice (some ⟨ab, ao, none⟩) L.length c), Is (.int .i64 (k : Int)), Is (.pointer (some ⟨ab, ao + k * 4, none⟩)), Is (.agg #[.slice p.2.kA p.1.key.length p.2.kc, .int .i64 p.1.seq, .int .i64 p.1.kind, .slice p.2.vA p.1.val.length p.2.vc]), Is (.bool true), Is (.bool false), Is (.bool false), Is (.bool false), Is (.slice WA D.length wc), Is (.slice (some ⟨ab, ao, none⟩) L.length c), Is (.int .i64 (k : Int)), Is (.pointer (some ⟨ab, ao + k * 4, none⟩)), Is (.pointer (some ⟨ab, ao + k * 4, none⟩)), Is (.slice p.2.kA p.1.key.length p.2.kc), FrmF M, Is (.slice (some ⟨ab, ao, none⟩) L.length c), Is (.slice (some ⟨ab, ao, none⟩) L.length c), Is (.int .i64 (k : Int)), Is (.pointer (some ⟨ab, ao + k * 4, none⟩)), Is (.pointer (some ⟨ab, ao + k * 4, none⟩)), Is (.slice p.2.kA p.1.key.length p.2.kc), RowF M, Is (.bool true), Is (.bool false), Is (.bool false)] (by kernel_rfl) (by kernel_rfl) ?mono2 (fun f2 => ?obl2) ?fin2
      case mono2 =>
        simp only [List.forall_mem_cons, List.not_mem_nil, false_imp_iff, implies_true, and_true]
        exact ⟨.is _, .is _, .is _, .is _, .is _, .is _, .is _, .is _, .is _, .is _, .is _, .is _, .is _, .is _, .is _, .is _, .is _, .is _, .is _, FrmF.mono _, .is _, .is _, .is _, .is _, .is _, .is _, RowF.mono _, .is _, .is _, .is _⟩
      case fin2 =>
        intro h1 u hu hg
        simp only [puts, Act.put, List.setIfInBounds_toArray, List.set_cons_zero, List.set_cons_succ]
        have e29 : h1 29 = .bool false := hg 29 (by decide)
        rw [e29]
        have HXZ : Hid (Ext w13 u) := Ext.trans HX.out (Ext.trans HX5.out (Ext.trans (Ext.drew w5) hu))
        clear hg hu e29 c0 c1 c2 c3 q0 q1 q2 q3
        go_wp2_with fail
        go_roundw
        case rel => exact ⟨k + 1, HLT.out, by rw [wrap_succ (by have := HLT.out; have := HB.out.1; omega)], HXZ.out⟩
        case measure => have := HLT.out; have := HB.out.1; rw [wrap_succ (by omega)]; simp [intOf]; omega
      case obl2 =>
        refine ⟨fun u hu hd => ?_, ?_⟩
        · go_simp
          exact ⟨Ext.refl _, rfl⟩
        refine ⟨fun u hu hd => ?_, ?_⟩
        · simp only [Act.put, List.setIfInBounds_toArray, List.set_cons_zero, List.set_cons_succ]
          have e0 : f2 0 = .int .i64 0 := hd 0 (by kernel_rfl)
          go_simp
          refine (knum _ _).mono ?_
          rintro x9 w9 ⟨rfl, rfl⟩
          exact ⟨_, rfl, Ext.refl _, rfl⟩
        refine ⟨fun u hu hd => ?_, ?_⟩
        · simp only [Act.put, List.setIfInBounds_toArray, List.set_cons_zero, List.set_cons_succ]
          have e1 : f2 1 = .int .i64 0 := hd 1 (by kernel_rfl)
          go_simp
          exact ⟨Ext.refl _, rfl⟩
        refine ⟨fun u hu hd => ?_, ?_⟩
        · simp only [Act.put, List.setIfInBounds_toArray, List.set_cons_zero, List.set_cons_succ]
          have e2 : f2 2 = .bool false := hd 2 (by kernel_rfl)
          go_simp
          exact ⟨Ext.refl _, rfl⟩
        refine ⟨fun u hu hd => ?_, ?_⟩
        · simp only [Act.put, List.setIfInBounds_toArray, List.set_cons_zero, List.set_cons_succ]
          have e3 : f2 3 = .bool false := hd 3 (by kernel_rfl)
          have hu2 := Ext.trans (Ext.drew w5) hu
          have q0 := ext_cell hu2 q0
          have q1 := ext_cell hu2 q1
          have q2 := ext_cell hu2 q2
          have q3 := ext_cell hu2 q3
          go_simp
          exact ⟨Ext.refl _, rfl⟩
        refine ⟨fun u hu hd => ?_, ?_⟩
        · simp only [Act.put, List.setIfInBounds_toArray, List.set_cons_zero, List.set_cons_succ]
          have e3 : f2 3 = .bool false := hd 3 (by kernel_rfl)
          go_simp
          exact ⟨Ext.refl _, rfl⟩
        refine ⟨fun u hu hd => ?_, ?_⟩
        · simp only [Act.put, List.setIfInBounds_toArray, List.set_cons_zero, List.set_cons_succ]
          have e3 : f2 3 = .bool false := hd 3 (by kernel_rfl)
          go_simp
          exact ⟨Ext.refl _, rfl⟩
        refine ⟨fun u hu hd => ?_, ?_⟩
        · simp only [Act.put, List.setIfInBounds_toArray, List.set_cons_zero, List.set_cons_succ]
          have e3 : f2 3 = .bool false := hd 3 (by kernel_rfl)
          have e5 : f2 5 = .slice (some ⟨ab, ao, none⟩) L.length c := hd 5 (by kernel_rfl)
          have e6 : f2 6 = .int .i64 (k : Int) := hd 6 (by kernel_rfl)
          go_simp
          exact ⟨Ext.refl _, rfl⟩
        refine ⟨fun u hu hd => ?_, ?_⟩
        · simp only [Act.put, List.setIfInBounds_toArray, List.set_cons_zero, List.set_cons_succ]
          have e3 : f2 3 = .bool false := hd 3 (by kernel_rfl)
          have e7 : f2 7 = .pointer (some ⟨ab, ao + k * 4, none⟩) := hd 7 (by kernel_rfl)
          have hu2 := Ext.trans (Ext.drew w5) hu
          have q0 := ext_cell hu2 c0
          have q1 := ext_cell hu2 c1
          have q2 := ext_cell hu2 c2
          have q3 := ext_cell hu2 c3
          go_simp
          exact ⟨Ext.refl _, rfl⟩
        refine ⟨fun u hu hd => ?_, ?_⟩
        · simp only [Act.put, List.setIfInBounds_toArray, List.set_cons_zero, List.set_cons_succ]
          have e3 : f2 3 = .bool false := hd 3 (by kernel_rfl)
          have e4 : f2 4 = .agg #[.slice g.kA p.1.key.length g.kc, .int .i64 p.1.seq, .int .i64 p.1.kind, .slice g.vA p.1.val.length g.vc] := hd 4 (by kernel_rfl)
          have e8 : f2 8 = .agg #[.slice p.2.kA p.1.key.length p.2.kc, .int .i64 p.1.seq, .int .i64 p.1.kind, .slice p.2.vA p.1.val.length p.2.vc] := hd 8 (by kernel_rfl)
          have hu2 := Ext.trans (Ext.drew w5) hu
          have hp2 := HU.out _ (Ext.trans HX5.out hu2)
          have HR9 := Lib.hid (rsame_any (HEG.out _ hu2) hp2.2.1 (Nat.le_refl _) hp2.2.2.1)
          unfold Ent.at_ at HR9
          clear hp2
          go_simp
          refine HR9.out.mono ?_
          rintro x9 w9 ⟨z, hz, rfl, hx9⟩
          obtain rfl : z = true := hz.2 rfl
          exact ⟨_, rfl, hx9, rfl⟩
        refine ⟨fun u hu hd => ?_, ?_⟩
        · simp only [Act.put, List.setIfInBounds_toArray, List.set_cons_zero, List.set_cons_succ]
          have e3 : f2 3 = .bool false := hd 3 (by kernel_rfl)
          have e9 : f2 9 = .bool true := hd 9 (by kernel_rfl)
          go_simp
          exact ⟨Ext.refl _, rfl⟩
        refine ⟨fun u hu hd => ?_, ?_⟩
        · simp only [Act.put, List.setIfInBounds_toArray, List.set_cons_zero, List.set_cons_succ]
          have e3 : f2 3 = .bool false := hd 3 (by kernel_rfl)
          have e10 : f2 10 = .bool false := hd 10 (by kernel_rfl)
          go_simp
          exact ⟨Ext.refl _, rfl⟩
        refine ⟨fun u hu hd => ?_, ?_⟩
        · simp only [Act.put, List.setIfInBounds_toArray, List.set_cons_zero, List.set_cons_succ]
          have e11 : f2 11 = .bool false := hd 11 (by kernel_rfl)
          go_simp
          exact ⟨Ext.refl _, rfl⟩
        refine ⟨fun u hu hd => ?_, ?_⟩
        · simp only [Act.put, List.setIfInBounds_toArray, List.set_cons_zero, List.set_cons_succ]
          have e12 : f2 12 = .bool false := hd 12 (by kernel_rfl)
          go_simp
          exact ⟨Ext.refl _, rfl⟩
        refine ⟨fun u hu hd => ?_, ?_⟩
        · simp only [Act.put, List.setIfInBounds_toArray, List.set_cons_zero, List.set_cons_succ]
          have e12 : f2 12 = .bool false := hd 12 (by kernel_rfl)
          go_simp
          exact ⟨Ext.refl _, rfl⟩
        refine ⟨fun u hu hd => ?_, ?_⟩
        · simp only [Act.put, List.setIfInBounds_toArray, List.set_cons_zero, List.set_cons_succ]
          have e12 : f2 12 = .bool false := hd 12 (by kernel_rfl)
          go_simp
          exact ⟨Ext.refl _, rfl⟩
        refine ⟨fun u hu hd => ?_, ?_⟩
        · simp only [Act.put, List.setIfInBounds_toArray, List.set_cons_zero, List.set_cons_succ]
          have e12 : f2 12 = .bool false := hd 12 (by kernel_rfl)
          have e14 : f2 14 = .slice (some ⟨ab, ao, none⟩) L.length c := hd 14 (by kernel_rfl)
          have e15 : f2 15 = .int .i64 (k : Int) := hd 15 (by kernel_rfl)
          go_simp
          exact ⟨Ext.refl _, rfl⟩
        refine ⟨fun u hu hd => ?_, ?_⟩
        · simp only [Act.put, List.setIfInBounds_toArray, List.set_cons_zero, List.set_cons_succ]
          have e12 : f2 12 = .bool false := hd 12 (by kernel_rfl)
          have e16 : f2 16 = .pointer (some ⟨ab, ao + k * 4, none⟩) := hd 16 (by kernel_rfl)
          go_simp
          exact ⟨Ext.refl _, rfl⟩
        refine ⟨fun u hu hd => ?_, ?_⟩
        · simp only [Act.put, List.setIfInBounds_toArray, List.set_cons_zero, List.set_cons_succ]
          have e12 : f2 12 = .bool false := hd 12 (by kernel_rfl)
          have e17 : f2 17 = .pointer (some ⟨ab, ao + k * 4, none⟩) := hd 17 (by kernel_rfl)
          have hu2 := Ext.trans (Ext.drew w5) hu
          have q0 := ext_cell hu2 c0
          go_simp
          exact ⟨Ext.refl _, rfl⟩
        refine ⟨fun u hu hd => ?_, ?_⟩
        · simp only [Act.put, List.setIfInBounds_toArray, List.set_cons_zero, List.set_cons_succ]
          have e12 : f2 12 = .bool false := hd 12 (by kernel_rfl)
          have e13 : f2 13 = .slice WA D.length wc := hd 13 (by kernel_rfl)
          have e18 : f2 18 = .slice p.2.kA p.1.key.length p.2.kc := hd 18 (by kernel_rfl)
          have hu2 := Ext.trans (Ext.drew w5) hu
          go_simp
          refine (HFR.out _ (Ext.trans HX5.out hu2)).mono ?_
          rintro x9 w9 ⟨v9, rfl, hx9, hf9⟩
          exact ⟨_, rfl, hx9, hf9⟩
        refine ⟨fun u hu hd => ?_, ?_⟩
        · simp only [Act.put, List.setIfInBounds_toArray, List.set_cons_zero, List.set_cons_succ]
          have e12 : f2 12 = .bool false := hd 12 (by kernel_rfl)
          go_simp
          exact ⟨Ext.refl _, rfl⟩
        refine ⟨fun u hu hd => ?_, ?_⟩
        · simp only [Act.put, List.setIfInBounds_toArray, List.set_cons_zero, List.set_cons_succ]
          have e12 : f2 12 = .bool false := hd 12 (by kernel_rfl)
          go_simp
          exact ⟨Ext.refl _, rfl⟩
        refine ⟨fun u hu hd => ?_, ?_⟩
        · simp only [Act.put, List.setIfInBounds_toArray, List.set_cons_zero, List.set_cons_succ]
          have e12 : f2 12 = .bool false := hd 12 (by kernel_rfl)
          go_simp
          exact ⟨Ext.refl _, rfl⟩
        refine ⟨fun u hu hd => ?_, ?_⟩
        · simp only [Act.put, List.setIfInBounds_toArray, List.set_cons_zero, List.set_cons_succ]
          have e12 : f2 12 = .bool false := hd 12 (by kernel_rfl)
          have e21 : f2 21 = .slice (some ⟨ab, ao, none⟩) L.length c := hd 21 (by kernel_rfl)
          have e22 : f2 22 = .int .i64 (k : Int) := hd 22 (by kernel_rfl)
          go_simp
          exact ⟨Ext.refl _, rfl⟩
        refine ⟨fun u hu hd => ?_, ?_⟩
        · simp only [Act.put, List.setIfInBounds_toArray, List.set_cons_zero, List.set_cons_succ]
          have e12 : f2 12 = .bool false := hd 12 (by kernel_rfl)
          have e23 : f2 23 = .pointer (some ⟨ab, ao + k * 4, none⟩) := hd 23 (by kernel_rfl)
          go_simp
          exact ⟨Ext.refl _, rfl⟩
        refine ⟨fun u hu hd => ?_, ?_⟩
        · simp only [Act.put, List.setIfInBounds_toArray, List.set_cons_zero, List.set_cons_succ]
          have e12 : f2 12 = .bool false := hd 12 (by kernel_rfl)
          have e24 : f2 24 = .pointer (some ⟨ab, ao + k * 4, none⟩) := hd 24 (by kernel_rfl)
          have hu2 := Ext.trans (Ext.drew w5) hu
          have q0 := ext_cell hu2 c0
          go_simp
          exact ⟨Ext.refl _, rfl⟩
        refine ⟨fun u hu hd => ?_, ?_⟩
        · simp only [Act.put, List.setIfInBounds_toArray, List.set_cons_zero, List.set_cons_succ]
          have e12 : f2 12 = .bool false := hd 12 (by kernel_rfl)
          have e20 : f2 20 = .slice (some ⟨ab, ao, none⟩) L.length c := hd 20 (by kernel_rfl)
          have e25 : f2 25 = .slice p.2.kA p.1.key.length p.2.kc := hd 25 (by kernel_rfl)
          have hu2 := Ext.trans (Ext.drew w5) hu
          go_simp
          refine (HRF.out _ (Ext.trans HX5.out hu2)).mono ?_
          rintro x9 w9 ⟨v9, rfl, hx9, hf9⟩
          exact ⟨_, rfl, hx9, hf9⟩
        refine ⟨fun u hu hd => ?_, ?_⟩
        · simp only [Act.put, List.setIfInBounds_toArray, List.set_cons_zero, List.set_cons_succ]
          have e12 : f2 12 = .bool false := hd 12 (by kernel_rfl)
          obtain ⟨bd9, X9, c9, S9, e19, hbx9, hes9, hl9, hin9, hmp9⟩ := (show FrmF M (f2 19) u from hd 19 (by kernel_rfl))
          obtain ⟨Y9, d9, T9, e26, ht9, hmt9⟩ := (show RowF M (f2 26) u from hd 26 (by kernel_rfl))
          have HG9 := Lib.hid (kgoes.goes_over (most := 0) (d := d9) hbx9 hes9 hl9 hin9 ht9 (by have := congrArg List.length hmt9; rw [List.length_map] at this; have := HML.out; omega) (hmp9.trans hmt9.symm))
          clear hbx9 hes9 hl9 hin9 ht9 hmp9 hmt9
          go_simp
          refine HG9.out.mono ?_
          rintro x9 w9 ⟨rfl, hb9⟩
          exact ⟨_, rfl, hb9, rfl⟩
        refine ⟨fun u hu hd => ?_, ?_⟩
        · simp only [Act.put, List.setIfInBounds_toArray, List.set_cons_zero, List.set_cons_succ]
          have e12 : f2 12 = .bool false := hd 12 (by kernel_rfl)
          have e27 : f2 27 = .bool true := hd 27 (by kernel_rfl)
          go_simp
          exact ⟨Ext.refl _, rfl⟩
        refine ⟨fun u hu hd => ?_, ?_⟩
        · simp only [Act.put, List.setIfInBounds_toArray, List.set_cons_zero, List.set_cons_succ]
          have e12 : f2 12 = .bool false := hd 12 (by kernel_rfl)
          have e28 : f2 28 = .bool false := hd 28 (by kernel_rfl)
          go_simp
          exact ⟨Ext.refl _, rfl⟩
        trivial
    case obl =>
      refine ⟨fun sn u hI hn hs => ?_, ?_⟩
      · have HI := Lib.hid hI
        clear hI hn hs
        go_simp
        exact HI.out.plain HMO.out (by decide) (Ext.refl _) rfl
      simp only [Act.put, List.setIfInBounds_toArray, List.set_cons_zero, List.set_cons_succ]
      refine ⟨fun sn u hI hn hs => ?_, ?_⟩
      · have HI := Lib.hid hI
        clear hI hn hs
        go_simp
        exact HI.out.plain HMO.out (by decide) (Ext.refl _) rfl
      simp only [Act.put, List.setIfInBounds_toArray, List.set_cons_zero, List.set_cons_succ]
      refine ⟨fun sn u hI hn hs => ?_, ?_⟩
      · have HI := Lib.hid hI
        clear hI hn hs
        go_simp
        exact HI.out.plain HMO.out (by decide) (Ext.refl _) rfl
      simp only [Act.put, List.setIfInBounds_toArray, List.set_cons_zero, List.set_cons_succ]
      refine ⟨fun sn u hI hn hs => ?_, ?_⟩
      · have e1 : f1 1 = .slice (some ⟨ab, ao, none⟩) L.length c := hI.facts 1 (by decide) (hs 1 (by kernel_rfl))
        have e2 : f1 2 = .int .i64 (k : Int) := hI.facts 2 (by decide) (hs 2 (by kernel_rfl))
        have HI := Lib.hid hI
        clear hI hn hs
        go_simp
        exact HI.out.plain HMO.out (by decide) (Ext.refl _) rfl
      simp only [Act.put, List.setIfInBounds_toArray, List.set_cons_zero, List.set_cons_succ]
      refine ⟨fun sn u hI hn hs => ?_, ?_⟩
      · have e3 : f1 3 = .pointer (some ⟨ab, ao + k * 4, none⟩) := hI.facts 3 (by decide) (hs 3 (by kernel_rfl))
        have HI := Lib.hid hI
        clear hI hn hs
        go_simp
        exact HI.out.plain HMO.out (by decide) (Ext.refl _) rfl
      simp only [Act.put, List.setIfInBounds_toArray, List.set_cons_zero, List.set_cons_succ]
      refine ⟨fun sn u hI hn hs => ?_, ?_⟩
      · have e4 : f1 4 = .pointer (some ⟨ab, ao + k * 4, none⟩) := hI.facts 4 (by decide) (hs 4 (by kernel_rfl))
        have hu2 := Ext.trans (Ext.drew wr) hI.x
        have q0 := ext_cell hu2 c0
        have HI := Lib.hid hI
        clear hI hn hs
        go_simp
        exact HI.out.plain HMO.out (by decide) (Ext.refl _) rfl
      simp only [Act.put, List.setIfInBounds_toArray, List.set_cons_zero, List.set_cons_succ]
      refine ⟨fun sn u hI hn hs => ?_, ?_⟩
      · have HI := Lib.hid hI
        clear hI hn hs
        go_simp
        exact HI.out.plain HMO.out (by decide) (Ext.refl _) rfl
      simp only [Act.put, List.setIfInBounds_toArray, List.set_cons_zero, List.set_cons_succ]
      refine ⟨fun sn u hI hn hs => ?_, ?_⟩
      · have HI := Lib.hid hI
        clear hI hn hs
        go_simp
        exact HI.out.plain HMO.out (by decide) (Ext.refl _) rfl
      simp only [Act.put, List.setIfInBounds_toArray, List.set_cons_zero, List.set_cons_succ]
      refine ⟨fun sn u hI hn hs => ?_, ?_⟩
      · have e6 : f1 6 = .slice (some ⟨ab, ao, none⟩) L.length c := hI.facts 6 (by decide) (hs 6 (by kernel_rfl))
        have e7 : f1 7 = .int .i64 (k : Int) := hI.facts 7 (by decide) (hs 7 (by kernel_rfl))
        have HI := Lib.hid hI
        clear hI hn hs
        go_simp
        exact HI.out.plain HMO.out (by decide) (Ext.refl _) rfl
      simp only [Act.put, List.setIfInBounds_toArray, List.set_cons_zero, List.set_cons_succ]
      refine ⟨fun sn u hI hn hs => ?_, ?_⟩
      · have e8 : f1 8 = .pointer (some ⟨ab, ao + k * 4, none⟩) := hI.facts 8 (by decide) (hs 8 (by kernel_rfl))
        have HI := Lib.hid hI
        clear hI hn hs
        go_simp
        exact HI.out.plain HMO.out (by decide) (Ext.refl _) rfl
      simp only [Act.put, List.setIfInBounds_toArray, List.set_cons_zero, List.set_cons_succ]
      refine ⟨fun sn u hI hn hs => ?_, ?_⟩
      · have e9 : f1 9 = .pointer (some ⟨ab, ao + k * 4 + 1, none⟩) := hI.facts 9 (by decide) (hs 9 (by kernel_rfl))
        have hu2 := Ext.trans (Ext.drew wr) hI.x
        have q0 := ext_cell hu2 c1
        have HI := Lib.hid hI
        clear hI hn hs
        go_simp
        exact HI.out.plain HMO.out (by decide) (Ext.refl _) rfl
      simp only [Act.put, List.setIfInBounds_toArray, List.set_cons_zero, List.set_cons_succ]
      refine ⟨fun sn u hI hn hs => ?_, ?_⟩
      · have e0 : f1 0 = .slice WA D.length wc := hI.facts 0 (by decide) (hs 0 (by kernel_rfl))
        have e5 : f1 5 = .slice p.2.kA p.1.key.length p.2.kc := hI.facts 5 (by decide) (hs 5 (by kernel_rfl))
        have e10 : f1 10 = .int .i64 p.1.seq := hI.facts 10 (by decide) (hs 10 (by kernel_rfl))
        have hu2 := Ext.trans (Ext.drew wr) hI.x
        have HI := Lib.hid hI
        clear hI hn hs
        go_simp
        refine (HGT.out _ hu2).mono ?_
        rintro y w9 ⟨hx9, g9, rfl, hm9⟩
        exact ⟨_, rfl, HI.out.plain HMO.out (by decide) hx9 ⟨g9, rfl, hm9⟩⟩
      simp only [Act.put, List.setIfInBounds_toArray, List.set_cons_zero, List.set_cons_succ]
      refine ⟨fun sn u hI hn hs => ?_, ?_⟩
      · obtain ⟨g9, e11, hm9⟩ := (show GotF p.1 (f1 11) u from hI.facts 11 (by decide) (hs 11 (by kernel_rfl)))
        have HM9 := Lib.hid hm9
        clear hm9
        have HI := Lib.hid hI
        clear hI hn hs
        go_simp
        exact HI.out.plain HMO.out (by decide) (Ext.refl _) ⟨g9, rfl, HM9.out⟩
      simp only [Act.put, List.setIfInBounds_toArray, List.set_cons_zero, List.set_cons_succ]
      refine ⟨fun sn u hI hn hs => ?_, ?_⟩
      · obtain ⟨g9, e12, hm9⟩ := (show GotF p.1 (f1 12) u from hI.facts 12 (by decide) (hs 12 (by kernel_rfl)))
        have HM9 := Lib.hid hm9
        clear hm9
        have HI := Lib.hid hI
        clear hI hn hs
        go_simp
        exact HI.out.plain HMO.out (by decide) (Ext.refl _) ⟨g9, rfl, HM9.out⟩
      simp only [Act.put, List.setIfInBounds_toArray, List.set_cons_zero, List.set_cons_succ]
      refine ⟨fun sn u hI hn hs => ?_, ?_⟩
      · obtain ⟨g9, e12, hm9⟩ := (show GotF p.1 (f1 12) u from hI.facts 12 (by decide) (hs 12 (by kernel_rfl)))
        clear hm9
        have HI := Lib.hid hI
        clear hI hn hs
        go_simp
        exact HI.out.plain HMO.out (by decide) (Ext.refl _) rfl
      simp only [Act.put, List.setIfInBounds_toArray, List.set_cons_zero, List.set_cons_succ]
      refine ⟨fun sn u hI hn hs => ?_, ?_⟩
      · have HI := Lib.hid (hI.alloc HMO.out hn)
        clear hI hn hs
        go_simp
        exact HI.out
      simp only [Act.put, List.setIfInBounds_toArray, List.set_cons_zero, List.set_cons_succ]
      refine ⟨fun sn u hI hn hs => ?_, ?_⟩
      · have k15 : sn 15 = true := hs 15 (by kernel_rfl)
        obtain ⟨g9, e13, hm9⟩ := (show OneE p.1 (f1 13) u from hI.facts 13 (by decide) (hs 13 (by kernel_rfl)))
        obtain ⟨gb, e15, _, hz, _⟩ := hI.alc k15
        have hz2 := hz hn
        unfold zc at hz2
        have q0 := cell_of hz2 (k := 0) rfl
        have q1 := cell_of hz2 (k := 1) rfl
        have q2 := cell_of hz2 (k := 2) rfl
        have q3 := cell_of hz2 (k := 3) rfl
        have z0 := frozen_four (j := 0) hz2
        have z1 := frozen_four (j := 1) hz2
        have z2 := frozen_four (j := 2) hz2
        have z3 := frozen_four (j := 3) hz2
        have HI := Lib.hid (And.intro hI (And.intro k15 hn))
        have HM9 := Lib.hid hm9
        have HZ9 := Lib.hid hz2
        have HE15 := Lib.hid e15
        unfold Ent.at_ at e13
        clear hI hn hs hz hz2 hm9 k15
        go_simp
        refine gives_store (fun U hb9 hc9 => ?_) HZ9.out
        exact BI.store HI.out.1 HSM.out (g := g9) HE15.out HI.out.2.1 HI.out.2.2 HM9.out hc9 hb9
      simp only [Act.put]
      refine ⟨fun sn u hI hn hs => ?_, ?_⟩
      · have e14 : f1 14 = .int .i64 0 := hI.facts 14 (by decide) (hs 14 (by kernel_rfl))
        have HI := Lib.hid hI
        clear hI hn hs
        go_simp
        exact HI.out.last _ rfl
      trivial
end Go.Proofs.Ytddfelahpiokjaa.kback

/- BlockBack: from the walk to the statement. For every input the law answers true and leaves its arguments as they were. -/
namespace Go.Proofs.Ytddfelahpiokjaa.kback
open Go.ChangeShapes Go.WideShapes Go.ChangeAt Go.RowKit
set_option linter.unusedVariables false

set_option maxRecDepth 100000 in
theorem lifted (os : Os) (started : os.Started) (H : Type) (enc : TypeId × Value → H) :
    ReturnsInHanded {} Try.checked os 4 .any (Rows.blockBackSpec.pre6 enc Try.prog Try.f4 Rows.blockBackRow.domain false) (Rows.blockBackSpec.post enc Try.prog Try.f4 false true false false) := by
  refine returnsInHanded_of_change_sized (C := Try.checked) own started (by kernel_rfl) Try.func4
    (ChangeSpec.witness6 (enc := enc) (C := Try.checked) false ⟨#[], #[.slice none 0 0, .slice none 0 0], []⟩ 8 (by kernel_rfl) (by kernel_rfl) (by kernel_rfl) (by kernel_rfl)) ?_
  intro W base args ds gs before hval0 hW hcnd hsz0 _
  have hsz : (DataW.weightsEach Try.prog (Try.f4.params.toList ++ Rows.blockBackSpec.plain.varTypes Try.prog) (ds ++ gs)).all (· ≤ reachBytes) = true := hsz0
  have hval : ∀ (j : Nat) t v, Try.f4.params[j]? = some t → args[j]? = some v → Value.okWide Try.prog W .any base t v := hval0
  have hW' := hW
  obtain ⟨p, q, hA0, hV, rfl, hfz, hnd⟩ := hW
  have hA : DataW.TrodAll enc Try.prog W 0 (fun _ => true) true Try.f4.params.toList args.toList ds p := hA0
  rw [Try.params4] at hA hval hsz
  obtain ⟨v0, vs0, d0, ds0, p0, q0, hargs, rfl, rfl, h0, r0⟩ := trodAll_cons hA
  obtain ⟨v1, vs1, d1, ds1, p1, q1, rfl, rfl, rfl, h1, r1⟩ := trodAll_cons r0
  obtain ⟨rfl, rfl, rfl⟩ := trodAll_nil r1
  obtain rfl : args = #[v0, v1] := by cases args; simp_all
  obtain ⟨rfl, rfl⟩ := trodVars_none hV
  have k0 := h0
  have lt0 : ∀ x ∈ p0, x.block < W.heap.size := by obtain ⟨m, hm⟩ := k0; exact DataW.trod_lt m _ _ _ hm
  obtain ⟨A0, c0, L0, rfl, x0, y0, m0, z0, n0⟩ := open_entries (hval 0 24 v0 rfl rfl) h0 hsz (jj := 0) rfl rfl
  have k1 := h1
  have lt1 : ∀ x ∈ p1, x.block < W.heap.size := by obtain ⟨m, hm⟩ := k1; exact DataW.trod_lt m _ _ _ hm
  obtain ⟨l1, y1, b1⟩ := open_bytes (hval 1 22 v1 rfl rfl) h1
  clear hA0 hval0 hsz0
  refine (walk W A0 c0 L0 x0 y0 m0 z0 n0 v1 l1 b1 y1).mono fun e W' ⟨he, bel⟩ => ?_
  subst he
  exact ⟨_, rfl, _, _, _, [], _, [], hW', trodAll_mk1 (shut_bool Try.underlying4 _), (trodAll_cons_mk (Below.trod laidOut (by kernel_rfl) (of_decide_eq_true (by kernel_rfl)) k0 bel lt0) (trodAll_cons_mk (Below.trod laidOut (by kernel_rfl) (of_decide_eq_true (by kernel_rfl)) k1 bel lt1) trodAll_mk0)), rfl, bel.frame _, fun h => by cases h⟩

theorem over : Rows.blockBackRow.holds Try.pinned (OpenSpec.ofChange Rows.blockBackSpec) :=
  OpenClaim.holds_of_wide 4 Try.f4 rfl rfl rfl rfl rfl rfl rfl ⟨rfl, rfl, rfl, rfl, rfl⟩ rfl rfl rfl rfl rfl (by kernel_rfl) Try.func4 (by kernel_rfl)
    (of_decide_eq_true (by kernel_rfl)) (by unfold Func.isWrapper; first | (rw [if_pos (by decide +kernel)]; kernel_rfl) | (rw [if_neg (by decide +kernel)]; exact ⟨rfl, rfl⟩))
    (fun os started H enc _ => lifted os started H enc)

theorem proved : Rows.BlockBackSaid := over
end Go.Proofs.Ytddfelahpiokjaa.kback
