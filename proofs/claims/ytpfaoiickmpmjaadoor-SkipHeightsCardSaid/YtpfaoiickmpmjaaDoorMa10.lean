/- Sknown Lsheights Iargs Psheights, joined. -/
import Derived.Test.YtpfaoiickmpmjaaDoorMa9
import Derived.Lib.SlBytesConst
import Derived.Lib.SmallJoins
import Derived.Test.YtpfaoiickmpmjaaDoorMa5
import Derived.SizedLaws
import Derived.Deep.Slices
import Derived.Test.YtpfaoiickmpmjaaDoorCards
import Derived.Test.YtpfaoiickmpmjaaDoorTie
import Derived.WalkKit
import Derived.ProofKit
import Derived.OpenShut
import Derived.Deep.DeepHandedRow
import Derived.Lib.LaidTab

/- The chapter's rows, which every law of layer 6 asks. -/
namespace Go.Proofs.YtpfaoiickmpmjaaDoor
open Go.ChangeShapes Go.WideShapes Go.ChangeAt Go.RowKit Go.Shelf Go.Lib Go.Joins

theorem bs_mark (w : World) (l : List Nat) (hl : l.length ≤ 100) (fr : Nat × Nat) : Bs (w.alloc (.cells (bv l).toArray 5 fr)) w.heap.size (w.heap.size + 1) (.slice (some ⟨w.heap.size, 0, none⟩) l.length l.length) l := by
  refine ⟨_, _, rfl, Nat.le_refl _, by simp [maxLen]; omega, (fun h => by cases h), .inr ⟨w.heap.size, 0, rfl, Nat.le_refl _, Nat.lt_succ_self _, fun i u hu => ?_⟩⟩
  rw [cell_alloc_mark_at _ _ _ _ _ _ rfl, Nat.zero_add]
  simpa using hu
theorem bl_bs {u : World} {b : Nat} {l : List Nat} {fz : Nat × Nat} (hl : l.length ≤ 100) (h : u.heap[b]? = some (.cells (bv l).toArray 5 fz)) : Bs u 0 u.heap.size (.slice (some ⟨b, 0, none⟩) l.length l.length) l := by
  refine ⟨_, _, rfl, Nat.le_refl _, by simp [maxLen]; omega, (fun h => by cases h), .inr ⟨b, 0, rfl, Nat.zero_le _, (Array.getElem?_eq_some_iff.1 h).1, fun i x hx => ?_⟩⟩
  rw [Nat.zero_add]
  unfold World.cell?
  rw [h]
  simpa using hx
theorem lit_any {e : Ent} {k : List Nat} {kb : ByteArray} {s : Int} (he : e = ⟨k, s, 1, []⟩) (hkb : kb = tx k) (hk : ∀ x ∈ k, x < 256) (hkl : k.length ≤ 1000) (h1 : 0 ≤ s) (h2 : s ≤ 1000) (w : World) :
    Calls Tryd.prog 35 #[.string kb, .int .i64 s] w (LitAns w e) := by
  subst he hkb
  exact lput_any k s hk hkl (by omega) (by omega) w
theorem one_es {u : World} {b : Nat} {e : Ent} {g : Hd} (h : u.heap[b]? = some (.cells (ecells (e, g)).toArray 40 (0, 0))) (hm : Em u 0 u.heap.size e g) : Es u 0 u.heap.size (some ⟨b, 0, none⟩) [(e, g)] := by
  refine ⟨.inr ⟨b, 0, rfl, Nat.zero_le _, (Array.getElem?_eq_some_iff.1 h).1, fun i x hx => ?_⟩, fun p hp => by rw [List.mem_singleton] at hp; subst hp; exact hm⟩
  rw [Nat.zero_add]
  exact cell_of h (by simpa [erow] using hx)

/-- Facts of known's last region. -/
def LitF (e : Ent) (v : Value) (u : World) : Prop := ∃ g : Hd, v = e.at_ g ∧ Em u 0 u.heap.size e g
def BlF (B : Nat) (l : List Nat) (v : Value) (u : World) : Prop := ∃ (b : Nat) (fz : Nat × Nat), v = .slice (some ⟨b, 0, none⟩) l.length l.length ∧ B ≤ b ∧ u.heap[b]? = some (.cells (bv l).toArray 5 fz)
def FromF (_B lb : Nat) (key : List Nat) (v : Value) (u : World) : Prop := FromRaw u lb key v
def OneF (e : Ent) (v : Value) (u : World) : Prop := ∃ (g : Hd) (b : Nat), v = .slice (some ⟨b, 0, none⟩) 1 1 ∧ u.heap[b]? = some (.cells (ecells (e, g)).toArray 40 (0, 0)) ∧ Em u 0 u.heap.size e g
theorem Fr.Mono.lit (B : Nat) (e : Ent) : Fr.Mono (MarkR B) (LitF e) := fun _ _ _ ⟨g, h, m⟩ hu => ⟨g, h, (mark_em hu m).wide (Nat.le_refl _) hu.2.2.2.1⟩
theorem Fr.Mono.bl (C B : Nat) (l : List Nat) : Fr.Mono (MarkR C) (BlF B l) := fun _ u u' ⟨b, fz, h, hB, hb⟩ hu => by
  rcases hu.2.2.2.2 b (Array.getElem?_eq_some_iff.1 hb).1 with h' | ⟨_, x, f, f', hx, hx'⟩
  · exact ⟨b, fz, h, hB, h'.trans hb⟩
  · rw [hb] at hx
    injection hx with hx
    injection hx with q1 _ _
    subst q1
    exact ⟨b, f', h, hB, hx'⟩
theorem Fr.Mono.from_ (C B : Nat) (lb : Nat) {key : List Nat} : Fr.Mono (MarkR C) (FromF B lb key) := fun _ _ _ h hu => FromRaw.mark h hu
theorem Fr.Mono.one (B : Nat) (e : Ent) : Fr.Mono (MarkR B) (OneF e) := fun _ _ _ ⟨g, b, h, hb, m⟩ hu => ⟨g, b, h, mark_heap hu hb (.inr fun _ _ e => by injection e with _ e _; exact absurd e (by decide)), (mark_em hu m).wide (Nat.le_refl _) hu.2.2.2.1⟩

/-- A list whose blocks lie from B on. -/
def SkB (B : Nat) (w : World) (lb hb : Nat) (T : List Tw) : Prop := Sk w (fun k => B ≤ k ∧ k < w.heap.size) lb hb T
theorem SkB.of {B : Nat} {w : World} {D : Nat → Prop} {lb hb : Nat} {T : List Tw} (h : Sk w D lb hb T) (hD : ∀ k, k < w.heap.size → D k → B ≤ k) : SkB B w lb hb T := Sk.wide h fun k hk hd => ⟨hD k hk hd, hk⟩
theorem SkB.ext {B : Nat} {w w' : World} {lb hb : Nat} {T : List Tw} (h : SkB B w lb hb T) (hx : Ext w w') : SkB B w' lb hb T := SkB.of (Sk.ext h hx) fun _ _ hd => hd.1
theorem Tab.below {B : Nat} {w w' : World} (h : Tab w) (hb : Below B w w') (hB : 0 < B) : Tab w' := fun j hj => (hb.cell hB).trans (h j hj)
theorem Tab.lt {w : World} (h : Tab w) : 0 < w.heap.size := World.block_lt_of_cell? _ _ (h 0 (by decide))
theorem put_step {B lb hb : Nat} {w w2 : World} {T : List Tw} {x : Ent} {g : Hd} (h : SkB B w lb hb T) (hx : Ext w w2) (hm : Em w2 w.heap.size w2.heap.size x g) (hT : Tab w) (hB : 0 < B) (hfew : T.length ≤ 1000000) (hk : x.key.length ≤ 1099511627776) (hv : x.val.length ≤ 1099511627776) :
    Calls Tryd.prog 30 #[.pointer (some ⟨lb, 0, none⟩), x.at_ g] w2 fun e w3 => ∃ (T' : List Tw) (c : Int), putE (T.map Tw.e) x = (T'.map Tw.e, c) ∧ e = .returned (.int .i64 c) ∧ SkB B w3 lb hb T' ∧ Tab w3 ∧ Below B w2 w3 ∧ Chg (Sks (fun k => B ≤ k ∧ k < w.heap.size) w2) w2 w3 := by
  have hBw : B ≤ w.heap.size := Nat.le_of_lt (Nat.lt_of_le_of_lt h.lowl.1 h.lowl.2)
  refine (sput_any (Sk.ext h hx) hm (Nat.le_refl _) (fun k hd => .inl hd.2) (hT.ext hx) (fun hd => by have := hd.1; omega) hfew hk hv).mono ?_
  rintro e w3 ⟨T', c, h1, h2, h3, h4⟩
  have hb : Below B w2 w3 := h4.below (fun k hs => hs.1.1) (Nat.le_trans hBw hx.size)
  refine ⟨T', c, h1, h2, SkB.of h3 fun k _ hd => ?_, (hT.ext hx).below hb hB, hb, h4⟩
  rcases hd with hd | hd
  · exact hd.1
  · exact Nat.le_trans hBw (Nat.le_trans hx.size hd)
theorem below_mono {B B' : Nat} {w w' : World} (h : Below B w w') (hB : B' ≤ B) : Below B' w w' := ⟨h.os, h.tape, h.output, h.size, fun i hi => h.block i (by omega)⟩
theorem rowOf_map {w : World} {D : Nat → Prop} {lb hb : Nat} {T : List Tw} (h : Sk w D lb hb T) (q : Ent → Bool) : (rowOf T q 0).map Tw.e = (T.map Tw.e).drop (cutOf q (T.map Tw.e)) := by
  unfold rowOf
  rw [List.filter_eq_self.2, List.map_drop]
  intro t ht
  have h1 := h.hts t (List.mem_of_mem_drop ht)
  have h2 := hgt_le t.e.key t.e.seq
  simp only [decide_eq_true_eq]
  omega

def kA5 : Ent := ⟨[97], 5, 1, []⟩
def kA7 : Ent := ⟨[97], 7, 1, []⟩
def kB1 : Ent := ⟨[98], 1, 1, []⟩
theorem kput1 : putE [] kA5 = ([kA5], 0) := rfl
theorem kput2 : putE [kA5] kA7 = ([kA7, kA5], 0) := rfl
theorem kput3 : putE [kA7, kA5] kA5 = ([kA7, kA5], 7) := rfl
theorem kput4 : putE [kA7, kA5] kB1 = ([kA7, kA5, kB1], 0) := rfl
theorem kget1 : getE [kA7, kA5] [97] 6 = some kA5 := rfl
theorem kget2 : getE [kA7, kA5] [97] 4 = none := rfl
theorem kbytes : bytesE [kA7, kA5, kB1] = 15 := by simp [bytesE, Ent.form, kA7, kA5, kB1, bytesForm, form_lo]
theorem hgt_a5 : hgt [97] 5 = 1 := by decide +kernel
theorem hgt_n1 : hgt [] 1 = 1 := by decide +kernel

set_option maxRecDepth 100000 in
set_option maxHeartbeats 8000000 in
theorem known_any {w : World} (hT : Tab w) : Calls Tryd.prog 10 #[] w fun e w' => e = .returned (.bool true) ∧ Below w.heap.size w w' := by
  have hB := hT.lt
  have HB := Lib.hid hB
  have HT := Lib.hid hT
  clear hB hT
  go_enter Tryd.func10, Tryd.ntmps10
  go_wp2_with fail
  refine Calls.mono (new_any w) ?_
  rintro e w1 ⟨rfl, hs1, hx1⟩
  have HS1 : Hid (SkB w.heap.size w1 (w.heap.size + 1) w.heap.size []) := SkB.of hs1 fun k _ hd => hd
  have HX1 : Hid (Ext w w1) := hx1
  have HT1 := Lib.hid (HT.out.ext hx1)
  clear hs1 hx1
  go_wp2_with fail
  refine Calls.mono (lit_any (e := kA5) (k := [97]) rfl rfl (by decide) (by decide) (by decide) (by decide) w1) ?_
  rintro e w2 ⟨hx2, g1, rfl, hm⟩
  have HP := Lib.hid (put_step HS1.out hx2 hm HT1.out HB.out (by simp) (by simp [kA5]) (by simp [kA5]))
  have HX2 := Lib.hid hx2
  clear hx2 hm
  go_wp2_with fail
  refine Calls.mono HP.out ?_
  rintro e w3 ⟨T3, c3, hp3, rfl, hs3, ht3, hb3, _⟩
  obtain ⟨rfl, hT3⟩ : c3 = 0 ∧ T3.map Tw.e = [kA5] := by
    have := kput1.symm.trans hp3; injection this with h1 h2; exact ⟨h2.symm, h1.symm⟩
  have HS3 := Lib.hid hs3
  have HT3 := Lib.hid ht3
  have HM3 := Lib.hid hT3
  have HBW3 : Hid (Below w.heap.size w w3) := (show Below w.heap.size w w2 from Ext.trans HX1.out HX2.out).trans hb3
  clear hp3 hs3 ht3 hb3 hT3 HP HS1 HT1 HX1 HX2
  go_wp2_with fail
  refine Calls.mono (lit_any (e := kA7) (k := [97]) rfl rfl (by decide) (by decide) (by decide) (by decide) w3) ?_
  rintro e w4 ⟨hx2, g2, rfl, hm⟩
  have hl3 : T3.length = 1 := by have := congrArg List.length HM3.out; simpa using this
  have HP := Lib.hid (put_step HS3.out hx2 hm HT3.out HB.out (by omega) (by simp [kA7]) (by simp [kA7]))
  have HX2 := Lib.hid hx2
  clear hx2 hm hl3
  go_wp2_with fail
  refine Calls.mono HP.out ?_
  rintro e w5 ⟨T5, c5, hp5, rfl, hs5, ht5, hb5, _⟩
  rw [HM3.out] at hp5
  obtain ⟨rfl, hT5⟩ : c5 = 0 ∧ T5.map Tw.e = [kA7, kA5] := by
    have := kput2.symm.trans hp5; injection this with h1 h2; exact ⟨h2.symm, h1.symm⟩
  have HS5 := Lib.hid hs5
  have HT5 := Lib.hid ht5
  have HM5 := Lib.hid hT5
  have HBW5 : Hid (Below w.heap.size w w5) := (HBW3.out.trans (below_mono HX2.out HBW3.out.size)).trans hb5
  clear hp5 hs5 ht5 hb5 hT5 HP HS3 HT3 HM3 HX2 HBW3
  go_wp2_with fail
  refine Calls.mono (lit_any (e := kA5) (k := [97]) rfl rfl (by decide) (by decide) (by decide) (by decide) w5) ?_
  rintro e w6 ⟨hx2, g3, rfl, hm⟩
  have hl5 : T5.length = 2 := by have := congrArg List.length HM5.out; simpa using this
  have HP := Lib.hid (put_step HS5.out hx2 hm HT5.out HB.out (by omega) (by simp [kA5]) (by simp [kA5]))
  have HX2 := Lib.hid hx2
  clear hx2 hm hl5
  go_wp2_with fail
  refine Calls.mono HP.out ?_
  rintro e w7 ⟨T7, c7, hp7, rfl, hs7, ht7, hb7, _⟩
  rw [HM5.out] at hp7
  obtain ⟨rfl, hT7⟩ : c7 = 7 ∧ T7.map Tw.e = [kA7, kA5] := by
    have := kput3.symm.trans hp7; injection this with h1 h2; exact ⟨h2.symm, h1.symm⟩
  have HS7 := Lib.hid hs7
  have HT7 := Lib.hid ht7
  have HM7 := Lib.hid hT7
  have HBW7 : Hid (Below w.heap.size w w7) := (HBW5.out.trans (below_mono HX2.out HBW5.out.size)).trans hb7
  clear hp7 hs7 ht7 hb7 hT7 HP HS5 HT5 HM5 HX2 HBW5
  have cv1 : (convert 22 22 (.slice (some ⟨w7.heap.size, 0, none⟩) 1 1)).run Tryd.prog (w7.alloc (.cells #[.int .u8 97] 5)) = .ok (.slice (some ⟨w7.heap.size, 0, none⟩) 1 1) (w7.alloc (.cells #[.int .u8 97] 5 (1, 2))) := run_convert_bytes_const_at _ _ _ _ _ _ _ (rfl) Tryd.underlying22 Tryd.underlying5
  have hx8 := ext_alloc w7 (.cells #[.int .u8 97] 5 (1, 2))
  have HG := Lib.hid (sget_any (s := 6) (HS7.out.ext hx8) (bs_mark w7 [97] (by simp) (1, 2)) (by simp) (by decide) (by decide) (by decide))
  rw [HM7.out, kget1] at HG
  clear hx8
  go_wp2_with fail
  refine Calls.mono HG.out ?_
  rintro e w9 ⟨hx9, gd, rfl, hok, hov⟩
  have HX9 : Hid (Ext w7 w9) := Ext.trans (ext_alloc _ _) hx9
  have HOK9 := Lib.hid (Own.base (B' := 0) hok (Nat.zero_le _))
  have HOV9 := Lib.hid (Own.base (B' := 0) hov (Nat.zero_le _))
  clear hx9 hok hov cv1 HG
  unfold Ent.at_
  go_upto_region 6 with (fail)
  obtain ⟨w10, hw10⟩ : ∃ w10, w10 = w9.alloc (.cells #[.slice gd.kA kA5.key.length gd.kc, .int .i64 kA5.seq, .int .i64 kA5.kind, .slice gd.vA kA5.val.length gd.vc] 40) := ⟨_, rfl⟩
  rw [← hw10]
  have HX10 : Hid (Ext w7 w10) := by rw [hw10]; exact Ext.trans HX9.out (ext_alloc _ _)
  have HD10 : Hid (w10.heap[w9.heap.size]? = some (.cells #[.slice gd.kA kA5.key.length gd.kc, .int .i64 kA5.seq, .int .i64 kA5.kind, .slice gd.vA kA5.val.length gd.vc] 40 (0, 0))) := by rw [hw10]; exact heap_at _ _ rfl
  have HX910 : Hid (Ext w9 w10) := by rw [hw10]; exact ext_alloc _ _
  clear hw10
  have cv1 : (convert 22 22 (.slice (some ⟨w10.heap.size, 0, none⟩) 1 1)).run Tryd.prog (w10.alloc (.cells #[.int .u8 97] 5)) = .ok (.slice (some ⟨w10.heap.size, 0, none⟩) 1 1) (w10.alloc (.cells #[.int .u8 97] 5 (1, 2))) := run_convert_bytes_const_at _ _ _ _ _ _ _ (rfl) Tryd.underlying22 Tryd.underlying5
  have hx8 := Ext.trans HX10.out (ext_alloc w10 (.cells #[.int .u8 97] 5 (1, 2)))
  have HG := Lib.hid (sget_any (s := 4) (HS7.out.ext hx8) (bs_mark w10 [97] (by simp) (1, 2)) (by simp) (by decide) (by decide) (by decide))
  rw [HM7.out, kget2] at HG
  clear hx8
  go_wp2_with fail
  refine Calls.mono HG.out ?_
  rintro e w11 ⟨hx9, rfl⟩
  have HX11 : Hid (Ext w10 w11) := Ext.trans (ext_alloc _ _) hx9
  clear hx9 cv1 HG
  unfold Ent.at_
  go_upto_region 7 with (fail)
  obtain ⟨w12, hw12⟩ : ∃ w12, w12 = w11.alloc (.cells #[.slice none zeroE.key.length 0, .int .i64 zeroE.seq, .int .i64 zeroE.kind, .slice none zeroE.val.length 0] 40) := ⟨_, rfl⟩
  rw [← hw12]
  have HX12 : Hid (Ext w10 w12) := by rw [hw12]; exact Ext.trans HX11.out (ext_alloc _ _)
  clear hw12
  have HX72 : Hid (Ext w7 w12) := Ext.trans HX10.out HX12.out
  have HS12 := Lib.hid (HS7.out.ext HX72.out)
  have HT12 := Lib.hid (HT7.out.ext HX72.out)
  have HBW12 : Hid (Below w.heap.size w w12) := HBW7.out.trans (below_mono HX72.out HBW7.out.size)
  go_wp2_with fail
  refine Calls.mono (lit_any (e := kB1) (k := [98]) rfl rfl (by decide) (by decide) (by decide) (by decide) w12) ?_
  rintro e w13 ⟨hx2, g4, rfl, hm⟩
  have hl7 : T7.length = 2 := by have := congrArg List.length HM7.out; simpa using this
  have HP := Lib.hid (put_step HS12.out hx2 hm HT12.out HB.out (by omega) (by simp [kB1]) (by simp [kB1]))
  have HX13 := Lib.hid hx2
  clear hx2 hm hl7
  go_wp2_with fail
  refine Calls.mono HP.out ?_
  rintro e wz ⟨T, cz, hpz, rfl, hsz, htz, hbz, hcz⟩
  rw [HM7.out] at hpz
  obtain ⟨rfl, hTz⟩ : cz = 0 ∧ T.map Tw.e = [kA7, kA5, kB1] := by
    have := kput4.symm.trans hpz; injection this with h1 h2; exact ⟨h2.symm, h1.symm⟩
  have HSK : Hid (Sk wz (fun k => w.heap.size ≤ k ∧ k < wz.heap.size) (w.heap.size + 1) w.heap.size T) := hsz
  have HTAB := Lib.hid htz
  have HTM := Lib.hid hTz
  have HTL : Hid (T.length = 3) := by have := congrArg List.length hTz; simpa [Hid] using this
  have HTB : Hid (bytesE (T.map Tw.e) = 15) := by unfold Hid; rw [hTz]; exact kbytes
  have HBW : Hid (Below w.heap.size w wz) := (HBW12.out.trans (below_mono HX13.out HBW12.out.size)).trans hbz
  have HWZ : Hid (w.heap.size ≤ wz.heap.size) := HBW.out.size
  obtain ⟨db, hdb⟩ : ∃ db, db = w9.heap.size := ⟨_, rfl⟩
  have hd13 := ext_heap (Ext.trans HX12.out HX13.out) HD10.out
  have hdz : wz.heap[db]? = some (.cells #[.slice gd.kA kA5.key.length gd.kc, .int .i64 kA5.seq, .int .i64 kA5.kind, .slice gd.vA kA5.val.length gd.vc] 40 (0, 0)) := by
    rw [hdb]
    refine (hcz.block _ (Array.getElem?_eq_some_iff.1 hd13).1 (fun hs => ?_)).trans hd13
    obtain ⟨_, c, fz, hc | hc⟩ := hs <;> · rw [hd13] at hc; injection hc with hc; injection hc with _ h2 _; exact absurd h2 (by decide)
  have HMD : Hid (Em wz 0 wz.heap.size kA5 gd) := by
    have hx9z := Ext.trans HX910.out (Ext.trans HX12.out HX13.out)
    exact ((HOK9.out.below hx9z).sks hcz).em ((HOV9.out.below hx9z).sks hcz) (by decide) (by decide) (by decide) (by decide) (by decide) (by decide)
  rw [← hdb]
  have d0 := cell_of (v := .slice gd.kA kA5.key.length gd.kc) hdz (k := 0) rfl
  have d1 := cell_of (v := .int .i64 kA5.seq) hdz (k := 1) rfl
  have d2 := cell_of (v := .int .i64 kA5.kind) hdz (k := 2) rfl
  have d3 := cell_of (v := .slice gd.vA kA5.val.length gd.vc) hdz (k := 3) rfl
  clear hpz hsz htz hbz hTz hdb hd13 hdz hcz HP HS12 HT12 HX72 HX12 HX13 HX11 HX10 HX9 HBW12 HBW7 HS7 HT7 HM7 HD10
  go_upto_region 8 with (fail)
  refine Fr.flow (R := MarkR wz.heap.size) (by kernel_rfl) [Is (.int .i64 0), Is (.int .i64 0), Is (.int .i64 0), Is (.int .i64 0), Is (.int .i64 0), Is (.int .i64 0), Is (.int .i64 0), Is (.int .i64 0), Is (.int .i64 0), Is (.int .i64 0), Is (.int .i64 0), Is (.bool true), Is (.bool true), Is (.int .i64 7), Is (.int .i64 7), Is (.bool true), Is (.bool true), Is (.bool true), Is (.agg #[.slice gd.kA kA5.key.length gd.kc, .int .i64 kA5.seq, .int .i64 kA5.kind, .slice gd.vA kA5.val.length gd.vc]), LitF kA5, Is (.bool true), Is (.bool true), Is (.bool true), Is (.int .i64 6), Is (.int .i64 6), Is (.bool true), Is (.bool true), Is (.bool true), Is (.pointer (some ⟨(w.heap.size + 1), 0, none⟩)), BlF wz.heap.size [97, 0], BlF wz.heap.size [97, 0], FromF wz.heap.size (w.heap.size + 1) [97, 0], LitF kB1, OneF kB1, Is (.bool true), Is (.bool true), Is (.bool true), Is (.pointer (some ⟨(w.heap.size + 1), 0, none⟩)), Is (.int .i64 3), Is (.bool true), Is (.bool true), Is (.bool true), Is (.pointer (some ⟨(w.heap.size + 1), 0, none⟩)), Is (.int .i64 15), Is (.bool true), Is (.bool true), Is (.bool true), BlF wz.heap.size [97], BlF wz.heap.size [97], Is (.int .i64 1), Is (.bool true), Is (.bool true), Is (.bool true), Is (.int .i64 1), Is (.bool true), Is (.bool true), Is (.bool true)] (by kernel_rfl) (by kernel_rfl) ?mono (fun f1 => ?obl) ?fin
  case mono =>
    simp only [List.forall_mem_cons, List.not_mem_nil, false_imp_iff, implies_true, and_true]
    exact ⟨.is _, .is _, .is _, .is _, .is _, .is _, .is _, .is _, .is _, .is _, .is _, .is _, .is _, .is _, .is _, .is _, .is _, .is _, .is _, .lit _ _, .is _, .is _, .is _, .is _, .is _, .is _, .is _, .is _, .is _, .bl _ _ _, .bl _ _ _, .from_ _ _ _, .lit _ _, .one _ _, .is _, .is _, .is _, .is _, .is _, .is _, .is _, .is _, .is _, .is _, .is _, .is _, .is _, .bl _ _ _, .bl _ _ _, .is _, .is _, .is _, .is _, .is _, .is _, .is _, .is _⟩
  case fin =>
    intro g1 u hu hg
    simp only [puts, Act.put, List.setIfInBounds_toArray, List.set_cons_zero, List.set_cons_succ]
    have eL : g1 56 = .bool true := hg 56 (by decide)
    rw [eL]
    have HU := Lib.hid hu
    clear hu hg eL d0 d1 d2 d3
    go_wp2
    go_ret
    exact ⟨rfl, HBW.out.trans (((Chg.drew wz).trans (mark_chg HU.out)).below (fun i hi => Nat.le_trans HWZ.out hi) HWZ.out)⟩
  case obl =>
    refine ⟨fun u hu hd => ?_, ?_⟩
    · go_simp
      exact ⟨(MarkR wz.heap.size).refl _, rfl⟩
    refine ⟨fun u hu hd => ?_, ?_⟩
    · simp only [Act.put, List.setIfInBounds_toArray, List.set_cons_zero, List.set_cons_succ]
      have e0 : f1 0 = .int .i64 0 := hd 0 (by kernel_rfl)
      go_simp
      refine (snum _ _).mono ?_
      rintro x9 w9 ⟨rfl, rfl⟩
      exact ⟨_, rfl, (MarkR wz.heap.size).refl _, rfl⟩
    refine ⟨fun u hu hd => ?_, ?_⟩
    · simp only [Act.put, List.setIfInBounds_toArray, List.set_cons_zero, List.set_cons_succ]
      go_simp
      exact ⟨(MarkR wz.heap.size).refl _, rfl⟩
    refine ⟨fun u hu hd => ?_, ?_⟩
    · simp only [Act.put, List.setIfInBounds_toArray, List.set_cons_zero, List.set_cons_succ]
      have e2 : f1 2 = .int .i64 0 := hd 2 (by kernel_rfl)
      go_simp
      refine (snum _ _).mono ?_
      rintro x9 w9 ⟨rfl, rfl⟩
      exact ⟨_, rfl, (MarkR wz.heap.size).refl _, rfl⟩
    refine ⟨fun u hu hd => ?_, ?_⟩
    · simp only [Act.put, List.setIfInBounds_toArray, List.set_cons_zero, List.set_cons_succ]
      have e1 : f1 1 = .int .i64 0 := hd 1 (by kernel_rfl)
      have e3 : f1 3 = .int .i64 0 := hd 3 (by kernel_rfl)
      go_simp
      exact ⟨(MarkR wz.heap.size).refl _, rfl⟩
    refine ⟨fun u hu hd => ?_, ?_⟩
    · simp only [Act.put, List.setIfInBounds_toArray, List.set_cons_zero, List.set_cons_succ]
      go_simp
      exact ⟨(MarkR wz.heap.size).refl _, rfl⟩
    refine ⟨fun u hu hd => ?_, ?_⟩
    · simp only [Act.put, List.setIfInBounds_toArray, List.set_cons_zero, List.set_cons_succ]
      have e5 : f1 5 = .int .i64 0 := hd 5 (by kernel_rfl)
      go_simp
      refine (snum _ _).mono ?_
      rintro x9 w9 ⟨rfl, rfl⟩
      exact ⟨_, rfl, (MarkR wz.heap.size).refl _, rfl⟩
    refine ⟨fun u hu hd => ?_, ?_⟩
    · simp only [Act.put, List.setIfInBounds_toArray, List.set_cons_zero, List.set_cons_succ]
      have e4 : f1 4 = .int .i64 0 := hd 4 (by kernel_rfl)
      have e6 : f1 6 = .int .i64 0 := hd 6 (by kernel_rfl)
      go_simp
      exact ⟨(MarkR wz.heap.size).refl _, rfl⟩
    refine ⟨fun u hu hd => ?_, ?_⟩
    · simp only [Act.put, List.setIfInBounds_toArray, List.set_cons_zero, List.set_cons_succ]
      go_simp
      exact ⟨(MarkR wz.heap.size).refl _, rfl⟩
    refine ⟨fun u hu hd => ?_, ?_⟩
    · simp only [Act.put, List.setIfInBounds_toArray, List.set_cons_zero, List.set_cons_succ]
      have e8 : f1 8 = .int .i64 0 := hd 8 (by kernel_rfl)
      go_simp
      refine (snum _ _).mono ?_
      rintro x9 w9 ⟨rfl, rfl⟩
      exact ⟨_, rfl, (MarkR wz.heap.size).refl _, rfl⟩
    refine ⟨fun u hu hd => ?_, ?_⟩
    · simp only [Act.put, List.setIfInBounds_toArray, List.set_cons_zero, List.set_cons_succ]
      have e7 : f1 7 = .int .i64 0 := hd 7 (by kernel_rfl)
      have e9 : f1 9 = .int .i64 0 := hd 9 (by kernel_rfl)
      go_simp
      exact ⟨(MarkR wz.heap.size).refl _, rfl⟩
    refine ⟨fun u hu hd => ?_, ?_⟩
    · simp only [Act.put, List.setIfInBounds_toArray, List.set_cons_zero, List.set_cons_succ]
      have e10 : f1 10 = .int .i64 0 := hd 10 (by kernel_rfl)
      go_simp
      exact ⟨(MarkR wz.heap.size).refl _, rfl⟩
    refine ⟨fun u hu hd => ?_, ?_⟩
    · simp only [Act.put, List.setIfInBounds_toArray, List.set_cons_zero, List.set_cons_succ]
      have e11 : f1 11 = .bool true := hd 11 (by kernel_rfl)
      go_simp
      exact ⟨(MarkR wz.heap.size).refl _, rfl⟩
    refine ⟨fun u hu hd => ?_, ?_⟩
    · simp only [Act.put, List.setIfInBounds_toArray, List.set_cons_zero, List.set_cons_succ]
      have e12 : f1 12 = .bool true := hd 12 (by kernel_rfl)
      go_simp
      exact ⟨(MarkR wz.heap.size).refl _, rfl⟩
    refine ⟨fun u hu hd => ?_, ?_⟩
    · simp only [Act.put, List.setIfInBounds_toArray, List.set_cons_zero, List.set_cons_succ]
      have e12 : f1 12 = .bool true := hd 12 (by kernel_rfl)
      have e13 : f1 13 = .int .i64 7 := hd 13 (by kernel_rfl)
      go_simp
      refine (snum _ _).mono ?_
      rintro x9 w9 ⟨rfl, rfl⟩
      exact ⟨_, rfl, (MarkR wz.heap.size).refl _, rfl⟩
    refine ⟨fun u hu hd => ?_, ?_⟩
    · simp only [Act.put, List.setIfInBounds_toArray, List.set_cons_zero, List.set_cons_succ]
      have e12 : f1 12 = .bool true := hd 12 (by kernel_rfl)
      have e14 : f1 14 = .int .i64 7 := hd 14 (by kernel_rfl)
      go_simp
      exact ⟨(MarkR wz.heap.size).refl _, rfl⟩
    refine ⟨fun u hu hd => ?_, ?_⟩
    · simp only [Act.put, List.setIfInBounds_toArray, List.set_cons_zero, List.set_cons_succ]
      have e12 : f1 12 = .bool true := hd 12 (by kernel_rfl)
      have e15 : f1 15 = .bool true := hd 15 (by kernel_rfl)
      go_simp
      exact ⟨(MarkR wz.heap.size).refl _, rfl⟩
    refine ⟨fun u hu hd => ?_, ?_⟩
    · simp only [Act.put, List.setIfInBounds_toArray, List.set_cons_zero, List.set_cons_succ]
      have e16 : f1 16 = .bool true := hd 16 (by kernel_rfl)
      go_simp
      exact ⟨(MarkR wz.heap.size).refl _, rfl⟩
    refine ⟨fun u hu hd => ?_, ?_⟩
    · simp only [Act.put, List.setIfInBounds_toArray, List.set_cons_zero, List.set_cons_succ]
      have e17 : f1 17 = .bool true := hd 17 (by kernel_rfl)
      have hu2 := hu
      have q0 := mark_cell hu2 d0
      have q1 := mark_cell hu2 d1
      have q2 := mark_cell hu2 d2
      have q3 := mark_cell hu2 d3
      go_simp
      exact ⟨(MarkR wz.heap.size).refl _, rfl⟩
    refine ⟨fun u hu hd => ?_, ?_⟩
    · simp only [Act.put, List.setIfInBounds_toArray, List.set_cons_zero, List.set_cons_succ]
      have e17 : f1 17 = .bool true := hd 17 (by kernel_rfl)
      go_simp
      refine (lit_any (e := kA5) (k := [97]) rfl rfl (by decide) (by decide) (by decide) (by decide) _).mono ?_
      rintro x9 w9 ⟨hx9, g9, rfl, hm9⟩
      exact ⟨_, rfl, mark_ext hx9, g9, rfl, hm9.wide (Nat.zero_le _) (Nat.le_refl _)⟩
    refine ⟨fun u hu hd => ?_, ?_⟩
    · simp only [Act.put, List.setIfInBounds_toArray, List.set_cons_zero, List.set_cons_succ]
      have e17 : f1 17 = .bool true := hd 17 (by kernel_rfl)
      have e18 : f1 18 = .agg #[.slice gd.kA kA5.key.length gd.kc, .int .i64 kA5.seq, .int .i64 kA5.kind, .slice gd.vA kA5.val.length gd.vc] := hd 18 (by kernel_rfl)
      obtain ⟨g9, e19, hm9⟩ := (show LitF kA5 (f1 19) u from hd 19 (by kernel_rfl))
      have hm8 : Em u 0 u.heap.size kA5 gd := (mark_em hu (show Em wz.drew 0 wz.heap.size kA5 gd from HMD.out.below (Ext.drew wz) (Nat.le_refl _))).wide (Nat.le_refl _) hu.2.2.2.1
      have HR9 := Lib.hid (rsame_any hm8 hm9 (Nat.le_refl _) (Nat.le_refl _))
      unfold Ent.at_ at e19 HR9
      clear hm8 hm9
      go_simp
      refine HR9.out.mono ?_
      rintro x9 w9 ⟨z, hz, rfl, hx9⟩
      obtain rfl : z = true := hz.2 rfl
      exact ⟨_, rfl, mark_ext hx9, rfl⟩
    refine ⟨fun u hu hd => ?_, ?_⟩
    · simp only [Act.put, List.setIfInBounds_toArray, List.set_cons_zero, List.set_cons_succ]
      have e17 : f1 17 = .bool true := hd 17 (by kernel_rfl)
      have e20 : f1 20 = .bool true := hd 20 (by kernel_rfl)
      go_simp
      exact ⟨(MarkR wz.heap.size).refl _, rfl⟩
    refine ⟨fun u hu hd => ?_, ?_⟩
    · simp only [Act.put, List.setIfInBounds_toArray, List.set_cons_zero, List.set_cons_succ]
      have e21 : f1 21 = .bool true := hd 21 (by kernel_rfl)
      go_simp
      exact ⟨(MarkR wz.heap.size).refl _, rfl⟩
    refine ⟨fun u hu hd => ?_, ?_⟩
    · simp only [Act.put, List.setIfInBounds_toArray, List.set_cons_zero, List.set_cons_succ]
      have e22 : f1 22 = .bool true := hd 22 (by kernel_rfl)
      go_simp
      exact ⟨(MarkR wz.heap.size).refl _, rfl⟩
    refine ⟨fun u hu hd => ?_, ?_⟩
    · simp only [Act.put, List.setIfInBounds_toArray, List.set_cons_zero, List.set_cons_succ]
      have e22 : f1 22 = .bool true := hd 22 (by kernel_rfl)
      have e23 : f1 23 = .int .i64 6 := hd 23 (by kernel_rfl)
      go_simp
      refine (snum _ _).mono ?_
      rintro x9 w9 ⟨rfl, rfl⟩
      exact ⟨_, rfl, (MarkR wz.heap.size).refl _, rfl⟩
    refine ⟨fun u hu hd => ?_, ?_⟩
    · simp only [Act.put, List.setIfInBounds_toArray, List.set_cons_zero, List.set_cons_succ]
      have e22 : f1 22 = .bool true := hd 22 (by kernel_rfl)
      have e24 : f1 24 = .int .i64 6 := hd 24 (by kernel_rfl)
      go_simp
      exact ⟨(MarkR wz.heap.size).refl _, rfl⟩
    refine ⟨fun u hu hd => ?_, ?_⟩
    · simp only [Act.put, List.setIfInBounds_toArray, List.set_cons_zero, List.set_cons_succ]
      have e22 : f1 22 = .bool true := hd 22 (by kernel_rfl)
      have e25 : f1 25 = .bool true := hd 25 (by kernel_rfl)
      go_simp
      exact ⟨(MarkR wz.heap.size).refl _, rfl⟩
    refine ⟨fun u hu hd => ?_, ?_⟩
    · simp only [Act.put, List.setIfInBounds_toArray, List.set_cons_zero, List.set_cons_succ]
      have e26 : f1 26 = .bool true := hd 26 (by kernel_rfl)
      go_simp
      exact ⟨(MarkR wz.heap.size).refl _, rfl⟩
    refine ⟨fun u hu hd => ?_, ?_⟩
    · simp only [Act.put, List.setIfInBounds_toArray, List.set_cons_zero, List.set_cons_succ]
      have e27 : f1 27 = .bool true := hd 27 (by kernel_rfl)
      go_simp
      exact ⟨(MarkR wz.heap.size).refl _, rfl⟩
    refine ⟨fun u hu hd => ?_, ?_⟩
    · simp only [Act.put, List.setIfInBounds_toArray, List.set_cons_zero, List.set_cons_succ]
      have e27 : f1 27 = .bool true := hd 27 (by kernel_rfl)
      go_simp
      exact ⟨mark_ext (ext_alloc _ _), _, (0, 0), rfl, hu.2.2.2.1, heap_at _ _ rfl⟩
    refine ⟨fun u hu hd => ?_, ?_⟩
    · simp only [Act.put, List.setIfInBounds_toArray, List.set_cons_zero, List.set_cons_succ]
      have e27 : f1 27 = .bool true := hd 27 (by kernel_rfl)
      obtain ⟨b9, fz9, e29, hB9, hb9⟩ := (show BlF wz.heap.size [97, 0] (f1 29) u from hd 29 (by kernel_rfl))
      have HB9 := Lib.hid hb9
      have HBB9 := Lib.hid hB9
      have hcv := conv_const (n := 2) (c := 2) hb9
      dsimp only [List.length_cons, List.length_nil] at e29
      clear hb9 hB9
      go_simp
      obtain ⟨fz8, h8⟩ := freeze_at (k := 2) HB9.out
      exact ⟨mark_freeze HB9.out HBB9.out, b9, fz8, rfl, HBB9.out, h8⟩
    refine ⟨fun u hu hd => ?_, ?_⟩
    · simp only [Act.put, List.setIfInBounds_toArray, List.set_cons_zero, List.set_cons_succ]
      have e27 : f1 27 = .bool true := hd 27 (by kernel_rfl)
      have e28 : f1 28 = .pointer (some ⟨(w.heap.size + 1), 0, none⟩) := hd 28 (by kernel_rfl)
      obtain ⟨b9, fz9, e30, hB9, hb9⟩ := (show BlF wz.heap.size [97, 0] (f1 30) u from hd 30 (by kernel_rfl))
      have HBS9 := Lib.hid (bl_bs (l := [97, 0]) (by simp) hb9)
      have HSK9 := Lib.hid (HSK.out.keep ((Chg.drew wz).trans (mark_chg hu)) (fun i hi hd => by have hi : wz.heap.size ≤ i := hi; have := hd.2; omega))
      dsimp only [List.length_cons, List.length_nil] at e30
      clear hb9 hB9
      go_simp
      refine (sfrom_raw HSK9.out HBS9.out (Nat.le_refl _) (by simp)).mono ?_
      rintro x9 w9 ⟨hx9, y9, rfl, hf9⟩
      exact ⟨_, rfl, mark_ext hx9, hf9⟩
    refine ⟨fun u hu hd => ?_, ?_⟩
    · simp only [Act.put, List.setIfInBounds_toArray, List.set_cons_zero, List.set_cons_succ]
      have e27 : f1 27 = .bool true := hd 27 (by kernel_rfl)
      go_simp
      refine (lit_any (e := kB1) (k := [98]) rfl rfl (by decide) (by decide) (by decide) (by decide) _).mono ?_
      rintro x9 w9 ⟨hx9, g9, rfl, hm9⟩
      exact ⟨_, rfl, mark_ext hx9, g9, rfl, hm9.wide (Nat.zero_le _) (Nat.le_refl _)⟩
    refine ⟨fun u hu hd => ?_, ?_⟩
    · simp only [Act.put, List.setIfInBounds_toArray, List.set_cons_zero, List.set_cons_succ]
      have e27 : f1 27 = .bool true := hd 27 (by kernel_rfl)
      obtain ⟨g9, e32, hm9⟩ := (show LitF kB1 (f1 32) u from hd 32 (by kernel_rfl))
      have HM9 := Lib.hid hm9
      unfold Ent.at_ at e32
      clear hm9
      go_simp
      exact ⟨mark_ext (ext_alloc _ _), g9, _, rfl, heap_at _ _ rfl, HM9.out.below (ext_alloc _ _) (Nat.le_refl _) |>.wide (Nat.le_refl _) (ext_alloc _ _).size⟩
    refine ⟨fun u hu hd => ?_, ?_⟩
    · simp only [Act.put, List.setIfInBounds_toArray, List.set_cons_zero, List.set_cons_succ]
      have e27 : f1 27 = .bool true := hd 27 (by kernel_rfl)
      have hf9 := (show FromF wz.heap.size (w.heap.size + 1) [97, 0] (f1 31) u from hd 31 (by kernel_rfl))
      obtain ⟨bd9, e31, hit9⟩ := FromRaw.iter hf9 (HSK.out.keep ((Chg.drew wz).trans (mark_chg hu)) (fun i hi hd => by have hi : wz.heap.size ≤ i := hi; have := hd.2; omega)) (by decide)
      obtain ⟨g9, b9, e33, hb9, hm9⟩ := (show OneF kB1 (f1 33) u from hd 33 (by kernel_rfl))
      have HG9 := Lib.hid (goes_any (most := 0) (c2 := 1) hit9 (fun A hA => hA) (rowOf_ins HSK.out.ins _ _) (one_es hb9 hm9) (Nat.le_refl _) (by simp) (by rw [rowOf_map HSK.out, HTM.out]; rfl))
      clear hf9 hit9 hb9 hm9
      go_simp
      refine HG9.out.mono ?_
      rintro x9 w9 ⟨rfl, hx9⟩
      exact ⟨_, rfl, mark_ext hx9, rfl⟩
    refine ⟨fun u hu hd => ?_, ?_⟩
    · simp only [Act.put, List.setIfInBounds_toArray, List.set_cons_zero, List.set_cons_succ]
      have e27 : f1 27 = .bool true := hd 27 (by kernel_rfl)
      have e34 : f1 34 = .bool true := hd 34 (by kernel_rfl)
      go_simp
      exact ⟨(MarkR wz.heap.size).refl _, rfl⟩
    refine ⟨fun u hu hd => ?_, ?_⟩
    · simp only [Act.put, List.setIfInBounds_toArray, List.set_cons_zero, List.set_cons_succ]
      have e35 : f1 35 = .bool true := hd 35 (by kernel_rfl)
      go_simp
      exact ⟨(MarkR wz.heap.size).refl _, rfl⟩
    refine ⟨fun u hu hd => ?_, ?_⟩
    · simp only [Act.put, List.setIfInBounds_toArray, List.set_cons_zero, List.set_cons_succ]
      have e36 : f1 36 = .bool true := hd 36 (by kernel_rfl)
      go_simp
      exact ⟨(MarkR wz.heap.size).refl _, rfl⟩
    refine ⟨fun u hu hd => ?_, ?_⟩
    · simp only [Act.put, List.setIfInBounds_toArray, List.set_cons_zero, List.set_cons_succ]
      have e36 : f1 36 = .bool true := hd 36 (by kernel_rfl)
      have e37 : f1 37 = .pointer (some ⟨(w.heap.size + 1), 0, none⟩) := hd 37 (by kernel_rfl)
      have HS9 := Lib.hid (slen_any (HSK.out.keep ((Chg.drew wz).trans (mark_chg hu)) (fun i hi hd => by have hi : wz.heap.size ≤ i := hi; have := hd.2; omega)))
      rw [HTL.out] at HS9
      go_simp
      refine HS9.out.mono ?_
      rintro x9 w9 ⟨rfl, rfl⟩
      exact ⟨_, rfl, (MarkR wz.heap.size).refl _, rfl⟩
    refine ⟨fun u hu hd => ?_, ?_⟩
    · simp only [Act.put, List.setIfInBounds_toArray, List.set_cons_zero, List.set_cons_succ]
      have e36 : f1 36 = .bool true := hd 36 (by kernel_rfl)
      have e38 : f1 38 = .int .i64 3 := hd 38 (by kernel_rfl)
      go_simp
      exact ⟨(MarkR wz.heap.size).refl _, rfl⟩
    refine ⟨fun u hu hd => ?_, ?_⟩
    · simp only [Act.put, List.setIfInBounds_toArray, List.set_cons_zero, List.set_cons_succ]
      have e36 : f1 36 = .bool true := hd 36 (by kernel_rfl)
      have e39 : f1 39 = .bool true := hd 39 (by kernel_rfl)
      go_simp
      exact ⟨(MarkR wz.heap.size).refl _, rfl⟩
    refine ⟨fun u hu hd => ?_, ?_⟩
    · simp only [Act.put, List.setIfInBounds_toArray, List.set_cons_zero, List.set_cons_succ]
      have e40 : f1 40 = .bool true := hd 40 (by kernel_rfl)
      go_simp
      exact ⟨(MarkR wz.heap.size).refl _, rfl⟩
    refine ⟨fun u hu hd => ?_, ?_⟩
    · simp only [Act.put, List.setIfInBounds_toArray, List.set_cons_zero, List.set_cons_succ]
      have e41 : f1 41 = .bool true := hd 41 (by kernel_rfl)
      go_simp
      exact ⟨(MarkR wz.heap.size).refl _, rfl⟩
    refine ⟨fun u hu hd => ?_, ?_⟩
    · simp only [Act.put, List.setIfInBounds_toArray, List.set_cons_zero, List.set_cons_succ]
      have e41 : f1 41 = .bool true := hd 41 (by kernel_rfl)
      have e42 : f1 42 = .pointer (some ⟨(w.heap.size + 1), 0, none⟩) := hd 42 (by kernel_rfl)
      have HS9 := Lib.hid (sbytes_any (HSK.out.keep ((Chg.drew wz).trans (mark_chg hu)) (fun i hi hd => by have hi : wz.heap.size ≤ i := hi; have := hd.2; omega)))
      rw [HTB.out] at HS9
      go_simp
      refine HS9.out.mono ?_
      rintro x9 w9 ⟨rfl, rfl⟩
      exact ⟨_, rfl, (MarkR wz.heap.size).refl _, rfl⟩
    refine ⟨fun u hu hd => ?_, ?_⟩
    · simp only [Act.put, List.setIfInBounds_toArray, List.set_cons_zero, List.set_cons_succ]
      have e41 : f1 41 = .bool true := hd 41 (by kernel_rfl)
      have e43 : f1 43 = .int .i64 15 := hd 43 (by kernel_rfl)
      go_simp
      exact ⟨(MarkR wz.heap.size).refl _, rfl⟩
    refine ⟨fun u hu hd => ?_, ?_⟩
    · simp only [Act.put, List.setIfInBounds_toArray, List.set_cons_zero, List.set_cons_succ]
      have e41 : f1 41 = .bool true := hd 41 (by kernel_rfl)
      have e44 : f1 44 = .bool true := hd 44 (by kernel_rfl)
      go_simp
      exact ⟨(MarkR wz.heap.size).refl _, rfl⟩
    refine ⟨fun u hu hd => ?_, ?_⟩
    · simp only [Act.put, List.setIfInBounds_toArray, List.set_cons_zero, List.set_cons_succ]
      have e45 : f1 45 = .bool true := hd 45 (by kernel_rfl)
      go_simp
      exact ⟨(MarkR wz.heap.size).refl _, rfl⟩
    refine ⟨fun u hu hd => ?_, ?_⟩
    · simp only [Act.put, List.setIfInBounds_toArray, List.set_cons_zero, List.set_cons_succ]
      have e46 : f1 46 = .bool true := hd 46 (by kernel_rfl)
      go_simp
      exact ⟨mark_ext (ext_alloc _ _), _, (0, 0), rfl, hu.2.2.2.1, heap_at _ _ rfl⟩
    refine ⟨fun u hu hd => ?_, ?_⟩
    · simp only [Act.put, List.setIfInBounds_toArray, List.set_cons_zero, List.set_cons_succ]
      have e46 : f1 46 = .bool true := hd 46 (by kernel_rfl)
      obtain ⟨b9, fz9, e47, hB9, hb9⟩ := (show BlF wz.heap.size [97] (f1 47) u from hd 47 (by kernel_rfl))
      have HB9 := Lib.hid hb9
      have HBB9 := Lib.hid hB9
      have hcv := conv_const (n := 1) (c := 1) hb9
      dsimp only [List.length_cons, List.length_nil] at e47
      clear hb9 hB9
      go_simp
      obtain ⟨fz8, h8⟩ := freeze_at (k := 1) HB9.out
      exact ⟨mark_freeze HB9.out HBB9.out, b9, fz8, rfl, HBB9.out, h8⟩
    refine ⟨fun u hu hd => ?_, ?_⟩
    · simp only [Act.put, List.setIfInBounds_toArray, List.set_cons_zero, List.set_cons_succ]
      have e46 : f1 46 = .bool true := hd 46 (by kernel_rfl)
      obtain ⟨b9, fz9, e48, hB9, hb9⟩ := (show BlF wz.heap.size [97] (f1 48) u from hd 48 (by kernel_rfl))
      have HH9 := Lib.hid (height_any (s := 5) (bl_bs (l := [97]) (by simp) hb9) (by decide) (by decide) (by decide) (fun j hj => mark_cell hu (HTAB.out j hj)) (by simp))
      rw [hgt_a5] at HH9
      dsimp only [List.length_cons, List.length_nil] at e48
      clear hb9 hB9
      go_simp
      refine HH9.out.mono ?_
      rintro x9 w9 ⟨rfl, hw9⟩
      rw [hw9]
      exact ⟨_, rfl, (MarkR wz.heap.size).refl _, rfl⟩
    refine ⟨fun u hu hd => ?_, ?_⟩
    · simp only [Act.put, List.setIfInBounds_toArray, List.set_cons_zero, List.set_cons_succ]
      have e46 : f1 46 = .bool true := hd 46 (by kernel_rfl)
      have e49 : f1 49 = .int .i64 1 := hd 49 (by kernel_rfl)
      go_simp
      exact ⟨(MarkR wz.heap.size).refl _, rfl⟩
    refine ⟨fun u hu hd => ?_, ?_⟩
    · simp only [Act.put, List.setIfInBounds_toArray, List.set_cons_zero, List.set_cons_succ]
      have e46 : f1 46 = .bool true := hd 46 (by kernel_rfl)
      have e50 : f1 50 = .bool true := hd 50 (by kernel_rfl)
      go_simp
      exact ⟨(MarkR wz.heap.size).refl _, rfl⟩
    refine ⟨fun u hu hd => ?_, ?_⟩
    · simp only [Act.put, List.setIfInBounds_toArray, List.set_cons_zero, List.set_cons_succ]
      have e51 : f1 51 = .bool true := hd 51 (by kernel_rfl)
      go_simp
      exact ⟨(MarkR wz.heap.size).refl _, rfl⟩
    refine ⟨fun u hu hd => ?_, ?_⟩
    · simp only [Act.put, List.setIfInBounds_toArray, List.set_cons_zero, List.set_cons_succ]
      have e52 : f1 52 = .bool true := hd 52 (by kernel_rfl)
      have HH9 := Lib.hid (height_any (w := u) (s := 1) (Bs.nil u 0 0) (by decide) (by decide) (by decide) (fun j hj => mark_cell hu (HTAB.out j hj)) (by simp))
      rw [hgt_n1] at HH9
      go_simp
      refine HH9.out.mono ?_
      rintro x9 w9 ⟨rfl, hw9⟩
      rw [hw9]
      exact ⟨_, rfl, (MarkR wz.heap.size).refl _, rfl⟩
    refine ⟨fun u hu hd => ?_, ?_⟩
    · simp only [Act.put, List.setIfInBounds_toArray, List.set_cons_zero, List.set_cons_succ]
      have e52 : f1 52 = .bool true := hd 52 (by kernel_rfl)
      have e53 : f1 53 = .int .i64 1 := hd 53 (by kernel_rfl)
      go_simp
      exact ⟨(MarkR wz.heap.size).refl _, rfl⟩
    refine ⟨fun u hu hd => ?_, ?_⟩
    · simp only [Act.put, List.setIfInBounds_toArray, List.set_cons_zero, List.set_cons_succ]
      have e52 : f1 52 = .bool true := hd 52 (by kernel_rfl)
      have e54 : f1 54 = .bool true := hd 54 (by kernel_rfl)
      go_simp
      exact ⟨(MarkR wz.heap.size).refl _, rfl⟩
    refine ⟨fun u hu hd => ?_, ?_⟩
    · simp only [Act.put, List.setIfInBounds_toArray, List.set_cons_zero, List.set_cons_succ]
      have e55 : f1 55 = .bool true := hd 55 (by kernel_rfl)
      go_simp
      exact ⟨(MarkR wz.heap.size).refl _, rfl⟩
    trivial
end Go.Proofs.YtpfaoiickmpmjaaDoor

/- SkipHeights: the walk. -/
namespace Go.Proofs.YtpfaoiickmpmjaaDoor.skipHeights
open Go.ChangeShapes Go.WideShapes Go.ChangeAt Go.RowKit Go.Shelf

set_option maxHeartbeats 2000000 in
theorem walk (W : World) (hT : Tab W) (v : Value) (key : List Nat) (bk : ∀ b ∈ key, b < 256) (hk : Bs W 0 W.heap.size v key) (s : Int) (hs : (Lit.int .i64 s).wf = true) :
    Calls Tryd.prog 3 #[v, .int .i64 s] W fun e w' => e = .returned (.bool true) ∧ Below W.heap.size W w' := by
  have HKN := Lib.hid (known_any hT)
  have hb := i64_wf hs
  obtain ⟨A, c, rfl, hcl, hcm, hnil, hby⟩ := hk
  have hk : Bs W 0 W.heap.size (.slice A key.length c) key := ⟨A, c, rfl, hcl, hcm, hnil, hby⟩
  by_cases hl : 9000 < key.length
  · have d : decide ((9000 : Int) < (key.length : Int)) = true := by simp; omega
    clear hk hb bk hT hs hby hnil hcl hcm hl
    go_enter Tryd.func3, Tryd.ntmps3
    go_wp2_with fail
    refine Calls.mono HKN.out ?_
    rintro e w1 ⟨rfl, hx⟩
    have HX := Lib.hid hx
    clear hx
    go_wp2_with fail
    go_ret
    exact ⟨rfl, HX.out⟩
  · have d : decide ((9000 : Int) < (key.length : Int)) = false := by simp; omega
    have H1 := Lib.hid (height_any hk bk hb.1 hb.2 hT (by omega))
    have H2 := Lib.hid (rheight_any hk bk hb.1 hb.2 (by omega))
    obtain ⟨n, hn⟩ : ∃ n, n = hgt key s := ⟨_, rfl⟩
    have hn8 : 1 ≤ n ∧ n ≤ 8 := by rw [hn]; exact hgt_le _ _
    rw [← hn] at H1 H2
    have d1 : decide ((1 : Int) ≤ (n : Int)) = true := by simp; omega
    have d2 : decide ((n : Int) ≤ 8) = true := by simp; omega
    have d3 : ((n : Int) == (n : Int)) = true := by simp
    clear hk hb bk hT hs hby hnil hcl hcm hl hn hn8
    go_enter Tryd.func3, Tryd.ntmps3
    go_wp2_with fail
    refine Calls.mono H1.out ?_
    rintro e w1 ⟨rfl, hw1⟩
    have hw1 := hw1.symm
    subst hw1
    go_wp2_with fail
    refine Calls.mono H2.out ?_
    rintro e w1 ⟨rfl, rfl⟩
    go_wp2_with fail
    refine Calls.mono HKN.out ?_
    rintro e w1 ⟨rfl, hx⟩
    have HX := Lib.hid hx
    clear hx
    go_wp2_with fail
    go_ret
    exact ⟨rfl, HX.out⟩
end Go.Proofs.YtpfaoiickmpmjaaDoor.skipHeights

/- Entries that came in. -/
namespace Go.Proofs.YtpfaoiickmpmjaaDoor
open Go.ChangeShapes Go.WideShapes Go.ChangeAt Go.RowKit Go.Joins

theorem reach_is : reachBytes = 140737488351232 := by decide
section
variable {H : Type} {enc : TypeId × Value → H} {W : World}

set_option maxRecDepth 100000 in
/-- A field that is a slice of bytes. -/
theorem cell_bytes {fuel : Nat} {cs : List Value} {y : DataW H × List MemPlace} (h : DataW.trod enc Tryd.prog W 0 (fun _ => true) true fuel 22 cs = some y) :
    ∃ (A : Option Addr) (c : Nat) (l : List Nat), cs = [.slice A l.length c] ∧ (∀ b ∈ l, b < 256) ∧ Bs W 0 W.heap.size (.slice A l.length c) l ∧ ((∀ n ∈ y.1.weights Tryd.prog 22, n ≤ reachBytes) → l.length ≤ reachBytes) := by
  rcases open_ints Tryd.underlying22 Tryd.underlying5 (by kernel_rfl) h with ⟨hcs, _⟩ | ⟨x, l, c, zs, hcs, _, hl', hm', hz, hdx, hcell, hwz⟩
  · exact ⟨none, 0, [], hcs, by simp, Bs.nil _ _ _, fun _ => by simp⟩
  · obtain ⟨l', q1, q2, q3⟩ := bs_cells hl' hm' (by simpa using hz) hcell hwz
    refine ⟨some x, c, l', by rw [q1]; exact hcs, q2, by rw [q1]; exact q3, fun hw => ?_⟩
    have hb1 : Tryd.prog.bytesOf 5 = 1 := by kernel_rfl
    have h4 := hw (((zs.take l).length + (zs.drop l).length) * Tryd.prog.bytesOf 5) (by rw [hdx]; simp [DataW.weights, Tryd.underlying22, lits])
    rw [hb1, List.length_take, List.length_drop] at h4
    simp at hz
    omega

set_option maxRecDepth 100000 in
/-- The cells of an entry. -/
theorem cells_entry {fuel : Nat} {cs : List Value} {y : DataW H × List MemPlace} (h : DataW.trod enc Tryd.prog W 0 (fun _ => true) true fuel 40 cs = some y) :
    ∃ (e : Ent) (g : Hd), cs = ecells (e, g) ∧ Em W 0 W.heap.size e g ∧ ((∀ n ∈ y.1.weights Tryd.prog 40, n ≤ reachBytes) → e.key.length ≤ reachBytes ∧ e.val.length ≤ reachBytes) := by
  obtain ⟨y0, y1, y2, y3, n, hx, hl, h0, h1, h2, h3⟩ := trod_struct4 Tryd.underlying40 h
  have hC : Tryd.prog.cellsOf 40 = 4 := by kernel_rfl
  have hC0 : Tryd.prog.cellsOf 22 = 1 := by kernel_rfl
  have hC1 : Tryd.prog.cellsOf 2 = 1 := by kernel_rfl
  have hC2 : Tryd.prog.cellsOf 38 = 1 := by kernel_rfl
  rw [hC] at hl
  obtain ⟨a, b, c, d, rfl⟩ : ∃ a b c d, cs = [a, b, c, d] := by
    match cs, hl with
    | [a, b, c, d], _ => exact ⟨a, b, c, d, rfl⟩
  simp only [hC0, hC1, hC2, List.drop_zero, List.take_succ_cons, List.take_zero, List.drop_succ_cons] at h0 h1 h2 h3
  obtain ⟨A, c0, k, e0, bk, hk, wk⟩ := cell_bytes h0
  obtain ⟨s, e1, _, ws⟩ := DataW.trod_int Tryd.underlying2 h1
  obtain ⟨t, e2, _, wt⟩ := DataW.trod_int Tryd.underlying38 h2
  obtain ⟨A3, c3, v, e3, bv', hv, wv⟩ := cell_bytes h3
  injection e0 with e0
  injection e1 with e1
  injection e2 with e2
  injection e3 with e3
  subst e0 e1 e2 e3
  have hws := i64_wf ws
  have hwt := i64_wf wt
  refine ⟨⟨k, s, t, v⟩, ⟨A, c0, A3, c3⟩, rfl, ⟨hk, hv, bk, bv', hws.1, hws.2, hwt.1, hwt.2⟩, fun hw => ?_⟩
  have hwe : ∀ n ∈ DataW.weightsEach Tryd.prog [22, 2, 38, 22] [y0.1, y1.1, y2.1, y3.1], n ≤ reachBytes := fun n hn => hw n (by
    rw [hx]
    simp only [DataW.weights, Tryd.underlying40]
    exact hn)
  exact ⟨wk fun n hn => hwe n (DataW.weights_mem_each (j := 0) rfl rfl n hn), wv fun n hn => hwe n (DataW.weights_mem_each (j := 3) rfl rfl n hn)⟩

set_option maxRecDepth 100000 in
/-- An entry that came in, by value. -/
theorem open_entry {v : Value} {d : DataW H} {p : List MemPlace} {b0 : Nat} (hv : Value.okWide Tryd.prog W .any b0 40 v) (h : DataW.Trod enc Tryd.prog W 0 (fun _ => true) true 40 v d p)
    {ts : List TypeId} {ds : List (DataW H)} (hsz : (DataW.weightsEach Tryd.prog ts ds).all (· ≤ reachBytes) = true) {jj : Nat} (hts : ts[jj]? = some 40) (hds : ds[jj]? = some d) :
    ∃ (e : Ent) (g : Hd), v = e.at_ g ∧ Em W 0 W.heap.size e g ∧ e.key.length ≤ 140737488351232 ∧ e.val.length ≤ 140737488351232 := by
  obtain ⟨cs, rfl, hs⟩ := okWide_struct Tryd.underlying40 hv
  obtain ⟨fuel, hf⟩ := h
  obtain ⟨e, g, hc, hm, hw⟩ := cells_entry hf
  have hw2 := hw fun n hn => of_decide_eq_true (List.all_eq_true.1 hsz _ (DataW.weights_mem_each hts hds n hn))
  rw [reach_is] at hw2
  refine ⟨e, g, ?_, hm, hw2⟩
  have hcs : cs.toList = ecells (e, g) := by simpa [Value.cells] using hc
  unfold Ent.at_
  rw [show cs = (ecells (e, g)).toArray by rw [← hcs]]
  rfl

theorem weightsAll_at {P : Program} {e : TypeId} : ∀ {l : List (DataW H)} {d : DataW H}, d ∈ l → ∀ n ∈ d.weights P e, n ∈ DataW.weightsAll P e l
  | d' :: r, d, hd, n, hn => by
    simp only [DataW.weightsAll, List.mem_append]
    rcases List.mem_cons.1 hd with rfl | h
    · exact Or.inl hn
    · exact Or.inr (weightsAll_at h n hn)
set_option maxRecDepth 100000 in
/-- Entries that came in, in a row. -/
theorem open_entries {v : Value} {d : DataW H} {p : List MemPlace} {b0 : Nat} (hv : Value.okWide Tryd.prog W .any b0 26 v) (h : DataW.Trod enc Tryd.prog W 0 (fun _ => true) true 26 v d p)
    {ts : List TypeId} {ds : List (DataW H)} (hsz : (DataW.weightsEach Tryd.prog ts ds).all (· ≤ reachBytes) = true) {jj : Nat} (hts : ts[jj]? = some 26) (hds : ds[jj]? = some d) :
    ∃ (A : Option Addr) (c : Nat) (L : List (Ent × Hd)), v = .slice A L.length c ∧ L.length ≤ c ∧ c ≤ maxLen ∧ Es W 0 W.heap.size A L ∧ (∀ p ∈ L, p.1.key.length ≤ 140737488351232 ∧ p.1.val.length ≤ 140737488351232) ∧ L.length ≤ 2199023255552 := by
  obtain ⟨a0, len0, cap0, rfl⟩ := okWide_slice Tryd.underlying26 hv
  obtain ⟨fuel, hf⟩ := h
  have hC : Tryd.prog.cellsOf 40 = 4 := by kernel_rfl
  rcases Go.Deep.open_slice Tryd.underlying26 hf with ⟨hcs, _⟩ | ⟨a, len, cap, m, n, D, Pl, hcs, _, hl, hm, hmm, hdd, hx⟩
  · simp [Value.cells] at hcs
    obtain ⟨rfl, rfl, rfl⟩ := hcs
    exact ⟨none, 0, [], rfl, by simp, by simp [maxLen], ⟨Sl.nil _ _ _ _, by simp⟩, by simp, by simp⟩
  · simp [Value.cells] at hcs
    obtain ⟨rfl, rfl, rfl⟩ := hcs
    have hmc : m = cap0 := by rw [hmm]; simp
    have hdd1 : d = .slice ((List.range len0).map D) ((List.range (m - len0)).map fun j => D (len0 + j)) := congrArg Prod.fst hdd
    have hwt : ∀ i, i < len0 → ∀ n ∈ (D i).weights Tryd.prog 40, n ≤ reachBytes := fun i hi n hn => by
      refine of_decide_eq_true (List.all_eq_true.1 hsz _ (DataW.weights_mem_each hts hds n ?_))
      rw [hdd1]
      simp only [DataW.weights, Tryd.underlying26, List.mem_cons, List.mem_append]
      exact Or.inr (Or.inl (weightsAll_at (List.mem_map.2 ⟨i, List.mem_range.2 hi, rfl⟩) n hn))
    have hlen : len0 ≤ 2199023255552 := by
      have h3 := sized_slice hsz hts (by rw [hds, hdd1]) Tryd.underlying26
      have hb1 : Tryd.prog.bytesOf 40 = 64 := by kernel_rfl
      rw [hb1, reach_is] at h3
      simp at h3
      omega
    have each : ∀ i : Nat, ∃ t : Ent × Hd, i < len0 → (∀ j v, j < 4 → (ecells t)[j]? = some v → W.cell? ((a.add (i * 4)).add j) = some v) ∧ Em W 0 W.heap.size t.1 t.2 ∧ t.1.key.length ≤ 140737488351232 ∧ t.1.val.length ≤ 140737488351232 := by
      intro i
      by_cases hi : i < len0
      · obtain ⟨cs', hc', ht'⟩ := hx i (by omega)
        rw [hC] at hc'
        obtain ⟨_, hcl, hat⟩ := World.cells?_some hc'
        obtain ⟨e, g, hcc, hem, hw⟩ := cells_entry ht'
        have hw2 := hw (hwt i hi)
        rw [reach_is] at hw2
        exact ⟨(e, g), fun _ => ⟨fun j v hj hv => by rw [hat j hj, hcc]; exact hv, hem, hw2⟩⟩
      · exact ⟨(⟨[], 0, 0, []⟩, ⟨none, 0, none, 0⟩), fun h => absurd h hi⟩
    obtain ⟨F, hF⟩ := Classical.axiomOfChoice each
    have hat : ∀ i u, (erow ((List.range len0).map F))[i]? = some u → W.cell? (a.add i) = some u := by
      intro i u hu
      have hi : i < len0 * 4 := by
        have := (List.getElem?_eq_some_iff.1 hu).1
        rw [erow_length] at this
        simpa using this
      have hi4 : i / 4 < len0 := by omega
      have e1 : i = i / 4 * 4 + i % 4 := by omega
      rw [e1, erow_at _ (by simpa using hi4) (by omega)] at hu
      have h1 := (hF (i / 4) hi4).1 (i % 4) u (by omega) (by simpa using hu)
      have e2 : (a.add (i / 4 * 4)).add (i % 4) = a.add i := by
        obtain ⟨b, o, s⟩ := a
        have hc0 := (hF 0 (by omega)).1 0 _ (by omega) rfl
        have hs : s = none := by
          have := World.cell?_spot hc0
          simpa [Addr.add] using this
        subst hs
        rw [addr_add, addr_add, addr_add]
        congr 1; omega
      rw [← e2]; exact h1
    refine ⟨some a, cap0, (List.range len0).map F, by simp, by simpa using hl, hm, ⟨?_, ?_⟩, ?_, by simpa using hlen⟩
    · by_cases h0 : len0 = 0
      · exact .inl (by simp [h0, erow])
      · obtain ⟨b, o, spot⟩ := a
        have hc0 := (hF 0 (by omega)).1 0 _ (by omega) rfl
        have hspot : spot = none := by
          have := World.cell?_spot hc0
          simpa [Addr.add] using this
        subst hspot
        have hblt : b < W.heap.size := by
          have := World.block_lt_of_cell? W _ hc0
          rw [addr_add, addr_add] at this
          exact this
        exact .inr ⟨b, o, rfl, Nat.zero_le _, hblt, fun i u hu => by have := hat i u hu; rwa [addr_add] at this⟩
    · intro q hq
      simp only [List.mem_map, List.mem_range] at hq
      obtain ⟨i, hi, rfl⟩ := hq
      exact (hF i hi).2.1
    · intro q hq
      simp only [List.mem_map, List.mem_range] at hq
      obtain ⟨i, hi, rfl⟩ := hq
      exact (hF i hi).2.2
end
end Go.Proofs.YtpfaoiickmpmjaaDoor

/- SkipHeights: from the walk to the card. For every input the law answers true and leaves its arguments as they were; of the table of trailing noughts it is asked that it holds what the program's text lays. -/
namespace Go.Proofs.YtpfaoiickmpmjaaDoor.skipHeights
open Go.ChangeShapes Go.WideShapes Go.ChangeAt Go.RowKit
set_option linter.unusedVariables false

theorem gTab : Tryd.prog.globalNamed "math/bits.deBruijn32tab" = some 0 := by kernel_rfl
theorem gTabType : (Tryd.prog.globals[0]?).map (·.type) = some 84 := by kernel_rfl
theorem cellsA : Tryd.prog.cellsOf 84 = 32 := by kernel_rfl
theorem cellsE : Tryd.prog.cellsOf 5 = 1 := by kernel_rfl
/-- What the row's list gives. -/
theorem table {W : World} (h : laidMetH Tryd.prog Rows.skipHeightsRow.laid W) : Tab W := fun j hj => by
  have h1 : Lib.TabIs Tryd.prog W "math/bits.deBruijn32tab" .u8 (Lib.deBruijn32tab.map fun n : Nat => (n : Int)) := Lib.tabIs_of_head (rest := []) gTab gTabType Tryd.underlying84 Tryd.underlying5 cellsE cellsA h
  have h2 := h1.cell gTab j (by rw [List.length_map]; exact hj)
  rw [h2]
  simp [List.getD, hj]

theorem contract (H : Type) (enc : TypeId × Value → H) (W : World) (base : Nat) (args : Array Value) (ds gs : List (DataW H)) (before : List MemPlace)
    (hval0 : ∀ (j : Nat) t v, Tryd.f3.params[j]? = some t → args[j]? = some v → Value.okWide Tryd.prog W .any base t v)
    (hW : DataW.Whole enc Tryd.prog Tryd.f3.params.toList Rows.skipHeightsSpec.vars false W args.toList ds gs before)
    (hsz0 : (DataW.weightsEach Tryd.prog (Tryd.f3.params.toList ++ (OpenSpec.ofChange Rows.skipHeightsSpec).bare.plain.varTypes Tryd.prog) (ds ++ gs)).all (· ≤ reachBytes) = true) (hL : laidMetH Tryd.prog Rows.skipHeightsRow.laid W) :
    Calls Tryd.prog 3 args W fun e W' => ∃ v, e = .returned v ∧ Rows.skipHeightsSpec.post enc Tryd.prog Tryd.f3 false true false false W args v W' := by
  have hsz : (DataW.weightsEach Tryd.prog (Tryd.f3.params.toList ++ Rows.skipHeightsSpec.plain.varTypes Tryd.prog) (ds ++ gs)).all (· ≤ reachBytes) = true := hsz0
  have hval : ∀ (j : Nat) t v, Tryd.f3.params[j]? = some t → args[j]? = some v → Value.okWide Tryd.prog W .any base t v := hval0
  have hT := table hL
  have hW' := hW
  obtain ⟨p, q, hA0, hV, rfl, hfz, hnd⟩ := hW
  have hA : DataW.TrodAll enc Tryd.prog W 0 (fun _ => true) true Tryd.f3.params.toList args.toList ds p := hA0
  rw [Tryd.params3] at hA hval hsz
  obtain ⟨v0, vs0, d0, ds0, p0, q0, hargs, rfl, rfl, h0, r0⟩ := trodAll_cons hA
  obtain ⟨v1, vs1, d1, ds1, p1, q1, rfl, rfl, rfl, h1, r1⟩ := trodAll_cons r0
  obtain ⟨rfl, rfl, rfl⟩ := trodAll_nil r1
  obtain rfl : args = #[v0, v1] := by cases args; simp_all
  obtain ⟨rfl, rfl⟩ := trodVars_none hV
  have k0 := h0
  have lt0 : ∀ x ∈ p0, x.block < W.heap.size := by obtain ⟨m, hm⟩ := k0; exact DataW.trod_lt m _ _ _ hm
  obtain ⟨l0, y0, b0⟩ := open_bytes (hval 0 22 v0 rfl rfl) h0
  obtain ⟨a1, rfl, rfl, rfl, w1⟩ := open_int Tryd.underlying2 (hval 1 2 v1 rfl rfl) h1
  clear hA0 hval0 hsz0
  refine (walk W hT v0 l0 y0 b0 a1 w1).mono fun e W' ⟨he, bel⟩ => ?_
  subst he
  exact ⟨_, rfl, _, _, _, [], _, [], hW', trodAll_mk1 (shut_bool Tryd.underlying4 _), (trodAll_cons_mk (Below.trod laidOut (by kernel_rfl) (of_decide_eq_true (by kernel_rfl)) k0 bel lt0) (trodAll_cons_mk (shut_int Tryd.underlying2 w1) trodAll_mk0)), rfl, bel.frame _, fun h => by cases h⟩

/-- A world for the witness: the settled one, the table holding what its initialiser lays. -/
noncomputable def laidWorld (os : Os) : World :=
  { World.holding Tryd.prog os ⟨#[], #[], []⟩ with heap := (World.holding Tryd.prog os ⟨#[], #[], []⟩).heap.modify 0 fun
      | .cells _ t frozen => .cells #[.int .u8 0, .int .u8 1, .int .u8 28, .int .u8 2, .int .u8 29, .int .u8 14, .int .u8 24, .int .u8 3, .int .u8 30, .int .u8 22, .int .u8 20, .int .u8 15, .int .u8 25, .int .u8 17, .int .u8 4, .int .u8 8, .int .u8 31, .int .u8 27, .int .u8 13, .int .u8 23, .int .u8 21, .int .u8 19, .int .u8 16, .int .u8 7, .int .u8 26, .int .u8 12, .int .u8 18, .int .u8 6, .int .u8 11, .int .u8 5, .int .u8 10, .int .u8 9] t frozen
      | o => o }
theorem laid_met (os : Os) : laidMet Tryd.prog Rows.skipHeightsRow.laid ((laidWorld os).forCall (fun _ _ => 0) ⟨#[], #[.slice none 0 0, .int .i64 0], []⟩).memory :=
  laidMet_of_run' 8 (by kernel_rfl) (by kernel_rfl)
theorem reads (os : Os) {H : Type} (enc : TypeId × Value → H) : ∃ places, DataW.whole enc Tryd.prog ((laidWorld os).forCall (fun _ _ => 0) ⟨#[], #[.slice none 0 0, .int .i64 0], []⟩).memory Tryd.f3.params.toList Rows.skipHeightsSpec.vars false (#[.slice none 0 0, .int .i64 0] : Array Value).toList 8 = some ([.nil, .lit (.int .i64 0)], [], places) :=
  ⟨[], by kernel_rfl⟩

set_option maxRecDepth 100000 in
theorem lifted (os : Os) (started : os.Started) (H : Type) (enc : TypeId × Value → H) (F : Stop.Interp) :
    ReturnsInHanded {} Tryd.checked os 3 .any ((OpenSpec.ofChange Rows.skipHeightsSpec).preRow enc Tryd.prog Tryd.f3 Rows.skipHeightsRow.domain false Rows.skipHeightsRow.laid) (((OpenSpec.ofChange Rows.skipHeightsSpec).at F).post enc Tryd.prog Tryd.f3 false true false false) := by
  obtain ⟨places, hx⟩ := reads os enc
  refine returnsInHanded_of_row (C := Tryd.checked) (s := OpenSpec.ofChange Rows.skipHeightsSpec) own started (by kernel_rfl) Tryd.func3
    (witness_row_at (enc := enc) (C := Tryd.checked) false (laidWorld os) #[.slice none 0 0, .int .i64 0] rfl (by kernel_rfl) (by kernel_rfl) (by kernel_rfl)
      (OpenSpec.preRow_of_cond 8 hx (by kernel_rfl) (fun k hk => by cases hk) (by kernel_rfl) (laid_met os))) ?_
  intro W base args ds gs before hval hW _ _ hsz hL _ _
  exact contract H enc W base args ds gs before hval hW hsz hL

theorem said : Rows.SkipHeightsSaid :=
  OpenClaim.holds_of_cond 3 Tryd.f3 rfl rfl rfl rfl rfl rfl rfl ⟨rfl, rfl, rfl, rfl, rfl⟩ rfl rfl rfl rfl rfl (by kernel_rfl) Tryd.func3 (by kernel_rfl)
    (of_decide_eq_true (by kernel_rfl)) (by unfold Func.isWrapper; first | (rw [if_pos (by decide +kernel)]; kernel_rfl) | (rw [if_neg (by decide +kernel)]; exact ⟨rfl, rfl⟩))
    (fun os started H enc _ F => by rw [OpenClaim.pre_eq_preRow]; exact lifted os started H enc F)

theorem plain (f : FuncId) (fn : Func) (hf : Tryd.pinned.checked.prog.funcNamed "hectare/hectarelaw06.SkipHeights" = some f) (hfn : Tryd.pinned.checked.prog.funcs[f]? = some fn) :
    false = Tryd.pinned.checked.prog.looks [] ∧ ∀ (j : Nat) t, fn.params[j]? = some t → Tryd.pinned.checked.prog.wantsStandIn t = false := by
  obtain rfl : f = 3 := Option.some.inj ((show Tryd.prog.funcNamed "hectare/hectarelaw06.SkipHeights" = some 3 by kernel_rfl).symm.trans hf) |>.symm
  obtain rfl : fn = Tryd.f3 := (Option.some.inj (Tryd.func3.symm.trans hfn)).symm
  refine ⟨by kernel_rfl, fun j t ht => ?_⟩
  rw [Tryd.params3] at ht
  have hm : t ∈ [22, 2] := by have := Array.mem_of_getElem? ht; simp at this; simp; omega
  have hall : ([22, 2].all fun u => !Tryd.prog.wantsStandIn u) = true := by kernel_rfl
  exact (show Tryd.prog.wantsStandIn t = false by simpa using List.all_eq_true.1 hall t hm)

theorem proved : Rows.SkipHeightsCardSaid :=
  Claim7.holds_tied_plain_at .later [] _ _ _ _ said (fun _ h => by cases h) (by kernel_rfl) (fun _ h => by cases h) skipHeights_row_tie rfl ⟨rfl, rfl⟩ (by kernel_rfl) rfl plain (by kernel_rfl)
end Go.Proofs.YtpfaoiickmpmjaaDoor.skipHeights
