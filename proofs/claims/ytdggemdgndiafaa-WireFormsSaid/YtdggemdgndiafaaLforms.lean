/- WireForms: bytes that are read are the form of what is read of them. -/
import Derived.Test.YtdggemdgndiafaaWas
namespace Go.Proofs.Ytdggemdgndiafaa.wireForms
open Go.ChangeShapes Go.WideShapes Go.ChangeAt Go.RowKit

/-- A reader of the law's own, and where the memory begins that is the law's own. -/
structure Mine (w : World) (B r lo hi : Nat) (l : List Nat) : Prop where
  rd : Rd w r lo hi l
  hr : B ≤ r
  hlo : B ≤ lo

theorem Mine.below {w w' : World} {B C r lo hi : Nat} {l : List Nat} (h : Mine w B r lo hi l) (hb : Below C w w') (h1 : hi ≤ C) (h2 : r < C) : Mine w' B r lo hi l := ⟨h.rd.below hb h1 h2, h.hr, h.hlo⟩
theorem Mine.far {w w' : World} {B r lo hi s : Nat} {l : List Nat} (h : Mine w B r lo hi l) (hg : w.grownBy w' (some s)) (hne : r ≠ s) (hs : s < lo ∨ hi ≤ s) : Mine w' B r lo hi l :=
  ⟨h.rd.grown hg (by simpa using hne) (fun k hk => by injection hk with hk; omega), h.hr, h.hlo⟩

set_option maxRecDepth 100000 in
set_option maxHeartbeats 8000000 in
theorem walk (w : World) (v : Value) (L : List Nat) (hLb : ∀ b ∈ L, b < 256) (hL : Bs w 0 w.heap.size v L) :
    Calls Try.prog 8 #[v] w fun e w' => e = .returned (.bool true) ∧ Below w.heap.size w w' := by
  have HL := Lib.hid hL
  have HLB := Lib.hid hLb
  obtain ⟨A, c, rfl, x1, x2, x3, x4⟩ := hL
  clear x1 x2 x3 x4 hLb
  by_cases hbig : 3000 < L.length
  · have hd : decide ((3000 : Int) < (L.length : Int)) = true := by simp; omega
    have hd2 : decide (3000 < L.length) = true := by simp [hbig]
    have HK := Lib.hid (known_any w)
    clear hbig
    go_enter Try.func8, Try.ntmps8
    go_wp2_with fail
    refine Calls.mono HK.out ?_
    rintro e w1 ⟨rfl, hb1⟩
    go_wp2_with fail
    go_ret
    exact ⟨rfl, hb1⟩
  · have hd : decide ((3000 : Int) < (L.length : Int)) = false := by simp; omega
    have hd2 : decide (3000 < L.length) = false := by simp; omega
    have HLEN := Lib.hid (show L.length ≤ 3000 by omega)
    clear hbig
    go_enter Try.func8, Try.ntmps8
    go_wp2_with fail
    refine (open_any _ _ _ L _ HL.out (Nat.le_refl _) (by have := HLEN.out; omega) HLB.out).mono ?_
    rintro e w1 ⟨p, lop, hip, rfl, hrd1, hr1, hlo1, hb1⟩
    have hz1 := hb1.size
    have HP1 : Hid (Mine w1 w.heap.size p lop hip L) := ⟨hrd1, hr1, hlo1⟩
    have HB1 := Lib.hid hb1
    have t1 := hrd1.top
    have t2 := hrd1.lt
    clear hrd1 hb1
    go_wp2_with fail
    refine (open_any _ _ _ L _ (HL.out.below HB1.out (Nat.le_refl _)) hz1 (by have := HLEN.out; omega) HLB.out).mono ?_
    rintro e w2 ⟨q, loq, hiq, rfl, hrd2, hr2, hlo2, hb2⟩
    have hz2 := hb2.size
    have HP2 := Lib.hid (HP1.out.below hb2 t1 t2)
    have HQ2 : Hid (Mine w2 w1.heap.size q loq hiq L) := ⟨hrd2, hr2, hlo2⟩
    have HB2 := Lib.hid (HB1.out.trans (hb2.mono hz1))
    have t3 := hrd2.top
    have t4 := hrd2.lt
    clear hrd2 hb2
    go_wp2_with fail
    refine (open_any _ _ _ L _ (HL.out.below HB2.out (Nat.le_refl _)) (by omega) (by have := HLEN.out; omega) HLB.out).mono ?_
    rintro e w3 ⟨s, los, his, rfl, hrd3, hr3, hlo3, hb3⟩
    have hz3 := hb3.size
    have HP3 := Lib.hid (HP2.out.below hb3 (by omega) (by omega))
    have HQ3 := Lib.hid (HQ2.out.below hb3 t3 t4)
    have HS3 : Hid (Mine w3 w2.heap.size s los his L) := ⟨hrd3, hr3, hlo3⟩
    have HB3 := Lib.hid (HB2.out.trans (hb3.mono (by omega)))
    have t5 := hrd3.top
    have t6 := hrd3.lt
    clear hrd3 hb3
    go_wp2_with fail
    refine (open_any _ _ _ L _ (HL.out.below HB3.out (Nat.le_refl _)) (by omega) (by have := HLEN.out; omega) HLB.out).mono ?_
    rintro e w4 ⟨t, lot, hit, rfl, hrd4, hr4, hlo4, hb4⟩
    have hz4 := hb4.size
    have HP4 := Lib.hid (HP3.out.below hb4 (by omega) (by omega))
    have HQ4 := Lib.hid (HQ3.out.below hb4 (by omega) (by omega))
    have HS4 := Lib.hid (HS3.out.below hb4 t5 t6)
    have HT4 : Hid (Mine w4 w3.heap.size t lot hit L) := ⟨hrd4, hr4, hlo4⟩
    have HB4 := Lib.hid (HB3.out.trans (hb4.mono (by omega)))
    have t7 := hrd4.top
    have t8 := hrd4.lt
    clear hrd4 hb4
    go_wp2_with fail
    refine (Number_as HP4.out.rd).mono ?_
    rintro e w5 ⟨n, k1, rest1, hn, has1, rfl, hrd5, hg5⟩
    have hz5 := hg5.size
    have HN := Lib.hid hn
    have HA1 := Lib.hid has1
    have HP5 : Hid (Mine w5 w.heap.size p lop hip rest1) := ⟨hrd5, hr1, hlo1⟩
    have HQ5 := Lib.hid (HQ4.out.far hg5 (by omega) (by omega))
    have HS5 := Lib.hid (HS4.out.far hg5 (by omega) (by omega))
    have HT5 := Lib.hid (HT4.out.far hg5 (by omega) (by omega))
    have HB5 := Lib.hid (HB4.out.grown hg5 (by omega) (fun k hk => by injection hk with hk; omega))
    clear hn has1 hrd5 hg5
    go_wp2_with fail
    refine (Signed_as HQ5.out.rd).mono ?_
    rintro e w6 ⟨m, k2, rest2, hm, has2, rfl, hrd6, hg6⟩
    have hz6 := hg6.size
    have HM := Lib.hid hm
    have HA2 := Lib.hid has2
    have HP6 := Lib.hid (HP5.out.far hg6 (by omega) (by omega))
    have HQ6 : Hid (Mine w6 w1.heap.size q loq hiq rest2) := ⟨hrd6, hr2, hlo2⟩
    have HS6 := Lib.hid (HS5.out.far hg6 (by omega) (by omega))
    have HT6 := Lib.hid (HT5.out.far hg6 (by omega) (by omega))
    have HB6 := Lib.hid (HB5.out.grown hg6 (by omega) (fun k hk => by injection hk with hk; omega))
    clear hm has2 hrd6 hg6
    go_wp2_with fail
    refine (Bytes_as HS6.out.rd (by have := HLEN.out; omega) (by omega) (by have := HLEN.out; omega)).mono ?_
    rintro e w7 ⟨vx, X, k3, rest3, hX, hbs, has3, rfl, hrd7, hg7⟩
    have hz7 := hg7.size
    have HX := Lib.hid hX
    have HXB7 := Lib.hid hbs
    have HA3 := Lib.hid has3
    have HP7 := Lib.hid (HP6.out.far hg7 (by omega) (by omega))
    have HQ7 := Lib.hid (HQ6.out.far hg7 (by omega) (by omega))
    have HS7 : Hid (Mine w7 w2.heap.size s los his rest3) := ⟨hrd7, hr3, hlo3⟩
    have HT7 := Lib.hid (HT6.out.far hg7 (by omega) (by omega))
    have HB7 := Lib.hid (HB6.out.grown hg7 (by omega) (fun k hk => by injection hk with hk; omega))
    clear hX hbs has3 hrd7 hg7
    go_wp2_with fail
    refine (Take_as HT7.out.rd (by have := HLEN.out; omega) (by omega) (by have := HLEN.out; omega)).mono ?_
    rintro e w8 ⟨vl, xs, k4, rest4, hxl, hxu, hus, has4, rfl, hrd8, hg8⟩
    have hz8 := hg8.size
    have HXL := Lib.hid hxl
    have HXU := Lib.hid hxu
    have HA4 := Lib.hid has4
    have HP8 := Lib.hid (HP7.out.far hg8 (by omega) (by omega))
    have HQ8 := Lib.hid (HQ7.out.far hg8 (by omega) (by omega))
    have HS8 := Lib.hid (HS7.out.far hg8 (by omega) (by omega))
    have HT8 : Hid (Mine w8 w3.heap.size t lot hit rest4) := ⟨hrd8, hr4, hlo4⟩
    have HXB8 := Lib.hid (HXB7.out.grown hg8 (Nat.le_refl _) (fun k hk => by injection hk with hk; omega))
    have HB8 := Lib.hid (HB7.out.grown hg8 (by omega) (fun k hk => by injection hk with hk; omega))
    obtain ⟨Al, cl, rfl, hc1, hc2, hsl⟩ := hus
    have HSL := Lib.hid hsl
    have HC1 := Lib.hid hc1
    have HC2 := Lib.hid hc2
    clear hxl hxu has4 hrd8 hg8 hsl hc1 hc2
    go_wp2_with fail
    refine (Put_any Al cl _ _ xs _ rfl _ HSL.out (Nat.le_refl _) HC2.out HC1.out HXU.out (by have := HXL.out; have := HLEN.out; omega)).mono ?_
    rintro e w9 ⟨vy, rfl, hown9, hb9⟩
    have hz9 := hb9.size
    have HYB := Lib.hid (Bs.of_own hown9)
    have HP9 := Lib.hid (HP8.out.below hb9 (by omega) (by omega))
    have HQ9 := Lib.hid (HQ8.out.below hb9 (by omega) (by omega))
    have HS9 := Lib.hid (HS8.out.below hb9 (by omega) (by omega))
    have HT9 := Lib.hid (HT8.out.below hb9 (by omega) (by omega))
    have HXB9 := Lib.hid (HXB8.out.below hb9 (by omega))
    have HB9 := Lib.hid (HB8.out.trans (hb9.mono (by omega)))
    clear hown9 hb9
    have hL1 : L.length ≤ 1000000000000 := by have := HLEN.out; omega
    have HL1 := Lib.hid hL1
    clear hL1
    go_wp2_with fail
    refine (errnum 0 _).mono ?_
    rintro e wz ⟨rfl, rfl⟩
    -- the number
    go_wp2_with fail
    refine (left_any _ _ _ _ _ HP9.out.rd).mono ?_
    rintro e wz ⟨rfl, rfl⟩
    go_wp2_with fail
    refine (errnum _ _).mono ?_
    rintro e wz ⟨rfl, rfl⟩
    go_wp2_with fail
    refine (number_any n HN.out _).mono ?_
    rintro e w10 ⟨v10, rfl, hown10, hb10⟩
    have hz10 := hb10.size
    have HF := Lib.hid (Bs.of_own hown10)
    have HB10 := Lib.hid (HB9.out.trans (hb10.mono (by omega)))
    clear hown10
    go_wp2_with fail
    refine (as_any HA1.out _ v10 _ _ _ _ _ (HL.out.below HB10.out (Nat.le_refl _)) HF.out (by omega) (Nat.le_refl _) HL1.out).mono ?_
    rintro e w11 ⟨rfl, hb11⟩
    have hz11 := hb11.size
    have HB11 := Lib.hid (HB10.out.trans (hb11.mono (by omega)))
    have hq := hb10.trans (hb11.mono hz10)
    have HQ11 := Lib.hid (HQ9.out.below hq (by omega) (by omega))
    have HS11 := Lib.hid (HS9.out.below hq (by omega) (by omega))
    have HT11 := Lib.hid (HT9.out.below hq (by omega) (by omega))
    have HXB11 := Lib.hid (HXB9.out.below hq (by omega))
    have HYB11 := Lib.hid (HYB.out.below hq (by omega))
    clear hb10 hb11 hq
    -- the signed number
    go_wp2_with fail
    refine (left_any _ _ _ _ _ HQ11.out.rd).mono ?_
    rintro e wz ⟨rfl, rfl⟩
    go_wp2_with fail
    refine (errnum _ _).mono ?_
    rintro e wz ⟨rfl, rfl⟩
    go_wp2_with fail
    refine (signed_any m HM.out.1 HM.out.2 _).mono ?_
    rintro e w12 ⟨v12, rfl, hown12, hb12⟩
    have hz12 := hb12.size
    have HF2 := Lib.hid (Bs.of_own hown12)
    have HB12 := Lib.hid (HB11.out.trans (hb12.mono (by omega)))
    clear hown12
    go_wp2_with fail
    refine (as_any HA2.out _ v12 _ _ _ _ _ (HL.out.below HB12.out (Nat.le_refl _)) HF2.out (by omega) (Nat.le_refl _) HL1.out).mono ?_
    rintro e w13 ⟨rfl, hb13⟩
    have hz13 := hb13.size
    have HB13 := Lib.hid (HB12.out.trans (hb13.mono (by omega)))
    have hq := hb12.trans (hb13.mono hz12)
    have HS13 := Lib.hid (HS11.out.below hq (by omega) (by omega))
    have HT13 := Lib.hid (HT11.out.below hq (by omega) (by omega))
    have HXB13 := Lib.hid (HXB11.out.below hq (by omega))
    have HYB13 := Lib.hid (HYB11.out.below hq (by omega))
    clear hb12 hb13 hq
    -- the bytes
    go_wp2_with fail
    refine (left_any _ _ _ _ _ HS13.out.rd).mono ?_
    rintro e wz ⟨rfl, rfl⟩
    go_wp2_with fail
    refine (errnum _ _).mono ?_
    rintro e wz ⟨rfl, rfl⟩
    go_wp2_with fail
    refine (bytes_any _ _ _ X _ HXB13.out (by omega) (by have := HX.out; have := HL1.out; omega)).mono ?_
    rintro e w14 ⟨v14, rfl, hown14, hb14⟩
    have hz14 := hb14.size
    have HF3 := Lib.hid (Bs.of_own hown14)
    have HB14 := Lib.hid (HB13.out.trans (hb14.mono (by omega)))
    clear hown14
    go_wp2_with fail
    refine (as_any HA3.out _ v14 _ _ _ _ _ (HL.out.below HB14.out (Nat.le_refl _)) HF3.out (by omega) (Nat.le_refl _) HL1.out).mono ?_
    rintro e w15 ⟨rfl, hb15⟩
    have hz15 := hb15.size
    have HB15 := Lib.hid (HB14.out.trans (hb15.mono (by omega)))
    have hq := hb14.trans (hb15.mono hz14)
    have HT15 := Lib.hid (HT13.out.below hq (by omega) (by omega))
    have HYB15 := Lib.hid (HYB13.out.below hq (by omega))
    clear hb14 hb15 hq
    -- the list
    go_wp2_with fail
    refine (left_any _ _ _ _ _ HT15.out.rd).mono ?_
    rintro e wz ⟨rfl, rfl⟩
    go_wp2_with fail
    refine (errnum _ _).mono ?_
    rintro e wz ⟨rfl, rfl⟩
    go_wp2_with fail
    refine (as_any HA4.out _ vy _ _ _ _ _ (HL.out.below HB15.out (Nat.le_refl _)) HYB15.out (by omega) (by omega) HL1.out).mono ?_
    rintro e w16 ⟨rfl, hb16⟩
    have HB16 := Lib.hid (HB15.out.trans (hb16.mono (by omega)))
    have hz16 := hb16.size
    clear hb16
    go_wp2_with fail
    refine (known_any _).mono ?_
    rintro e w17 ⟨rfl, hb17⟩
    have HB17 := Lib.hid (HB16.out.trans (hb17.mono (by omega)))
    clear hb17
    go_wp2_with fail
    go_ret
    exact ⟨rfl, HB17.out⟩
end Go.Proofs.Ytdggemdgndiafaa.wireForms
