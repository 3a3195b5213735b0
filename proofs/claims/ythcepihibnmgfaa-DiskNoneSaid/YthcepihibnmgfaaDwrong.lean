/- What is wrong with what is told of a crash. -/
import Derived.Test.YthcepihibnmgfaaDkept
namespace Go.Proofs.Ythcepihibnmgfaa
open Go.RowKit Go.Maps

/-- The names that are told. -/
def kn (ks : List (ByteArray × Int)) : List (List UInt8) := ks.map fun x => x.1.data.toList
/-- The map of them. -/
def loosed (ks : List (ByteArray × Int)) : DataW Value := ks.foldl (fun D x => D.put (.string x.1.data.toList) (.lit (.int .i64 x.2))) (.map [])
/-- How many loose bytes are kept of a file. -/
def look (ks : List (ByteArray × Int)) (n : List UInt8) : Int := ((ks.reverse.find? fun x => x.1.data.toList == n).map (·.2)).getD 0
theorem loosed_snoc (ks : List (ByteArray × Int)) (x : ByteArray × Int) : loosed (ks ++ [x]) = (loosed ks).put (.string x.1.data.toList) (.lit (.int .i64 x.2)) := by simp [loosed, List.foldl_append]

structure LooseInv (ks : List (ByteArray × Int)) (D : DataW Value) : Prop where
  tidy : Tidy D
  has : ∀ n, Maps.has D (.string n) = (kn ks).any (· == n)
  at_ : ∀ n, D.atKey (.string n) (.lit (.int .i64 0)) = .lit (.int .i64 (look ks n))
  le : size D ≤ ks.length
  eq : size D = ks.length ↔ (kn ks).Nodup

theorem LooseInv.snoc {ks : List (ByteArray × Int)} {D : DataW Value} (h : LooseInv ks D) (x : ByteArray × Int) (hx : x.1.size ≤ maxLen) : LooseInv (ks ++ [x]) (D.put (.string x.1.data.toList) (.lit (.int .i64 x.2))) := by
  have hk := keyLit hx
  have hs := size_put h.tidy (k := .string x.1.data.toList) (.lit (.int .i64 x.2))
  have hkn : kn (ks ++ [x]) = kn ks ++ [x.1.data.toList] := by simp [kn]
  have hl : ∀ n, look (ks ++ [x]) n = if x.1.data.toList = n then x.2 else look ks n := fun n => by
    unfold look
    rw [List.reverse_append, List.reverse_singleton, List.singleton_append, List.find?_cons]
    by_cases e : x.1.data.toList = n
    · simp [e]
    · rw [if_neg e, show (x.1.data.toList == n) = false from by simpa using e]
  refine ⟨h.tidy.put hk _, fun n => ?_, fun n => ?_, ?_, ?_⟩
  · rw [hkn, List.any_append]
    by_cases e : n = x.1.data.toList
    · subst e; rw [has_put_same h.tidy.isMap hk]; simp
    · rw [has_put_other (lit_ne e), h.has]; simp; intro e'; exact absurd e'.symm e
  · rw [hl]
    by_cases e : x.1.data.toList = n
    · rw [if_pos e, ← e, atKey_put_same h.tidy.isMap hk]
    · rw [if_neg e, atKey_put_other (lit_ne (fun e' => e e'.symm)), h.at_]
  · rw [hs]; have := h.le; split <;> simp <;> omega
  · rw [hs, h.has, hkn, List.nodup_append]
    have hle := h.le
    have heq := h.eq
    by_cases hin : (kn ks).any (· == x.1.data.toList) = true
    · rw [if_pos hin]
      simp only [List.length_append, List.length_singleton]
      refine ⟨fun e => by omega, fun ⟨_, _, hd⟩ => ?_⟩
      obtain ⟨y, hy, e⟩ := List.any_eq_true.1 hin
      exact absurd (by simpa using e) (hd y hy x.1.data.toList (by simp))
    · rw [if_neg hin]
      simp only [List.length_append, List.length_singleton]
      refine ⟨fun e => ⟨heq.1 (by omega), by simp, fun a ha b hb => ?_⟩, fun ⟨h1, _, _⟩ => by have := heq.2 h1; omega⟩
      simp at hb
      subst hb
      intro e
      exact hin (List.any_eq_true.2 ⟨a, ha, by simpa using e⟩)

theorem loose_fold : ∀ (l acc : List (ByteArray × Int)) (D : DataW Value), (∀ x ∈ l, x.1.size ≤ maxLen) → LooseInv acc D → LooseInv (acc ++ l) (l.foldl (fun D x => D.put (.string x.1.data.toList) (.lit (.int .i64 x.2))) D)
  | [], acc, D, _, h => by simpa using h
  | x :: l, acc, D, hs, h => by
    have := loose_fold l (acc ++ [x]) _ (fun y hy => hs y (by simp [hy])) (h.snoc x (hs x (by simp)))
    simpa using this
theorem loose_inv (ks : List (ByteArray × Int)) (h : ∀ x ∈ ks, x.1.size ≤ maxLen) : LooseInv ks (loosed ks) := by
  have := loose_fold ks [] (.map []) h ⟨tidy_empty, fun n => by simp [Maps.has, kn], fun n => by simp [look, DataW.atKey], Nat.le_refl _, by simp [kn, size]⟩
  rw [List.nil_append] at this
  exact this

/-- Stands one name there twice, or a number below 0? -/
def dupneg (ks : List (ByteArray × Int)) : Bool := !decide ((kn ks).Nodup) || anyNeg ks
/-- Is each of these a file? -/
def allThere (F : List Fl) (ks : List (ByteArray × Int)) : Bool := (kn ks).all fun n => there F n
def wrongN (F : List Fl) (ks : List (ByteArray × Int)) : Int := match dupneg ks with | true => 2 | false => lackN (allThere F ks)

theorem lawI : Try.prog.underlying 88 = some (.map 9 3) := Try.underlying88
theorem zeroInt (w : World) : (zeroValue 3).run Try.prog w = .ok (.int .i64 0) w := by kernel_rfl

set_option maxRecDepth 100000 in
set_option maxHeartbeats 4000000 in
theorem wrong_is {w : World} {d m room bL bK bN bD mL n : Nat} {S : Nat → Prop} {F : List Fl} {V : List UInt8 → Value} {D : DataW Value} {A AN : Option Addr} {c cN : Nat} {ks : List (ByteArray × Int)} (h : Seen w d m S F V D room) (hV : ∀ f ∈ F, ∃ A n c x, V f.name = fv A n c x)
    (hk : Kepts w A ks) (hn : Names w AN (ks.map (·.1))) (ho : w.ownsMap Try.prog 9 (plainElem Try.prog 3) mL n (loosed ks))
    (h0 : w.cell? ⟨bL, 0, none⟩ = some (.map (some mL))) (h1 : w.cell? ⟨bK, 0, none⟩ = some (.slice A ks.length c)) (h2 : w.cell? ⟨bN, 0, none⟩ = some (.slice AN ks.length cN)) (h3 : w.cell? ⟨bD, 0, none⟩ = some (.pointer (some ⟨d, 0, none⟩))) :
    Calls Try.prog 44 #[.pointer (some ⟨bL, 0, none⟩), .pointer (some ⟨bK, 0, none⟩), .pointer (some ⟨bN, 0, none⟩), .pointer (some ⟨bD, 0, none⟩)] w fun e w' => e = .returned (.int .i64 (wrongN F ks)) ∧ Below w.heap.size w w' := by
  have HSEE := Lib.hid h
  have HV := Lib.hid hV
  have HK := Lib.hid hk
  have HN := Lib.hid hn
  have HINV := Lib.hid (loose_inv ks hk.sz)
  have hlen := fun ty => ho.len (t := 88) lawI ty
  have HLEN := Lib.hid hk.len
  have HX0 := Lib.hid (Ext.refl w)
  have H2 := Lib.hid h2
  have H3 := Lib.hid h3
  have eg := enters_below0
  have HC := Lib.hid (contains_any (c := c) hk)
  obtain ⟨q, hq⟩ : ∃ q, q = size (loosed ks) := ⟨_, rfl⟩
  rw [← hq] at hlen
  have hql : q ≤ ks.length := by rw [hq]; exact HINV.out.le
  have HQ := Lib.hid hq
  have HL := Lib.hid hk.len
  clear h hV hk hn ho hq
  by_cases hdup : q < ks.length
  · have HW : Hid (wrongN F ks = 2) := by
      have : ¬ (kn ks).Nodup := fun hnd => by have := HINV.out.eq.2 hnd; rw [← HQ.out] at this; omega
      unfold Hid wrongN dupneg
      rw [decide_eq_false this]; rfl
    have hd : decide (q < ks.length) = true := by simp [hdup]
    have hd2 : decide ((q : Int) < (ks.length : Int)) = true := by simp; omega
    clear hdup hql
    go_enter Try.func44, Try.ntmps44
    go_wp2_with fail
    go_ret
    exact ⟨by rw [HW.out]; rfl, Below.refl _ _⟩
  · have hd : decide (q < ks.length) = false := by simp; omega
    have hd2 : decide ((q : Int) < (ks.length : Int)) = false := by simp; omega
    have HND : Hid (decide ((kn ks).Nodup) = true) := decide_eq_true (HINV.out.eq.1 (by rw [← HQ.out]; omega))
    clear hdup hql
    cases hneg : anyNeg ks
    · have HW : Hid (wrongN F ks = lackN (allThere F ks)) := by unfold Hid wrongN dupneg; rw [HND.out, hneg]; rfl
      rw [hneg] at HC
      clear hneg
      go_enter Try.func44, Try.ntmps44
      go_wp2_with fail
      refine Calls.mono HC.out ?_
      rintro e w1 ⟨rfl, hb⟩
      have HB : Hid (Ext w w1) := hb
      have q2 := ext_cell HB.out H2.out
      clear hb h0 h1 h2 h3 hlen
      go_wp2_with fail
      clear q2
      have hkl : (ks.length : Int) ≤ 1000000000000 := by have := HL.out; omega
      go_loopw [6, 7, 19] (fun _ _ i wr => ∃ k : Nat, k ≤ ks.length ∧ i = .int .i64 (k : Int) ∧ Hid (∀ x ∈ ks.take k, there F x.1.data.toList = true) ∧ Hid (Ext w wr)) (fun _ _ i _ => ks.length - (intOf i).toNat)
      case atStart => exact ⟨0, Nat.zero_le _, rfl, by unfold Hid; simp, HB.out⟩
      case round =>
        obtain ⟨k, hk, rfl, HA, HX⟩ := hrel
        by_cases hlt : k < ks.length
        · obtain ⟨bA, o, rfl, _, hbA, hcell⟩ := HN.out.sl.at_ (i := k) (by simpa using hlt)
          rw [List.getElem_map, List.getElem_map] at hcell
          obtain ⟨s, hs⟩ : ∃ s, s = ks[k].1 := ⟨_, rfl⟩
          rw [← hs] at hcell
          have hcell' := ext_cell HX.out hcell
          have q3 := ext_cell HX.out H3.out
          have HSZ : Hid (s.size ≤ maxLen) := by rw [hs]; exact HK.out.sz _ (List.getElem_mem hlt)
          have HS := Lib.hid hs
          clear hcell hs hbA
          go_wp2_with fail
          refine (lacks_any _ _ _).mono ?_
          rintro e w2 ⟨rfl, hw2⟩
          have HX2 : Hid (Ext wr w2) := by rw [hw2]; exact (ext_alloc _ _).trans (ext_alloc _ _)
          have hb0 : Hid (w2.heap[wr.heap.size]? = some (.cells #[.pointer (some ⟨d, 0, none⟩)] 25)) := by rw [hw2]; exact ext_heap (ext_alloc _ _) (heap_at _ _ rfl)
          have hb1 : Hid (w2.heap[wr.heap.size + 1]? = some (.cells #[.string s] 9)) := by rw [hw2]; exact heap_at _ _ (by simp)
          have HXW := Lib.hid (Ext.trans HX.out HX2.out)
          clear hw2 hcell' q3
          obtain ⟨A', n', c', y', hlk, _, _, _⟩ := (HSEE.out.ext HXW.out).look HSZ.out HV.out
          have HLK := Lib.hid (lacks_is (HSEE.out.ext HXW.out) (cell_of hb0.out rfl) (cell_of hb1.out rfl) hlk)
          have egl := enters_lacks
          clear hlk hb0 hb1
          cases ht : there F s.data.toList
          · have HF : Hid (allThere F ks = false) := by
              unfold Hid allThere
              rw [List.all_eq_false]
              exact ⟨s.data.toList, List.mem_map.2 ⟨ks[k], List.getElem_mem hlt, by rw [HS.out]⟩, by rw [ht]; simp⟩
            rw [ht] at HLK
            clear ht
            go_wp2_with fail
            refine Calls.mono HLK.out ?_
            rintro e w3 ⟨rfl, hb3⟩
            have HX3 := Lib.hid (Ext.trans HXW.out hb3)
            clear hb3
            have hl6 : lackN false = 6 := rfl
            rw [hl6]
            go_wp2_with fail
            go_ret
            exact ⟨by rw [HW.out, HF.out]; rfl, HX3.out⟩
          · have HA' : Hid (∀ x ∈ ks.take (k + 1), there F x.1.data.toList = true) := by
              intro x hx
              rw [List.take_succ_eq_append_getElem hlt] at hx
              rcases List.mem_append.1 hx with hx | hx
              · exact HA.out x hx
              · simp at hx; rw [hx, ← HS.out]; exact ht
            rw [ht] at HLK
            clear ht
            go_wp2_with fail
            refine Calls.mono HLK.out ?_
            rintro e w3 ⟨rfl, hb3⟩
            have HX3 := Lib.hid (Ext.trans HXW.out hb3)
            clear hb3
            have hl6 : lackN true = 0 := rfl
            rw [hl6]
            go_wp2_with fail
            go_roundw
            case rel => exact ⟨k + 1, by omega, by go_num, HA', HX3⟩
            case measure => simp [intOf]; omega
        · obtain rfl : k = ks.length := by omega
          have HF : Hid (allThere F ks = true) := by
            unfold Hid allThere
            rw [List.all_eq_true]
            intro n hn
            obtain ⟨x, hx, rfl⟩ := List.mem_map.1 hn
            exact HA.out x (by rw [List.take_length]; exact hx)
          go_wp2_with fail
          go_ret
          exact ⟨by rw [HW.out, HF.out]; rfl, HX.out⟩
    · have HW : Hid (wrongN F ks = 2) := by unfold Hid wrongN dupneg; rw [HND.out, hneg]; rfl
      rw [hneg] at HC
      clear hneg
      go_enter Try.func44, Try.ntmps44
      go_wp2_with fail
      refine Calls.mono HC.out ?_
      rintro e w1 ⟨rfl, hb⟩
      have HB := Lib.hid hb
      clear hb
      go_wp2_with fail
      go_ret
      exact ⟨by rw [HW.out]; rfl, HB.out⟩
end Go.Proofs.Ythcepihibnmgfaa
