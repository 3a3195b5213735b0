/- Gfirst Gmath Gleast Gris, joined. -/
import Derived.Test.YtlnihaeeoolkhaaMa6
import Derived.Test.YtlnihaeeoolkhaaMa4
import Derived.Test.YtlnihaeeoolkhaaMa5
import Derived.Test.YtlnihaeeoolkhaaMa2
import Derived.Test.YtlnihaeeoolkhaaMa3

/- The reference's first, Keep and Clip (merge). -/
namespace Go.Proofs.Ytlnihaeeoolkhaa
open Go.ChangeShapes Go.WideShapes Go.ChangeAt Go.RowKit

/-- Is e, the i-th one, the first of its key whose number is at most s? -/
def firstB (l : List Ent) (i : Nat) (e : Ent) (s : Int) : Bool := decide (e.seq ≤ s) && !((l.take i).any fun a => decide (a.key = e.key) && decide (a.seq ≤ s))
theorem any_none {l : List Ent} {i : Nat} {f : Ent → Bool} (h : ∀ j a, j < i → l[j]? = some a → f a = false) : (l.take i).any f = false := by
  rw [List.any_eq_false]
  intro x hx
  obtain ⟨j, hj, rfl⟩ := List.mem_iff_getElem.1 hx
  rw [List.length_take] at hj
  rw [List.getElem_take]
  have := h j l[j] (by omega) (List.getElem?_eq_getElem (by omega))
  simp [this]
theorem any_some {l : List Ent} {i j : Nat} {a : Ent} {f : Ent → Bool} (hj : j < i) (ha : l[j]? = some a) (h : f a = true) : (l.take i).any f = true := by
  rw [List.any_eq_true]
  refine ⟨a, ?_, h⟩
  have : (l.take i)[j]? = some a := by rw [List.getElem?_take, if_pos hj]; exact ha
  exact List.mem_of_getElem? this

set_option maxRecDepth 100000 in
set_option maxHeartbeats 8000000 in
theorem first11_any {w : World} {lo hi : Nat} {A : Option Addr} {c i : Nat} {L : List (Ent × Hd)} {p : Ent × Hd} (h : Es w lo hi A L) (hhi : hi ≤ w.heap.size) (hlen : L.length ≤ 1000000000) (hp : L[i]? = some p) (s : Int) :
    Calls Try.prog 25 #[.slice A L.length c, .int .i64 (i : Int), .int .i64 s] w fun e w' => e = .returned (.bool (firstB (L.map Prod.fst) i p.1 s)) ∧ Ext w w' := by
  obtain ⟨z, hz⟩ : ∃ z, z = firstB (L.map Prod.fst) i p.1 s := ⟨_, rfl⟩
  rw [← hz]
  have hlt : i < L.length := (List.getElem?_eq_some_iff.1 hp).1
  obtain ⟨b, o, rfl⟩ := h.base (by omega)
  have HE := Lib.hid h
  have HHI := Lib.hid hhi
  have HZ := Lib.hid hz
  have HP := Lib.hid hp
  have HLT := Lib.hid hlt
  have HL := Lib.hid hlen
  have n1 : (0 : Int) ≤ (i : Int) := by omega
  have n2 : (i : Int) < (L.length : Int) := by omega
  obtain ⟨k0, k1, k2, k3⟩ := h.get hp
  by_cases hs : p.1.seq ≤ s
  rotate_left
  · have d : decide (s < p.1.seq) = true := by simp; omega
    obtain rfl : z = false := by rw [HZ.out]; unfold firstB; rw [decide_eq_false hs]; rfl
    clear h hhi hz hp hlt hlen hs
    go_enter Try.func25, Try.ntmps25
    go_wp2_with fail
    go_ret
    exact ⟨rfl, Ext.refl _⟩
  have d : decide (s < p.1.seq) = false := by simp; omega
  have HS := Lib.hid hs
  have HI : Hid (i ≤ 1000000000) := by unfold Hid; omega
  clear h hhi hz hp hlt hlen hs
  go_enter Try.func25, Try.ntmps25
  go_wp2_with fail
  go_loopw [7] (fun a wr => ∃ k : Nat, a = .int .i64 (k : Int) ∧ k ≤ i ∧ Hid (∀ j e, j < k → (L.map Prod.fst)[j]? = some e → (decide (e.key = p.1.key) && decide (e.seq ≤ s)) = false) ∧ Hid (Ext w wr)) (fun a _ => i - (intOf a).toNat)
  case atStart => exact ⟨0, rfl, by omega, fun j e hj => by omega, Ext.refl _⟩
  case round =>
    obtain ⟨k, rfl, hk, HR, HX⟩ := hrel
    by_cases hki : k < i
    rotate_left
    · have f1 : decide ((k : Int) < (i : Int)) = false := by simp; omega
      have f2 : decide (k < i) = false := by simp; omega
      have hki2 : k = i := by omega
      obtain rfl : z = true := by
        rw [HZ.out]; unfold firstB
        rw [decide_eq_true HS.out, any_none (by rw [← hki2]; exact HR.out)]; rfl
      clear hki hk hki2
      go_wp2_with fail
      go_ret
      exact ⟨rfl, HX.out⟩
    have f1 : decide ((k : Int) < (i : Int)) = true := by simp; omega
    have f2 : decide (k < i) = true := by simp; omega
    obtain ⟨q, hq⟩ : ∃ q, L[k]? = some q := ⟨_, List.getElem?_eq_getElem (by have := HLT.out; omega)⟩
    obtain ⟨k0, k1, k2, k3⟩ := (HE.out.below HX.out HHI.out).get HP.out
    obtain ⟨m0, m1, m2, m3⟩ := (HE.out.below HX.out HHI.out).get hq
    have t1 : ∀ j, (convert 34 9 (.slice p.2.kA p.1.key.length p.2.kc)).run Try.prog (wr.drewN j) = .ok (.string (tx p.1.key)) (wr.drewN j) := fun j => conv_gx ((HE.out.each p (List.mem_of_getElem? HP.out)).below (below_drewN HX.out j) HHI.out).k
    have t2 : ∀ j, (convert 34 9 (.slice q.2.kA q.1.key.length q.2.kc)).run Try.prog (wr.drewN j) = .ok (.string (tx q.1.key)) (wr.drewN j) := fun j => conv_gx ((HE.out.each q (List.mem_of_getElem? hq)).below (below_drewN HX.out j) HHI.out).k
    have HBK : Hid ((∀ x ∈ q.1.key, x < 256) ∧ ∀ x ∈ p.1.key, x < 256) := ⟨(HE.out.each q (List.mem_of_getElem? hq)).bk, (HE.out.each p (List.mem_of_getElem? HP.out)).bk⟩
    have HQ : Hid ((L.map Prod.fst)[k]? = some q.1) := by rw [Hid, List.getElem?_map, hq]; rfl
    have HW := Lib.hid (show wrap64 ((k : Int) + 1) = ((k + 1 : Nat) : Int) by have := HI.out; unfold wrap64; omega)
    have n3 : (0 : Int) ≤ (k : Int) := by omega
    have n4 : (k : Int) < (L.length : Int) := by omega
    have HKI := Lib.hid hki
    clear hq hki hk
    by_cases hkey : q.1.key = p.1.key
    · have e1 : ((tx q.1.key).toList == (tx p.1.key).toList) = true := by rw [tx_same HBK.out.1 HBK.out.2]; exact decide_eq_true hkey
      by_cases hseq : q.1.seq ≤ s
      · have e2 : decide (q.1.seq ≤ s) = true := by simp; omega
        obtain rfl : z = false := by
          rw [HZ.out]; unfold firstB
          rw [any_some HKI.out HQ.out (by rw [decide_eq_true hkey, decide_eq_true hseq]; rfl)]
          simp
        clear hkey hseq
        go_wp2_with fail
        go_quiet (fail)
        go_wp2_with fail
        go_ret
        exact ⟨rfl, below_drewN HX.out _⟩
      · have e2 : decide (q.1.seq ≤ s) = false := by simp; omega
        have HN : Hid ((decide (q.1.key = p.1.key) && decide (q.1.seq ≤ s)) = false) := by rw [Hid, e2, Bool.and_false]
        clear hkey hseq
        have hw := HW.out
        go_wp2_with fail
        go_quiet (fail)
        go_wp2_with fail
        refine ⟨⟨k + 1, by first | rfl | rw [hw], HKI.out, fun j e hj he => ?_, below_drewN HX.out _⟩, by (try rw [hw]); clear hw; have := HKI.out; simp [intOf]; omega⟩
        by_cases hjk : j = k
        · rw [hjk, HQ.out] at he
          injection he with he
          rw [← he]; exact HN.out
        · exact HR.out j e (by omega) he
    · have e1 : ((tx q.1.key).toList == (tx p.1.key).toList) = false := by rw [tx_same HBK.out.1 HBK.out.2]; exact decide_eq_false hkey
      have HN : Hid ((decide (q.1.key = p.1.key) && decide (q.1.seq ≤ s)) = false) := by rw [Hid, decide_eq_false hkey, Bool.false_and]
      clear hkey
      have hw := HW.out
      go_wp2_with fail
      go_quiet (fail)
      go_wp2_with fail
      refine ⟨⟨k + 1, by first | rfl | rw [hw], HKI.out, fun j e hj he => ?_, below_drewN HX.out _⟩, by (try rw [hw]); clear hw; have := HKI.out; simp [intOf]; omega⟩
      by_cases hjk : j = k
      · rw [hjk, HQ.out] at he
        injection he with he
        rw [← he]; exact HN.out
      · exact HR.out j e (by omega) he

/-- The i first, of them those that are wanted. -/
def pickE (f : Nat → Ent → Bool) (L : List (Ent × Hd)) : Nat → List (Ent × Hd)
  | 0 => []
  | i + 1 => pickE f L i ++ (match L[i]? with | some p => if f i p.1 then [p] else [] | none => [])
theorem pickE_yes {f : Nat → Ent → Bool} {L : List (Ent × Hd)} {i : Nat} {p : Ent × Hd} (hp : L[i]? = some p) (hf : f i p.1 = true) : pickE f L (i + 1) = pickE f L i ++ [p] := by simp [pickE, hp, hf]
theorem pickE_no {f : Nat → Ent → Bool} {L : List (Ent × Hd)} {i : Nat} {p : Ent × Hd} (hp : L[i]? = some p) (hf : f i p.1 = false) : pickE f L (i + 1) = pickE f L i := by simp [pickE, hp, hf]
theorem pickE_le (f : Nat → Ent → Bool) (L : List (Ent × Hd)) : ∀ i, (pickE f L i).length ≤ i
  | 0 => by simp [pickE]
  | i + 1 => by
    have := pickE_le f L i
    simp only [pickE, List.length_append]
    split
    · split <;> simp <;> omega
    · simp; omega
theorem pickE_mem {f : Nat → Ent → Bool} {L : List (Ent × Hd)} : ∀ {i : Nat} {p : Ent × Hd}, p ∈ pickE f L i → p ∈ L
  | 0, p, h => by simp [pickE] at h
  | i + 1, p, h => by
    simp only [pickE, List.mem_append] at h
    rcases h with h | h
    · exact pickE_mem h
    · split at h
      · rename_i q hq
        split at h
        · rw [List.mem_singleton] at h; rw [h]; exact List.mem_of_getElem? hq
        · cases h
      · cases h
/-- What a reference's list answers: a row of its own, of entries that are the caller's. -/
def RowAns (w : World) (M : List (Ent × Hd)) (e : Ending) (w' : World) : Prop := ∃ A c, e = .returned (.slice A M.length c) ∧ OwnE w.heap.size M (.slice A M.length c) w' ∧ Ext w w'

/-- What is kept: those above floor; of each key the one that is seen at floor, but at the bottom no delete. -/
def keepF (l : List Ent) (floor : Int) (bottom : Bool) (i : Nat) (e : Ent) : Bool := decide (floor < e.seq) || (firstB l i e floor && (!bottom || decide (e.kind ≠ 2)))

set_option maxRecDepth 100000 in
set_option maxHeartbeats 8000000 in
theorem keep11_any {w : World} {lo hi : Nat} {A : Option Addr} {c : Nat} {L : List (Ent × Hd)} (h : Es w lo hi A L) (hhi : hi ≤ w.heap.size) (hlen : L.length ≤ 1000000) (floor : Int) (bottom : Bool) :
    Calls Try.prog 9 #[.slice A L.length c, .int .i64 floor, .bool bottom] w (RowAns w (pickE (keepF (L.map Prod.fst) floor bottom) L L.length)) := by
  have HE := Lib.hid h
  have HHI := Lib.hid hhi
  have HL := Lib.hid hlen
  have hlI : (L.length : Int) ≤ 1000000 := by omega
  clear h hhi hlen
  go_enter Try.func9, Try.ntmps9
  go_wp2_with fail
  go_loopw [7, 8] (fun v a wr => ∃ i : Nat, a = .int .i64 (i : Int) ∧ i ≤ L.length ∧ Hid (OwnE w.heap.size (pickE (keepF (L.map Prod.fst) floor bottom) L i) v wr) ∧ Hid (Ext w wr)) (fun _ a _ => L.length - (intOf a).toNat)
  case atStart => exact ⟨0, rfl, by omega, World.ownsRow_nil _ _ _ _, Ext.refl _⟩
  case round =>
    obtain ⟨i, rfl, hm, HR, HX⟩ := hrel
    obtain ⟨M, hM⟩ : ∃ M, M = pickE (keepF (L.map Prod.fst) floor bottom) L i := ⟨_, rfl⟩
    rw [← hM] at HR
    have HML : Hid (M.length ≤ i) := by rw [hM]; exact pickE_le _ _ _
    have HM := Lib.hid hM
    obtain ⟨O, co, rfl, _⟩ := HR.out.sl
    by_cases hlt : i < L.length
    rotate_left
    · have e : decide ((i : Int) < (L.length : Int)) = false := by simp; omega
      have e2 : decide (i < L.length) = false := by simp; omega
      have hin : i = L.length := by omega
      have HME : Hid (M = pickE (keepF (L.map Prod.fst) floor bottom) L L.length) := by rw [← hin]; exact hM
      clear hlt hm hin hM
      go_wp2_with fail
      go_ret
      exact ⟨O, co, by rw [← HME.out]; rfl, by rw [← HME.out]; exact HR.out, HX.out⟩
    have e : decide ((i : Int) < (L.length : Int)) = true := by simp; omega
    have e2 : decide (i < L.length) = true := by simp; omega
    obtain ⟨p, hp⟩ : ∃ p, L[i]? = some p := ⟨_, List.getElem?_eq_getElem hlt⟩
    obtain ⟨b, o, rfl⟩ := HE.out.base (by omega)
    have HGP : Hid (∀ u, Ext w u → u.cell? ⟨b, o + i * 4, none⟩ = some (.slice p.2.kA p.1.key.length p.2.kc) ∧ u.cell? ⟨b, o + i * 4 + 1, none⟩ = some (.int .i64 p.1.seq) ∧ u.cell? ⟨b, o + i * 4 + 2, none⟩ = some (.int .i64 p.1.kind) ∧ u.cell? ⟨b, o + i * 4 + 3, none⟩ = some (.slice p.2.vA p.1.val.length p.2.vc)) := fun u hu => (HE.out.below hu HHI.out).get hp
    obtain ⟨k0, k1, k2, k3⟩ := HGP.out wr HX.out
    obtain ⟨zf, hzf⟩ : ∃ z, z = firstB (L.map Prod.fst) i p.1 floor := ⟨_, rfl⟩
    have HF : Hid (Calls Try.prog 25 #[.slice (some ⟨b, o, none⟩) L.length c, .int .i64 (i : Int), .int .i64 floor] wr fun e w' => e = .returned (.bool zf) ∧ Ext wr w') := by
      rw [hzf]
      exact first11_any (HE.out.below HX.out HHI.out) (Nat.le_trans HHI.out HX.out.size) (by have := HL.out; omega) hp floor
    have HP := Lib.hid hp
    have HZF := Lib.hid hzf
    have HW := Lib.hid (show wrap64 ((i : Int) + 1) = ((i + 1 : Nat) : Int) by unfold wrap64; omega)
    have n1 : (0 : Int) ≤ (i : Int) := by omega
    have n2 : (i : Int) < (L.length : Int) := by omega
    have HLT := Lib.hid hlt
    have HML2 : Hid (M.length ≤ 1000000) := by unfold Hid; have := HML.out; omega
    clear hp hlt hm hM hzf
    by_cases hfl : floor < p.1.seq
    · have t1 : decide (floor < p.1.seq) = true := by simp; omega
      have HK : Hid (keepF (L.map Prod.fst) floor bottom i p.1 = true) := by unfold keepF; rw [Hid, t1]; rfl
      obtain ⟨k0, k1, k2, k3⟩ := HGP.out wr HX.out
      have HRW : Hid (OwnE w.heap.size M (.slice O M.length co) wr) := HR.out.below (Ext.refl _)
      have hw := HW.out
      go_wp2_with (at_builtin; refine wpList_pushe rfl (.tmp 40) (.tmp 45) rfl w.heap.size (.slice O M.length co) M rfl (HRW.out.below (ext_alloc _ _)) p wr.heap.size rfl (heap_alloc_new wr _) ?c1 ?c2 (fun A9 c9 w9 ho9 hb9 => ?_))
      case c1 => clear hw; have := HML2.out; omega
      case c2 => exact Nat.le_trans (HX.out).size (by simp)
      have HX9 : Hid (Ext w w9) := hb9 w (Ext.trans HX.out (ext_alloc _ _))
      have HO9 := Lib.hid ho9
      clear ho9 hb9
      go_wp2_with fail
      refine ⟨⟨i + 1, by first | rfl | rw [hw], HLT.out, by rw [Hid, pickE_yes HP.out HK.out, ← HM.out]; exact HO9.out, HX9.out⟩, by clear hw; have := HLT.out; simp [intOf]; omega⟩
    have t1 : decide (floor < p.1.seq) = false := by simp; omega
    clear hfl
    cases zf with
    | false =>
      go_wp2_with fail
      refine HF.out.mono ?_
      rintro e w2 ⟨rfl, hx2⟩
      have HX2 := Lib.hid hx2
      have HXW2 : Hid (Ext w w2) := Ext.trans HX.out hx2
      clear hx2
      have HK : Hid (keepF (L.map Prod.fst) floor bottom i p.1 = false) := by unfold keepF; rw [Hid, t1, ← HZF.out]; rfl
      have HRW : Hid (OwnE w.heap.size M (.slice O M.length co) w2) := HR.out.below HX2.out
      have hw := HW.out
      go_wp2_with fail
      refine ⟨⟨i + 1, by first | rfl | rw [hw], HLT.out, by rw [Hid, pickE_no HP.out HK.out, ← HM.out]; exact HRW.out, HXW2.out⟩, by clear hw; have := HLT.out; simp [intOf]; omega⟩
    | true =>
      go_wp2_with fail
      refine HF.out.mono ?_
      rintro e w2 ⟨rfl, hx2⟩
      have HX2 := Lib.hid hx2
      have HXW2 : Hid (Ext w w2) := Ext.trans HX.out hx2
      clear hx2
      cases bottom with
      | false =>
        have HK : Hid (keepF (L.map Prod.fst) floor false i p.1 = true) := by unfold keepF; rw [Hid, t1, ← HZF.out]; rfl
        obtain ⟨k0, k1, k2, k3⟩ := HGP.out w2 HXW2.out
        have HRW : Hid (OwnE w.heap.size M (.slice O M.length co) w2) := HR.out.below HX2.out
        have hw := HW.out
        go_wp2_with (at_builtin; refine wpList_pushe rfl (.tmp 40) (.tmp 45) rfl w.heap.size (.slice O M.length co) M rfl (HRW.out.below (ext_alloc _ _)) p w2.heap.size rfl (heap_alloc_new w2 _) ?c1 ?c2 (fun A9 c9 w9 ho9 hb9 => ?_))
        case c1 => clear hw; have := HML2.out; omega
        case c2 => exact Nat.le_trans (HXW2.out).size (by simp)
        have HX9 : Hid (Ext w w9) := hb9 w (Ext.trans HXW2.out (ext_alloc _ _))
        have HO9 := Lib.hid ho9
        clear ho9 hb9
        go_wp2_with fail
        refine ⟨⟨i + 1, by first | rfl | rw [hw], HLT.out, by rw [Hid, pickE_yes HP.out HK.out, ← HM.out]; exact HO9.out, HX9.out⟩, by clear hw; have := HLT.out; simp [intOf]; omega⟩
      | true =>
        obtain ⟨q0, q1, q2, q3⟩ := HGP.out w2 HXW2.out
        by_cases hkd : p.1.kind = 2
        · have t2 : (p.1.kind != 2) = false := by simp [hkd]
          have hkf : keepF (L.map Prod.fst) floor true i p.1 = false := by unfold keepF; rw [t1, ← HZF.out]; simp [hkd]
          clear hkd
          have HK : Hid (keepF (L.map Prod.fst) floor true i p.1 = false) := by exact hkf
          have HRW : Hid (OwnE w.heap.size M (.slice O M.length co) w2) := HR.out.below HX2.out
          have hw := HW.out
          go_wp2_with fail
          refine ⟨⟨i + 1, by first | rfl | rw [hw], HLT.out, by rw [Hid, pickE_no HP.out HK.out, ← HM.out]; exact HRW.out, HXW2.out⟩, by clear hw; have := HLT.out; simp [intOf]; omega⟩
        · have t2 : (p.1.kind != 2) = true := by simp [hkd]
          have hkf : keepF (L.map Prod.fst) floor true i p.1 = true := by unfold keepF; rw [t1, ← HZF.out]; simp [hkd]
          clear hkd
          have HK : Hid (keepF (L.map Prod.fst) floor true i p.1 = true) := by exact hkf
          obtain ⟨k0, k1, k2, k3⟩ := HGP.out w2 HXW2.out
          have HRW : Hid (OwnE w.heap.size M (.slice O M.length co) w2) := HR.out.below HX2.out
          have hw := HW.out
          go_wp2_with (at_builtin; refine wpList_pushe rfl (.tmp 40) (.tmp 45) rfl w.heap.size (.slice O M.length co) M rfl (HRW.out.below (ext_alloc _ _)) p w2.heap.size rfl (heap_alloc_new w2 _) ?c1 ?c2 (fun A9 c9 w9 ho9 hb9 => ?_))
          case c1 => clear hw; have := HML2.out; omega
          case c2 => exact Nat.le_trans (HXW2.out).size (by simp)
          have HX9 : Hid (Ext w w9) := hb9 w (Ext.trans HXW2.out (ext_alloc _ _))
          have HO9 := Lib.hid ho9
          clear ho9 hb9
          go_wp2_with fail
          refine ⟨⟨i + 1, by first | rfl | rw [hw], HLT.out, by rw [Hid, pickE_yes HP.out HK.out, ← HM.out]; exact HO9.out, HX9.out⟩, by clear hw; have := HLT.out; simp [intOf]; omega⟩
end Go.Proofs.Ytlnihaeeoolkhaa

/- Plain mathematics of merge: what Keep drops is not seen; Keep by places; lists run together (no function of the program). -/
namespace Go.Proofs.Ytlnihaeeoolkhaa

/-- An order, from its first entry on. -/
theorem rise_tail {e : Ent} {l : List Ent} (h : Rise (e :: l)) : Rise l := fun j a b ha hb => h (j + 1) a b (by simpa using ha) (by simpa using hb)
theorem rise_head {e : Ent} : ∀ {l : List Ent}, Rise (e :: l) → ∀ x ∈ l, cmpE e x < 0
  | [], _, x, hx => by cases hx
  | a :: l, h, x, hx => by
    have h0 : cmpE e a < 0 := h 0 e a rfl rfl
    rcases List.mem_cons.1 hx with rfl | hx
    · exact h0
    · have h1 := rise_head (rise_tail h) x hx
      have r1 := cmpE_range e a
      have r2 := cmpE_range a x
      have := cmpE_lt_trans (a := e) (b := a) (c := x) (by omega) (by omega)
      omega
theorem rise_of {e : Ent} {l : List Ent} (h : Rise l) (hl : ∀ x ∈ l, cmpE e x < 0) : Rise (e :: l) := by
  intro j a b ha hb
  cases j with
  | zero =>
    simp only [List.getElem?_cons_zero, Option.some.injEq] at ha
    rw [Nat.zero_add, List.getElem?_cons_succ] at hb
    subst ha
    exact hl b (List.mem_of_getElem? hb)
  | succ j => exact h j a b (by simpa using ha) (by simpa using hb)
/-- The keys of an order do not fall; of one key the numbers fall. -/
theorem ahead_key {a b : Ent} (h : cmpE a b < 0) : cmpK a.key b.key ≤ 0 := by
  unfold cmpE at h
  split at h
  · omega
  · omega
theorem ahead_seq {a b : Ent} (h : cmpE a b < 0) (k : a.key = b.key) : b.seq < a.seq := by
  unfold cmpE at h
  rw [k, cmpK_self, if_pos rfl] at h
  unfold cmpS at h
  split at h
  · assumption
  · split at h <;> omega
theorem key_between {a b : List Nat} (h : cmpK a b ≤ 0) (k : cmpK b a ≤ 0) : a = b := by
  rw [cmpK_turn] at k
  exact cmpK_zero (by omega)
theorem key_trans {a b c : List Nat} (h : cmpK a b ≤ 0) (k : cmpK b c ≤ 0) : cmpK a c ≤ 0 := by
  by_cases h0 : cmpK a b = 0
  · rw [cmpK_zero h0]; exact k
  · by_cases k0 : cmpK b c = 0
    · rw [← cmpK_zero k0]; exact h
    · have r1 := cmpK_range a b
      have r2 := cmpK_range b c
      have := cmpK_lt_trans (a := a) (b := b) (c := c) (by omega) (by omega)
      omega

theorem seenB_some {s : Int} {k : List Nat} {e : Ent} : seenB s (some k) e = (decide (e.seq ≤ s) && !decide (e.key = k)) := rfl
theorem seenB_at {s : Int} {st : Option (List Nat)} {e : Ent} : seenB s st e = (decide (e.seq ≤ s) && !decide (st = some e.key)) := by
  cases st with
  | none => simp [seenB]
  | some k => simp only [seenB, Option.some.injEq, eq_comm (a := k)]
theorem seenN_at {s : Int} {st : Option (List Nat)} {e : Ent} : seenN s st e = if e.seq ≤ s then some e.key else st := by
  unfold seenN
  rw [seenB_at]
  by_cases h : e.seq ≤ s
  · by_cases k : st = some e.key
    · simp [h, k]
    · simp [h, k]
  · simp [h]

/-- What Keep drops is not seen from its number on. -/
theorem sees_kept {s s' : Int} {bt : Bool} (hs : s ≤ s') : ∀ (R : List Ent) (σ τ κ : Option (List Nat)), Rise R →
    (∀ e ∈ R, (κ = some e.key → σ = some e.key ∧ e.seq ≤ s) ∧ (κ ≠ some e.key → (σ = some e.key ↔ τ = some e.key))) →
    (∀ k, κ = some k → ∀ e ∈ R, cmpK k e.key ≤ 0) → (∀ k, τ = some k → ∀ e ∈ R, cmpK k e.key ≤ 0) →
    wantL (seesB s') (seenN s') τ (wantL (keepB s bt) (seenN s) κ R) = wantL (seesB s') (seenN s') σ R
  | [], _, _, _, _, _, _, _ => rfl
  | e :: R, σ, τ, κ, hr, hi, hk, ht => by
    have hr' := rise_tail hr
    have hh := rise_head hr
    obtain ⟨i1, i2⟩ := hi e List.mem_cons_self
    have hmem : ∀ {x}, x ∈ R → x ∈ e :: R := fun h => List.mem_cons_of_mem _ h
    by_cases hκ : κ = some e.key
    · obtain ⟨hσ, hsq⟩ := i1 hκ
      have b1 : keepB s bt κ e = false := by
        unfold keepB
        rw [seenB_at, hκ]
        simp; omega
      have b2 : seesB s' σ e = false := by
        unfold seesB
        rw [seenB_at, hσ]
        simp
      have n1 : seenN s κ e = κ := by rw [seenN_at, if_pos hsq, hκ]
      have n2 : seenN s' σ e = σ := by rw [seenN_at, if_pos (by omega), hσ]
      simp only [wantL, b1, b2, n1, n2, Bool.false_eq_true, if_false]
      exact sees_kept hs R σ τ κ hr' (fun x hx => hi x (hmem hx)) (fun k h x hx => hk k h x (hmem hx)) (fun k h x hx => ht k h x (hmem hx))
    · have i3 := i2 hκ
      have b2 : seesB s' τ e = seesB s' σ e := by
        unfold seesB
        rw [seenB_at, seenB_at]
        by_cases h : σ = some e.key
        · rw [i3.1 h, h]
        · rw [show decide (σ = some e.key) = false from decide_eq_false h, show decide (τ = some e.key) = false from decide_eq_false fun h' => h (i3.2 h')]
      by_cases hsq : s < e.seq
      · have b1 : keepB s bt κ e = true := by unfold keepB; simp [hsq]
        have n1 : seenN s κ e = κ := by rw [seenN_at, if_neg (by omega)]
        have hrest : wantL (seesB s') (seenN s') (seenN s' τ e) (wantL (keepB s bt) (seenN s) κ R) = wantL (seesB s') (seenN s') (seenN s' σ e) R := by
          refine sees_kept hs R _ _ κ hr' (fun x hx => ⟨fun h => ?_, fun h => ?_⟩) (fun k h x hx => hk k h x (hmem hx)) (fun k h x hx => ?_)
          · have h1 := hk _ h e List.mem_cons_self
            have h2 := ahead_key (hh x hx)
            have h3 := key_between h1 h2
            rw [h3] at h
            exact absurd h hκ
          · rw [seenN_at, seenN_at]
            split
            · exact Iff.rfl
            · exact (hi x (hmem hx)).2 h
          · rw [seenN_at] at h
            split at h
            · injection h with h
              rw [← h]; exact ahead_key (hh x hx)
            · exact ht k h x (hmem hx)
        simp only [wantL, b1, b2, n1, if_true]
        rw [hrest]
      · have n1 : seenN s κ e = some e.key := by rw [seenN_at, if_pos (by omega)]
        have n2 : seenN s' σ e = some e.key := by rw [seenN_at, if_pos (by omega)]
        have n3 : seenN s' τ e = some e.key := by rw [seenN_at, if_pos (by omega)]
        have b1 : keepB s bt κ e = !(bt && decide (e.kind = 2)) := by
          unfold keepB
          rw [seenB_at, decide_eq_false hsq, decide_eq_false hκ, decide_eq_true (show e.seq ≤ s by omega)]
          rfl
        have hord : ∀ k, some e.key = some k → ∀ x ∈ R, cmpK k x.key ≤ 0 := fun k h x hx => by
          injection h with h
          rw [← h]; exact ahead_key (hh x hx)
        by_cases hd : bt = true ∧ e.kind = 2
        · have b1 : keepB s bt κ e = false := by rw [b1, hd.1]; simp [hd.2]
          have b3 : seesB s' σ e = false := by unfold seesB; simp [hd.2]
          simp only [wantL, b1, b3, n1, n2, Bool.false_eq_true, if_false]
          refine sees_kept hs R _ _ _ hr' (fun x hx => ⟨fun h => ⟨h, ?_⟩, fun h => ⟨fun h2 => absurd h2 h, fun h2 => ?_⟩⟩) hord (fun k h x hx => ht k h x (hmem hx))
          · injection h with h
            have := ahead_seq (hh x hx) h
            omega
          · have h3 := ht _ h2 e List.mem_cons_self
            have h4 := ahead_key (hh x hx)
            rw [key_between h4 h3] at h
            exact absurd rfl h
        · have b1 : keepB s bt κ e = true := by
            rw [b1]
            cases bt with
            | false => rfl
            | true => simp; exact fun h => hd ⟨rfl, h⟩
          have hrest : wantL (seesB s') (seenN s') (some e.key) (wantL (keepB s bt) (seenN s) (some e.key) R) = wantL (seesB s') (seenN s') (some e.key) R := by
            refine sees_kept hs R _ _ _ hr' (fun x hx => ⟨fun h => ⟨h, ?_⟩, fun h => Iff.rfl⟩) hord hord
            injection h with h
            have := ahead_seq (hh x hx) h
            omega
          simp only [wantL, b1, b2, n1, n2, n3, if_true]
          rw [hrest]
theorem sees_keeps {s s' : Int} {bt : Bool} (hs : s ≤ s') {R : List Ent} (h : Rise R) : wantL (seesB s') (seenN s') none (wantL (keepB s bt) (seenN s) none R) = wantL (seesB s') (seenN s') none R :=
  sees_kept hs R none none none h (fun _ _ => ⟨fun h => (by cases h), fun _ => Iff.rfl⟩) (fun _ h => (by cases h)) (fun _ h => (by cases h))

/-- The key that was seen last, of a list's first. -/
theorem last_seen {s : Int} {L : List Ent} (h : Rise L) : ∀ {i : Nat} {e : Ent}, L[i]? = some e →
    decide (stL (seenN s) none (L.take i) = some e.key) = (L.take i).any fun a => decide (a.key = e.key) && decide (a.seq ≤ s) := by
  intro i
  induction i with
  | zero => intro e he; simp [stL]
  | succ i ih =>
    intro e he
    have hlt : i + 1 < L.length := (List.getElem?_eq_some_iff.1 he).1
    obtain ⟨x, hx⟩ : ∃ x, L[i]? = some x := ⟨_, List.getElem?_eq_getElem (by omega)⟩
    rw [stL_next hx, seenN_at, List.take_add_one, hx]
    simp only [Option.toList_some, List.any_append, List.any_cons, List.any_nil, Bool.or_false]
    have hxe := h i x e hx he
    by_cases hs : x.seq ≤ s
    · rw [if_pos hs]
      by_cases hk : x.key = e.key
      · simp [hk, hs]
      · rw [decide_eq_false (show ¬ some x.key = some e.key from fun h => hk (by injection h))]
        symm
        rw [decide_eq_false hk, Bool.false_and, Bool.or_false]
        rw [List.any_eq_false]
        intro a ha
        obtain ⟨j, hj⟩ := List.getElem?_of_mem ha
        rw [List.getElem?_take] at hj
        split at hj
        · rename_i hji
          simp only [Bool.and_eq_true, decide_eq_true_eq, not_and]
          intro hka
          exfalso
          -- a ≤ x ≤ e in keys
          have hax : cmpK a.key x.key ≤ 0 := by
            have : ∀ d j a, j + d + 1 = i → L[j]? = some a → cmpK a.key x.key ≤ 0 := by
              intro d
              induction d with
              | zero => intro j a hj ha; exact ahead_key (h j a x ha (by rw [show j + 1 = i by omega]; exact hx))
              | succ d ihd =>
                intro j a hj ha
                obtain ⟨y, hy⟩ : ∃ y, L[j + 1]? = some y := ⟨_, List.getElem?_eq_getElem (by omega)⟩
                exact key_trans (ahead_key (h j a y ha hy)) (ihd (j + 1) y (by omega) hy)
            exact this (i - j - 1) j a (by omega) hj
          have hxe' := ahead_key hxe
          rw [hka] at hax
          exact hk (key_between hxe' hax)
        · cases hj
    · rw [if_neg hs]
      have e1 : (decide (x.key = e.key) && decide (x.seq ≤ s)) = false := by simp [hs]
      rw [e1, Bool.or_false]
      by_cases hk : x.key = e.key
      · rw [← hk]; exact ih hx
      · -- no entry ahead of x has e's key
        have hany : ((L.take i).any fun a => decide (a.key = e.key) && decide (a.seq ≤ s)) = false := by
          rw [List.any_eq_false]
          intro a ha
          obtain ⟨j, hj⟩ := List.getElem?_of_mem ha
          rw [List.getElem?_take] at hj
          split at hj
          · rename_i hji
            simp only [Bool.and_eq_true, decide_eq_true_eq, not_and]
            intro hka
            exfalso
            have hax : cmpK a.key x.key ≤ 0 := by
              have : ∀ d j a, j + d + 1 = i → L[j]? = some a → cmpK a.key x.key ≤ 0 := by
                intro d
                induction d with
                | zero => intro j a hj ha; exact ahead_key (h j a x ha (by rw [show j + 1 = i by omega]; exact hx))
                | succ d ihd =>
                  intro j a hj ha
                  obtain ⟨y, hy⟩ : ∃ y, L[j + 1]? = some y := ⟨_, List.getElem?_eq_getElem (by omega)⟩
                  exact key_trans (ahead_key (h j a y ha hy)) (ihd (j + 1) y (by omega) hy)
              exact this (i - j - 1) j a (by omega) hj
            have hxe' := ahead_key hxe
            rw [hka] at hax
            exact hk (key_between hxe' hax)
          · cases hj
        rw [hany]
        -- the last seen key is that of an entry ahead
        have hmem : ∀ i, i ≤ L.length → ∀ k, stL (seenN s) none (L.take i) = some k → ∃ j a, j < i ∧ L[j]? = some a ∧ a.key = k ∧ a.seq ≤ s := by
          intro i
          induction i with
          | zero => intro _ k hk; simp [stL] at hk
          | succ n ihn =>
            intro hn k hk
            obtain ⟨y, hy⟩ : ∃ y, L[n]? = some y := ⟨_, List.getElem?_eq_getElem (by omega)⟩
            rw [stL_next hy, seenN_at] at hk
            split at hk
            · injection hk with hk
              exact ⟨n, y, by omega, hy, hk, by assumption⟩
            · obtain ⟨j, a, h1, h2, h3, h4⟩ := ihn (by omega) k hk
              exact ⟨j, a, by omega, h2, h3, h4⟩
        rw [decide_eq_false_iff_not]
        intro hst
        obtain ⟨j, a, h1, h2, h3, h4⟩ := hmem i (by omega) _ hst
        rw [List.any_eq_false] at hany
        have := hany a (by
          refine List.mem_of_getElem? (i := j) ?_
          rw [List.getElem?_take, if_pos h1]; exact h2)
        simp [h3, h4] at this

theorem seen_first {s : Int} {L : List Ent} (h : Rise L) {i : Nat} {e : Ent} (he : L[i]? = some e) : seenB s (stL (seenN s) none (L.take i)) e = firstB L i e s := by
  rw [seenB_at, last_seen h he]; rfl

/-- Keep, told one after the other, is Keep by places. -/
theorem keep_pick {s : Int} {bt : Bool} {P : List (Ent × Hd)} (h : Rise (P.map Prod.fst)) : ∀ i, i ≤ P.length → (pickE (keepF (P.map Prod.fst) s bt) P i).map Prod.fst = wantL (keepB s bt) (seenN s) none ((P.map Prod.fst).take i) := by
  intro i
  induction i with
  | zero => intro _; rfl
  | succ i ih =>
    intro hi
    obtain ⟨p, hp⟩ : ∃ p, P[i]? = some p := ⟨_, List.getElem?_eq_getElem (by omega)⟩
    have hp' : (P.map Prod.fst)[i]? = some p.1 := by rw [List.getElem?_map, hp]; rfl
    have hf : keepF (P.map Prod.fst) s bt i p.1 = keepB s bt (stL (seenN s) none ((P.map Prod.fst).take i)) p.1 := by
      unfold keepF keepB
      rw [seen_first h hp']
      congr 1
      congr 1
      cases bt <;> by_cases hk : p.1.kind = 2 <;> simp [hk]
    rw [List.take_add_one, hp', wantL_append, ← ih (by omega)]
    cases hb : keepF (P.map Prod.fst) s bt i p.1 with
    | true => rw [pickE_yes hp hb, List.map_append]; simp only [Option.toList_some, wantL, ← hf, hb, if_true, List.map_cons, List.map_nil]
    | false => rw [pickE_no hp hb]; simp only [Option.toList_some, wantL, ← hf, hb, Bool.false_eq_true, if_false, List.append_nil]
theorem keep_all {s : Int} {bt : Bool} {P : List (Ent × Hd)} (h : Rise (P.map Prod.fst)) : (pickE (keepF (P.map Prod.fst) s bt) P P.length).map Prod.fst = wantL (keepB s bt) (seenN s) none (P.map Prod.fst) := by
  rw [keep_pick h P.length (Nat.le_refl _), List.take_of_length_le (by rw [List.length_map]; exact Nat.le_refl _)]

/-- Of the i first lists the one whose first entry is least, the first one of several, and that entry. -/
def bestTo (ls : List (List Ent)) : Nat → Option (Nat × Ent)
  | 0 => none
  | i + 1 => match ls[i]? with
    | some (x :: _) => (match bestTo ls i with | none => some (i, x) | some y => if cmpE x y.2 < 0 then some (i, x) else some y)
    | _ => bestTo ls i
/-- A list without what stands first in it in an entry's place. -/
def passL (e : Ent) (l : List Ent) : List Ent := l.dropWhile fun x => decide (cmpE x e = 0)
/-- Lists run together; n: as many as they have, or more. -/
def joinF : Nat → List (List Ent) → List Ent
  | 0, _ => []
  | n + 1, ls => match bestTo ls ls.length with
    | none => []
    | some y => y.2 :: joinF n (ls.map (passL y.2))
def totL (ls : List (List Ent)) : Nat := (ls.map List.length).sum
theorem bestTo_at {ls : List (List Ent)} : ∀ {i : Nat} {y : Nat × Ent}, bestTo ls i = some y → y.1 < i ∧ ∃ t, ls[y.1]? = some (y.2 :: t)
  | 0, _, h => by simp [bestTo] at h
  | i + 1, y, h => by
    unfold bestTo at h
    split at h
    · rename_i x t hx
      split at h
      · injection h with h
        subst h
        exact ⟨by simp, t, hx⟩
      · rename_i z hz
        split at h
        · injection h with h
          subst h
          exact ⟨by simp, t, hx⟩
        · injection h with h
          subst h
          have := bestTo_at hz
          exact ⟨by omega, this.2⟩
    · have := bestTo_at h
      exact ⟨by omega, this.2⟩
theorem bestTo_none {ls : List (List Ent)} : ∀ {i : Nat}, bestTo ls i = none → ∀ j x, j < i → ls[j]? = some x → x = []
  | 0, _, j, _, hj, _ => by omega
  | i + 1, h, j, x, hj, hx => by
    unfold bestTo at h
    split at h
    · split at h
      · cases h
      · split at h <;> cases h
    · rename_i hn
      by_cases hji : j = i
      · subst hji
        cases x with
        | nil => rfl
        | cons a t => exact absurd hx (hn a t)
      · exact bestTo_none h j x (by omega) hx
theorem bestTo_min {ls : List (List Ent)} : ∀ {i : Nat} {y : Nat × Ent}, bestTo ls i = some y → ∀ j x t, j < i → ls[j]? = some (x :: t) → cmpE y.2 x ≤ 0
  | 0, _, h, _, _, _, _, _ => by simp [bestTo] at h
  | i + 1, y, h, j, x, t, hj, hx => by
    unfold bestTo at h
    split at h
    · rename_i x' t' hx'
      split at h
      · rename_i hz
        injection h with h
        subst h
        by_cases hji : j = i
        · subst hji
          rw [hx] at hx'
          injection hx' with hx'
          injection hx' with hx' _
          subst hx'
          exact Int.le_of_eq ((cmpE_zero (a := x) (b := x)).2 ⟨rfl, rfl⟩)
        · have := bestTo_none hz j _ (by omega) hx
          cases this
      · rename_i z hz
        split at h
        · rename_i hlt
          injection h with h
          subst h
          by_cases hji : j = i
          · subst hji
            rw [hx] at hx'
            injection hx' with hx'
            injection hx' with hx' _
            subst hx'
            exact Int.le_of_eq ((cmpE_zero (a := x) (b := x)).2 ⟨rfl, rfl⟩)
          · have := bestTo_min hz j x t (by omega) hx
            exact cmpE_row (b := z.2) (by simp only; omega) this
        · rename_i hge
          injection h with h
          subst h
          by_cases hji : j = i
          · subst hji
            rw [hx] at hx'
            injection hx' with hx'
            injection hx' with hx' _
            subst hx'
            have := cmpE_turn x z.2
            omega
          · exact bestTo_min hz j x t (by omega) hx
    · rename_i hn
      by_cases hji : j = i
      · subst hji
        exact absurd hx (hn x t)
      · exact bestTo_min h j x t (by omega) hx
theorem passL_le (e : Ent) (l : List Ent) : (passL e l).length ≤ l.length := by
  unfold passL
  exact (List.dropWhile_suffix _).length_le
theorem totL_pass (e : Ent) (ls : List (List Ent)) : totL (ls.map (passL e)) ≤ totL ls := by
  induction ls with
  | nil => simp [totL]
  | cons l ls ih =>
    simp only [totL, List.map_cons, List.sum_cons] at ih ⊢
    have := passL_le e l
    omega
theorem totL_less {e : Ent} {t : List Ent} : ∀ {ls : List (List Ent)} {b : Nat}, ls[b]? = some (e :: t) → totL (ls.map (passL e)) < totL ls
  | [], b, h => by simp at h
  | l :: ls, 0, h => by
    simp only [List.getElem?_cons_zero, Option.some.injEq] at h
    subst h
    have h1 := totL_pass e ls
    simp only [totL, List.map_cons, List.sum_cons] at h1 ⊢
    have h2 : (passL e (e :: t)).length ≤ t.length := by
      unfold passL
      rw [List.dropWhile_cons_of_pos (by simp [cmpE_zero])]
      exact (List.dropWhile_suffix _).length_le
    simp only [List.length_cons]
    omega
  | l :: ls, b + 1, h => by
    rw [List.getElem?_cons_succ] at h
    have h1 := totL_less h
    simp only [totL, List.map_cons, List.sum_cons] at h1 ⊢
    have := passL_le e l
    omega
theorem totL_pos {ls : List (List Ent)} {b : Nat} {e : Ent} {t : List Ent} (h : ls[b]? = some (e :: t)) : 0 < totL ls := Nat.lt_of_le_of_lt (Nat.zero_le _) (totL_less h)

theorem passL_self {e : Ent} {l : List Ent} (h : ∀ x ∈ l, cmpE e x < 0) : passL e l = l := by
  cases l with
  | nil => rfl
  | cons a t =>
    unfold passL
    have h1 := h a List.mem_cons_self
    have h2 := cmpE_turn a e
    rw [List.dropWhile_cons_of_neg (by simp; omega)]
theorem passL_head {e : Ent} {l : List Ent} (h : ∀ x ∈ l, cmpE e x < 0) : passL e (e :: l) = l := by
  have h1 := passL_self h
  unfold passL at h1 ⊢
  rw [List.dropWhile_cons_of_pos (by simp [cmpE_zero]), h1]
/-- Parts of an order that have all of it, run together, are it. -/
theorem join_cover : ∀ {l : List Ent}, Rise l → ∀ {ls : List (List Ent)} {n : Nat}, (∀ x ∈ ls, x.Sublist l) → (∀ e ∈ l, ∃ x ∈ ls, e ∈ x) → l.length ≤ n → joinF n ls = l
  | [], _, ls, n, hs, _, _ => by
    cases n with
    | zero => rfl
    | succ n =>
      have : bestTo ls ls.length = none := by
        cases hb : bestTo ls ls.length with
        | none => rfl
        | some y =>
          obtain ⟨_, t, ht⟩ := bestTo_at hb
          have := (hs _ (List.mem_of_getElem? ht)).length_le
          simp at this
      unfold joinF
      rw [this]
  | e :: l, h, ls, n, hs, hc, hn => by
    obtain ⟨n, rfl⟩ : ∃ m, n = m + 1 := ⟨n - 1, by simp at hn; omega⟩
    have hh := rise_head h
    have irr : ∀ x ∈ l, x ≠ e := fun x hx hxe => by
      have := hh x hx
      rw [hxe] at this
      have := (cmpE_zero (a := e) (b := e)).2 ⟨rfl, rfl⟩
      omega
    have two : ∀ x ∈ ls, (x.Sublist l) ∨ ∃ t, x = e :: t ∧ t.Sublist l := fun x hx => by
      have := hs x hx
      rcases List.sublist_cons_iff.1 this with h1 | ⟨r, h1, h2⟩
      · exact .inl h1
      · exact .inr ⟨r, h1, h2⟩
    obtain ⟨x, hx, hex⟩ := hc e List.mem_cons_self
    obtain ⟨t, rfl, _⟩ : ∃ t, x = e :: t ∧ t.Sublist l := by
      rcases two x hx with h1 | h1
      · exact absurd rfl (irr e (h1.subset hex))
      · exact h1
    obtain ⟨j, hj⟩ := List.getElem?_of_mem hx
    have hjl := (List.getElem?_eq_some_iff.1 hj).1
    obtain ⟨y, hb⟩ : ∃ y, bestTo ls ls.length = some y := by
      cases hb : bestTo ls ls.length with
      | none => have := bestTo_none hb j _ hjl hj; cases this
      | some y => exact ⟨y, rfl⟩
    have h1 := bestTo_min hb j e t hjl hj
    obtain ⟨_, t2, ht2⟩ := bestTo_at hb
    have hy : y.2 = e := by
      rcases two _ (List.mem_of_getElem? ht2) with h2 | ⟨t3, h2, _⟩
      · have := hh _ (h2.subset List.mem_cons_self)
        have := cmpE_turn e y.2
        omega
      · injection h2
    unfold joinF
    rw [hb]
    simp only [hy]
    congr 1
    have hp : ∀ x ∈ ls, (passL e x).Sublist l ∧ ∀ a ∈ l, a ∈ x → a ∈ passL e x := fun x hx => by
      rcases two x hx with h2 | ⟨t3, rfl, h2⟩
      · rw [passL_self fun a ha => hh a (h2.subset ha)]
        exact ⟨h2, fun a _ h => h⟩
      · rw [passL_head fun a ha => hh a (h2.subset ha)]
        refine ⟨h2, fun a ha h => ?_⟩
        rcases List.mem_cons.1 h with h | h
        · exact absurd h (irr a ha)
        · exact h
    refine join_cover (rise_tail h) (fun x hx => ?_) (fun a ha => ?_) (by simpa using hn)
    · obtain ⟨x', hx', rfl⟩ := List.mem_map.1 hx
      exact (hp x' hx').1
    · obtain ⟨x', hx', hax⟩ := hc a (List.mem_cons_of_mem _ ha)
      exact ⟨_, List.mem_map.2 ⟨x', hx', rfl⟩, (hp x' hx').2 a ha hax⟩
theorem pick_filter {f : Ent → Bool} {P : List (Ent × Hd)} : ∀ i, i ≤ P.length → (pickE (fun _ e => f e) P i).map Prod.fst = ((P.map Prod.fst).take i).filter f := by
  intro i
  induction i with
  | zero => intro _; rfl
  | succ i ih =>
    intro hi
    obtain ⟨p, hp⟩ : ∃ p, P[i]? = some p := ⟨_, List.getElem?_eq_getElem (by omega)⟩
    have hp' : (P.map Prod.fst)[i]? = some p.1 := by rw [List.getElem?_map, hp]; rfl
    rw [List.take_add_one, hp', List.filter_append, ← ih (by omega)]
    cases hb : f p.1 with
    | true => rw [pickE_yes hp hb, List.map_append]; simp [hb]
    | false => rw [pickE_no hp hb]; simp [hb]
end Go.Proofs.Ytlnihaeeoolkhaa

/- least: which list has the least first entry (merge). -/
namespace Go.Proofs.Ytlnihaeeoolkhaa
open Go.ChangeShapes Go.WideShapes Go.ChangeAt Go.RowKit Go.Shelf

/-- Where the least one stands, as a number. -/
def atV (o : Option (Nat × Ent)) : Int := match o with | Option.none => -1 | some y => (y.1 : Int)
theorem atV_lt {ls : List (List Ent)} {k : Nat} : atV (bestTo ls k) < 0 ↔ bestTo ls k = Option.none := by
  unfold atV
  cases bestTo ls k with
  | none => simp
  | some y => simp
theorem bestTo_empty {ls : List (List Ent)} {k : Nat} (h : ls[k]? = some []) : bestTo ls (k + 1) = bestTo ls k := by
  simp [bestTo, h]
theorem bestTo_first {ls : List (List Ent)} {k : Nat} {x : Ent} {t : List Ent} (h : ls[k]? = some (x :: t)) (hb : bestTo ls k = Option.none) : bestTo ls (k + 1) = some (k, x) := by
  simp [bestTo, h, hb]
theorem bestTo_two {ls : List (List Ent)} {k : Nat} {x : Ent} {t : List Ent} {y : Nat × Ent} (h : ls[k]? = some (x :: t)) (hb : bestTo ls k = some y) : bestTo ls (k + 1) = if cmpE x y.2 < 0 then some (k, x) else some y := by
  simp [bestTo, h, hb]
/-- A list's cell. -/
theorem Rows.cell {base hi k cap : Nat} {A : Option Addr} {n : Nat} {rs : List Rw} {r : Rw} {w : World} (h : Rows base hi (.slice A n cap) rs w) (hk : rs[k]? = some r) : n = rs.length ∧ ∃ g cur, A = some ⟨g, 0, Option.none⟩ ∧ base ≤ g ∧ g < hi ∧ w.heap[g]? = some (.cells cur 22 (0, 0)) ∧ cur[k]? = some r.v ∧ ∀ (i : Nat) (r : Rw), rs[i]? = some r → cur[i]? = some (Rw.v r) := by
  obtain ⟨A', cap', h1, _, h2⟩ := h.sl
  injection h1 with h1 h3 _
  refine ⟨h3, ?_⟩
  rcases h2 with h2 | ⟨g, cur, h4, h5, h6, h7, h8⟩
  · rw [h2.2] at hk; simp at hk
  · exact ⟨g, cur, h1.trans h4, h5, h6, h7, h8 k r hk, h8⟩
theorem Rows.ext {base hi hi' : Nat} {v : Value} {rs : List Rw} {w w' : World} (h : Rows base hi v rs w) (hx : Ext w w') (hh : hi ≤ hi') : Rows base hi' v rs w' := by
  refine ⟨?_, fun r hr => (h.each r hr).ext hx hh⟩
  obtain ⟨A, cap, h1, h2, h3⟩ := h.sl
  refine ⟨A, cap, h1, h2, ?_⟩
  rcases h3 with h3 | ⟨g, cur, h4, h5, h6, h7, h8⟩
  · exact .inl h3
  · exact .inr ⟨g, cur, h4, h5, by omega, ext_heap hx h7, h8⟩
def LeastAns (w : World) (ls : List (List Ent)) (x : Ending) (w' : World) : Prop := x = .returned (.int .i64 (atV (bestTo ls ls.length))) ∧ Ext w w'

set_option maxRecDepth 100000 in
set_option maxHeartbeats 8000000 in
theorem least_any {w : World} {base hi : Nat} {v : Value} {rs : List Rw} (h : Rows base hi v rs w) (hlen : rs.length ≤ 1000) :
    Calls Try.prog 43 #[v, .func (.func 37) #[] #[]] w (LeastAns w (rs.map Rw.l)) := by
  have HE := Lib.hid h
  have HL := Lib.hid hlen
  obtain ⟨A, cap, rfl, hcap, hcase⟩ := h.sl
  obtain ⟨n, hn⟩ : ∃ n, n = rs.length := ⟨_, rfl⟩
  rw [← hn] at HE ⊢
  have HN := Lib.hid hn
  have hnI : (n : Int) ≤ 1000 := by omega
  have hn0 : (0 : Int) ≤ (n : Int) := by omega
  clear h hlen hcap hcase hn
  go_enter Try.func43, Try.ntmps43
  go_wp2_with fail
  go_loopw [5, 6, 7, 10] (fun a _ _ i wr => ∃ (k : Nat), i = .int .i64 (k : Int) ∧ k ≤ n ∧ a = .int .i64 (atV (bestTo (rs.map Rw.l) k)) ∧ Hid (Ext w wr)) (fun _ _ _ i _ => n - (intOf i).toNat)
  case atStart => exact ⟨0, rfl, Nat.zero_le _, rfl, Ext.refl _⟩
  case round =>
    obtain ⟨k, rfl, hk, rfl, HX⟩ := hrel
    by_cases hlt : k < n
    rotate_left
    · have d : decide ((k : Int) < (n : Int)) = false := by simp; omega
      have dn : decide (k < n) = false := by simp; omega
      have HF : Hid (atV (bestTo (rs.map Rw.l) k) = atV (bestTo (rs.map Rw.l) (rs.map Rw.l).length)) := by
        rw [List.length_map, ← HN.out, show k = n by omega]; exact rfl
      clear hlt hk
      go_wp2_with fail
      go_ret
      exact ⟨by rw [HF.out]; rfl, HX.out⟩
    have d : decide ((k : Int) < (n : Int)) = true := by simp; omega
    have dn : decide (k < n) = true := by simp; omega
    have hlt2 : k < rs.length := by have := HN.out; omega
    obtain ⟨r, hr⟩ : ∃ r, rs[k]? = some r := ⟨_, List.getElem?_eq_getElem hlt2⟩
    have HRr := Lib.hid (HE.out.each r (List.mem_of_getElem? hr))
    obtain ⟨hnn, g0, cur, rfl, hgb, hgh, hg, hcur, hall⟩ := HE.out.cell hr
    clear hnn hgb hgh
    have HLS : Hid ((rs.map Rw.l)[k]? = some r.l) := by unfold Hid; rw [List.getElem?_map, hr]; rfl
    have HG0 := Lib.hid hg
    have HALL := Lib.hid hall
    have q0 := cell_of (ext_heap HX.out hg) hcur
    unfold Rw.v at q0
    have n1 : (0 : Int) ≤ (k : Int) := by omega
    have n2 : (k : Int) < (n : Int) := by omega
    have HLT := Lib.hid hlt
    obtain ⟨a0, ha0⟩ : ∃ a, a = atV (bestTo (rs.map Rw.l) k) := ⟨_, rfl⟩
    rw [← ha0]
    have HA0 := Lib.hid ha0
    by_cases he : r.R = []
    · rw [he, List.length_nil] at q0
      have HNX : Hid (a0 = atV (bestTo (rs.map Rw.l) (k + 1))) := by
        rw [bestTo_empty (by rw [HLS.out]; unfold Rw.l; rw [he]; rfl)]; exact ha0
      obtain ⟨rA, rc, hrA⟩ : ∃ rA rc, rA = r.A ∧ rc = r.c := ⟨_, _, rfl, rfl⟩
      rw [← hrA.1, ← hrA.2] at q0
      clear he hr hg hall hcur hlt hlt2 hk ha0 hrA
      go_upto_region 5 with (fail)
      refine flow (by kernel_rfl) [Is (.slice rA 0 rc), Is (.int .i64 (0 : Int)), Is (.bool false), Is (.bool false), Is undef, Is undef, Is undef, Is undef, Is undef, Is undef, Is undef, Is undef, Is undef, Is undef, Is undef, Is undef, Is undef, Is undef, Is undef, Is undef, Is (.bool false)] (by kernel_rfl) (by kernel_rfl) ?mono (fun f1 => ?obl) ?fin
      case mono =>
        simp only [List.forall_mem_cons, List.not_mem_nil, false_imp_iff, implies_true, and_true]
        exact ⟨.is _, .is _, .is _, .is _, .is _, .is _, .is _, .is _, .is _, .is _, .is _, .is _, .is _, .is _, .is _, .is _, .is _, .is _, .is _, .is _, .is _⟩
      case fin =>
        intro g1 u hu hg
        simp only [puts, Act.put, List.setIfInBounds_toArray, List.set_cons_zero, List.set_cons_succ]
        have h20 : g1 20 = .bool false := hg 20 (by decide)
        rw [h20]
        have HXU : Hid (Ext w u) := Ext.trans HX.out (Ext.trans (Ext.drew wr) hu)
        clear h20 hg hu
        go_wp2_with fail
        refine ⟨⟨k + 1, rfl, HLT.out, by rw [HNX.out], HXU.out⟩, by have := HLT.out; simp only [intOf]; omega⟩
      case obl =>
        refine ⟨fun u hu hd => ?_, ?_⟩
        · go_simp
          exact ⟨Ext.refl _, rfl⟩
        refine ⟨fun u hu hd => ?_, ?_⟩
        · simp only [Act.put, List.setIfInBounds_toArray, List.set_cons_zero, List.set_cons_succ]
          have e0 : f1 0 = .slice rA 0 rc := hd 0 (by kernel_rfl)
          go_simp
          exact ⟨Ext.refl _, rfl⟩
        refine ⟨fun u hu hd => ?_, ?_⟩
        · simp only [Act.put, List.setIfInBounds_toArray, List.set_cons_zero, List.set_cons_succ]
          have e1 : f1 1 = .int .i64 (0 : Int) := hd 1 (by kernel_rfl)
          go_simp
          exact ⟨Ext.refl _, rfl⟩
        refine ⟨fun u hu hd => ?_, ?_⟩
        · simp only [Act.put, List.setIfInBounds_toArray, List.set_cons_zero, List.set_cons_succ]
          have e2 : f1 2 = .bool false := hd 2 (by kernel_rfl)
          go_simp
          exact ⟨Ext.refl _, rfl⟩
        refine ⟨fun u hu hd => ?_, ?_⟩
        · simp only [Act.put, List.setIfInBounds_toArray, List.set_cons_zero, List.set_cons_succ]
          have e3 : f1 3 = .bool false := hd 3 (by kernel_rfl)
          go_simp
          rfl
        refine ⟨fun u hu hd => ?_, ?_⟩
        · simp only [Act.put, List.setIfInBounds_toArray, List.set_cons_zero, List.set_cons_succ]
          have e3 : f1 3 = .bool false := hd 3 (by kernel_rfl)
          go_simp
          rfl
        refine ⟨fun u hu hd => ?_, ?_⟩
        · simp only [Act.put, List.setIfInBounds_toArray, List.set_cons_zero, List.set_cons_succ]
          have e3 : f1 3 = .bool false := hd 3 (by kernel_rfl)
          go_simp
          rfl
        refine ⟨fun u hu hd => ?_, ?_⟩
        · simp only [Act.put, List.setIfInBounds_toArray, List.set_cons_zero, List.set_cons_succ]
          have e6 : f1 6 = undef := hd 6 (by kernel_rfl)
          go_simp
          rfl
        refine ⟨fun u hu hd => ?_, ?_⟩
        · simp only [Act.put, List.setIfInBounds_toArray, List.set_cons_zero, List.set_cons_succ]
          have e6 : f1 6 = undef := hd 6 (by kernel_rfl)
          go_simp
          rfl
        refine ⟨fun u hu hd => ?_, ?_⟩
        · simp only [Act.put, List.setIfInBounds_toArray, List.set_cons_zero, List.set_cons_succ]
          have e6 : f1 6 = undef := hd 6 (by kernel_rfl)
          go_simp
          rfl
        refine ⟨fun u hu hd => ?_, ?_⟩
        · simp only [Act.put, List.setIfInBounds_toArray, List.set_cons_zero, List.set_cons_succ]
          have e6 : f1 6 = undef := hd 6 (by kernel_rfl)
          go_simp
          rfl
        refine ⟨fun u hu hd => ?_, ?_⟩
        · simp only [Act.put, List.setIfInBounds_toArray, List.set_cons_zero, List.set_cons_succ]
          have e6 : f1 6 = undef := hd 6 (by kernel_rfl)
          go_simp
          rfl
        refine ⟨fun u hu hd => ?_, ?_⟩
        · simp only [Act.put, List.setIfInBounds_toArray, List.set_cons_zero, List.set_cons_succ]
          have e6 : f1 6 = undef := hd 6 (by kernel_rfl)
          go_simp
          rfl
        refine ⟨fun u hu hd => ?_, ?_⟩
        · simp only [Act.put, List.setIfInBounds_toArray, List.set_cons_zero, List.set_cons_succ]
          have e6 : f1 6 = undef := hd 6 (by kernel_rfl)
          go_simp
          rfl
        refine ⟨fun u hu hd => ?_, ?_⟩
        · simp only [Act.put, List.setIfInBounds_toArray, List.set_cons_zero, List.set_cons_succ]
          have e6 : f1 6 = undef := hd 6 (by kernel_rfl)
          go_simp
          rfl
        refine ⟨fun u hu hd => ?_, ?_⟩
        · simp only [Act.put, List.setIfInBounds_toArray, List.set_cons_zero, List.set_cons_succ]
          have e6 : f1 6 = undef := hd 6 (by kernel_rfl)
          go_simp
          rfl
        refine ⟨fun u hu hd => ?_, ?_⟩
        · simp only [Act.put, List.setIfInBounds_toArray, List.set_cons_zero, List.set_cons_succ]
          have e6 : f1 6 = undef := hd 6 (by kernel_rfl)
          go_simp
          rfl
        refine ⟨fun u hu hd => ?_, ?_⟩
        · simp only [Act.put, List.setIfInBounds_toArray, List.set_cons_zero, List.set_cons_succ]
          have e6 : f1 6 = undef := hd 6 (by kernel_rfl)
          go_simp
          rfl
        refine ⟨fun u hu hd => ?_, ?_⟩
        · simp only [Act.put, List.setIfInBounds_toArray, List.set_cons_zero, List.set_cons_succ]
          have e6 : f1 6 = undef := hd 6 (by kernel_rfl)
          go_simp
          rfl
        refine ⟨fun u hu hd => ?_, ?_⟩
        · simp only [Act.put, List.setIfInBounds_toArray, List.set_cons_zero, List.set_cons_succ]
          have e3 : f1 3 = .bool false := hd 3 (by kernel_rfl)
          go_simp
          rfl
        refine ⟨fun u hu hd => ?_, ?_⟩
        · simp only [Act.put, List.setIfInBounds_toArray, List.set_cons_zero, List.set_cons_succ]
          have e3 : f1 3 = .bool false := hd 3 (by kernel_rfl)
          go_simp
          exact ⟨Ext.refl _, rfl⟩
        trivial
    obtain ⟨p, t, hR⟩ : ∃ p t, r.R = p :: t := by
      cases hR : r.R with
      | nil => exact absurd hR he
      | cons p t => exact ⟨p, t, rfl⟩
    obtain ⟨rb, ro, hrA⟩ := HRr.out.base (by rw [hR]; simp)
    have hp0 : r.R[0]? = some p := by rw [hR]; rfl
    obtain ⟨N, hN⟩ : ∃ N, N = r.R.length := ⟨_, rfl⟩
    obtain ⟨rc, hrc⟩ : ∃ rc, rc = r.c := ⟨_, rfl⟩
    rw [← hN, hrA, ← hrc] at q0
    have hN1 : 0 < N := by rw [hN, hR]; simp
    have hN0 : (0 : Int) < (N : Int) := by omega
    have HL1 : Hid ((rs.map Rw.l)[k]? = some (p.1 :: t.map Prod.fst)) := by unfold Hid; rw [HLS.out]; unfold Rw.l; rw [hR]; rfl
    by_cases hb : bestTo (rs.map Rw.l) k = Option.none
    · have HNX : Hid ((k : Int) = atV (bestTo (rs.map Rw.l) (k + 1))) := by rw [bestTo_first HL1.out hb]; rfl
      have ha1 : a0 = -1 := by rw [ha0, hb]; rfl
      subst ha1
      clear he hr hg hall hcur hlt hlt2 hk ha0 hrA hp0 hR hN hrc hb
      go_upto_region 5 with (fail)
      refine flow (by kernel_rfl) [Is (.slice (some ⟨rb, ro, none⟩) N rc), Is (.int .i64 (N : Int)), Is (.bool true), Is (.bool true), Is (.int .i64 (-1)), Is (.bool true), Is (.bool true), Is undef, Is undef, Is undef, Is undef, Is undef, Is undef, Is undef, Is undef, Is undef, Is undef, Is undef, Is undef, Is (.bool true), Is (.bool true)] (by kernel_rfl) (by kernel_rfl) ?mono (fun f1 => ?obl) ?fin
      case mono =>
        simp only [List.forall_mem_cons, List.not_mem_nil, false_imp_iff, implies_true, and_true]
        exact ⟨.is _, .is _, .is _, .is _, .is _, .is _, .is _, .is _, .is _, .is _, .is _, .is _, .is _, .is _, .is _, .is _, .is _, .is _, .is _, .is _, .is _⟩
      case fin =>
        intro g1 u hu hg
        simp only [puts, Act.put, List.setIfInBounds_toArray, List.set_cons_zero, List.set_cons_succ]
        have h20 : g1 20 = .bool true := hg 20 (by decide)
        rw [h20]
        have HXU : Hid (Ext w u) := Ext.trans HX.out (Ext.trans (Ext.drew wr) hu)
        clear h20 hg hu
        go_wp2_with fail
        refine ⟨⟨k + 1, rfl, HLT.out, by rw [← HNX.out], HXU.out⟩, by have := HLT.out; simp only [intOf]; omega⟩
      case obl =>
        refine ⟨fun u hu hd => ?_, ?_⟩
        · go_simp
          exact ⟨Ext.refl _, rfl⟩
        refine ⟨fun u hu hd => ?_, ?_⟩
        · simp only [Act.put, List.setIfInBounds_toArray, List.set_cons_zero, List.set_cons_succ]
          have e0 : f1 0 = .slice (some ⟨rb, ro, none⟩) N rc := hd 0 (by kernel_rfl)
          go_simp
          exact ⟨Ext.refl _, rfl⟩
        refine ⟨fun u hu hd => ?_, ?_⟩
        · simp only [Act.put, List.setIfInBounds_toArray, List.set_cons_zero, List.set_cons_succ]
          have e1 : f1 1 = .int .i64 (N : Int) := hd 1 (by kernel_rfl)
          go_simp
          exact ⟨Ext.refl _, rfl⟩
        refine ⟨fun u hu hd => ?_, ?_⟩
        · simp only [Act.put, List.setIfInBounds_toArray, List.set_cons_zero, List.set_cons_succ]
          have e2 : f1 2 = .bool true := hd 2 (by kernel_rfl)
          go_simp
          exact ⟨Ext.refl _, rfl⟩
        refine ⟨fun u hu hd => ?_, ?_⟩
        · simp only [Act.put, List.setIfInBounds_toArray, List.set_cons_zero, List.set_cons_succ]
          have e3 : f1 3 = .bool true := hd 3 (by kernel_rfl)
          go_simp
          exact ⟨Ext.refl _, rfl⟩
        refine ⟨fun u hu hd => ?_, ?_⟩
        · simp only [Act.put, List.setIfInBounds_toArray, List.set_cons_zero, List.set_cons_succ]
          have e3 : f1 3 = .bool true := hd 3 (by kernel_rfl)
          have e4 : f1 4 = .int .i64 (-1) := hd 4 (by kernel_rfl)
          go_simp
          exact ⟨Ext.refl _, rfl⟩
        refine ⟨fun u hu hd => ?_, ?_⟩
        · simp only [Act.put, List.setIfInBounds_toArray, List.set_cons_zero, List.set_cons_succ]
          have e3 : f1 3 = .bool true := hd 3 (by kernel_rfl)
          have e5 : f1 5 = .bool true := hd 5 (by kernel_rfl)
          go_simp
          exact ⟨Ext.refl _, rfl⟩
        refine ⟨fun u hu hd => ?_, ?_⟩
        · simp only [Act.put, List.setIfInBounds_toArray, List.set_cons_zero, List.set_cons_succ]
          have e6 : f1 6 = .bool true := hd 6 (by kernel_rfl)
          go_simp
          rfl
        refine ⟨fun u hu hd => ?_, ?_⟩
        · simp only [Act.put, List.setIfInBounds_toArray, List.set_cons_zero, List.set_cons_succ]
          have e6 : f1 6 = .bool true := hd 6 (by kernel_rfl)
          go_simp
          rfl
        refine ⟨fun u hu hd => ?_, ?_⟩
        · simp only [Act.put, List.setIfInBounds_toArray, List.set_cons_zero, List.set_cons_succ]
          have e6 : f1 6 = .bool true := hd 6 (by kernel_rfl)
          go_simp
          rfl
        refine ⟨fun u hu hd => ?_, ?_⟩
        · simp only [Act.put, List.setIfInBounds_toArray, List.set_cons_zero, List.set_cons_succ]
          have e6 : f1 6 = .bool true := hd 6 (by kernel_rfl)
          go_simp
          rfl
        refine ⟨fun u hu hd => ?_, ?_⟩
        · simp only [Act.put, List.setIfInBounds_toArray, List.set_cons_zero, List.set_cons_succ]
          have e6 : f1 6 = .bool true := hd 6 (by kernel_rfl)
          go_simp
          rfl
        refine ⟨fun u hu hd => ?_, ?_⟩
        · simp only [Act.put, List.setIfInBounds_toArray, List.set_cons_zero, List.set_cons_succ]
          have e6 : f1 6 = .bool true := hd 6 (by kernel_rfl)
          go_simp
          rfl
        refine ⟨fun u hu hd => ?_, ?_⟩
        · simp only [Act.put, List.setIfInBounds_toArray, List.set_cons_zero, List.set_cons_succ]
          have e6 : f1 6 = .bool true := hd 6 (by kernel_rfl)
          go_simp
          rfl
        refine ⟨fun u hu hd => ?_, ?_⟩
        · simp only [Act.put, List.setIfInBounds_toArray, List.set_cons_zero, List.set_cons_succ]
          have e6 : f1 6 = .bool true := hd 6 (by kernel_rfl)
          go_simp
          rfl
        refine ⟨fun u hu hd => ?_, ?_⟩
        · simp only [Act.put, List.setIfInBounds_toArray, List.set_cons_zero, List.set_cons_succ]
          have e6 : f1 6 = .bool true := hd 6 (by kernel_rfl)
          go_simp
          rfl
        refine ⟨fun u hu hd => ?_, ?_⟩
        · simp only [Act.put, List.setIfInBounds_toArray, List.set_cons_zero, List.set_cons_succ]
          have e6 : f1 6 = .bool true := hd 6 (by kernel_rfl)
          go_simp
          rfl
        refine ⟨fun u hu hd => ?_, ?_⟩
        · simp only [Act.put, List.setIfInBounds_toArray, List.set_cons_zero, List.set_cons_succ]
          have e6 : f1 6 = .bool true := hd 6 (by kernel_rfl)
          go_simp
          rfl
        refine ⟨fun u hu hd => ?_, ?_⟩
        · simp only [Act.put, List.setIfInBounds_toArray, List.set_cons_zero, List.set_cons_succ]
          have e6 : f1 6 = .bool true := hd 6 (by kernel_rfl)
          go_simp
          rfl
        refine ⟨fun u hu hd => ?_, ?_⟩
        · simp only [Act.put, List.setIfInBounds_toArray, List.set_cons_zero, List.set_cons_succ]
          have e3 : f1 3 = .bool true := hd 3 (by kernel_rfl)
          have e6 : f1 6 = .bool true := hd 6 (by kernel_rfl)
          go_simp
          exact ⟨Ext.refl _, rfl⟩
        refine ⟨fun u hu hd => ?_, ?_⟩
        · simp only [Act.put, List.setIfInBounds_toArray, List.set_cons_zero, List.set_cons_succ]
          have e3 : f1 3 = .bool true := hd 3 (by kernel_rfl)
          have e19 : f1 19 = .bool true := hd 19 (by kernel_rfl)
          go_simp
          exact ⟨Ext.refl _, rfl⟩
        trivial
    obtain ⟨y, hy⟩ : ∃ y, bestTo (rs.map Rw.l) k = some y := by
      cases hy : bestTo (rs.map Rw.l) k with
      | none => exact absurd hy hb
      | some y => exact ⟨y, rfl⟩
    obtain ⟨b, e0⟩ := y
    obtain ⟨hbk, t2, ht2⟩ := bestTo_at hy
    have ha1 : a0 = (b : Int) := by rw [ha0, hy]; rfl
    subst ha1
    obtain ⟨r2, hr2⟩ : ∃ r2, rs[b]? = some r2 := ⟨_, List.getElem?_eq_getElem (by have : b < k := hbk; omega)⟩
    have HR2 := Lib.hid (HE.out.each r2 (List.mem_of_getElem? hr2))
    have ht3 : r2.l = e0 :: t2 := by
      have h9 : (rs.map Rw.l)[b]? = some (e0 :: t2) := ht2
      rw [List.getElem?_map, hr2] at h9
      injection h9
    obtain ⟨q, t4, hR2⟩ : ∃ q t, r2.R = q :: t := by
      cases hR : r2.R with
      | nil => unfold Rw.l at ht3; rw [hR] at ht3; cases ht3
      | cons p t => exact ⟨p, t, rfl⟩
    have hq0 : r2.R[0]? = some q := by rw [hR2]; rfl
    have hqe : q.1 = e0 := by unfold Rw.l at ht3; rw [hR2] at ht3; injection ht3
    obtain ⟨sb, so, hsA⟩ := HR2.out.base (by rw [hR2]; simp)
    obtain ⟨M, hM⟩ : ∃ M, M = r2.R.length := ⟨_, rfl⟩
    obtain ⟨sc, hsc⟩ : ∃ sc, sc = r2.c := ⟨_, rfl⟩
    have hM1 : 0 < M := by rw [hM, hR2]; simp
    have hM0 : (0 : Int) < (M : Int) := by omega
    have hcb := hall b r2 hr2
    unfold Rw.v at hcb
    rw [← hM, hsA, ← hsc] at hcb
    have HGL : Hid (∀ u, Ext wr u → u.cell? ⟨g0, b, none⟩ = some (.slice (some ⟨sb, so, none⟩) M sc)) := fun u hu => cell_of (ext_heap (Ext.trans HX.out hu) hg) hcb
    have HGP : Hid (∀ u, Ext wr u → u.cell? ⟨rb, ro, none⟩ = some (.slice p.2.kA p.1.key.length p.2.kc) ∧ u.cell? ⟨rb, ro + 1, none⟩ = some (.int .i64 p.1.seq) ∧ u.cell? ⟨rb, ro + 2, none⟩ = some (.int .i64 p.1.kind) ∧ u.cell? ⟨rb, ro + 3, none⟩ = some (.slice p.2.vA p.1.val.length p.2.vc)) := fun u hu => by
      obtain ⟨rA, rc', rR⟩ := r
      have hrA' : rA = some ⟨rb, ro, none⟩ := hrA
      subst hrA'
      simpa using (HRr.out.ext (Ext.trans HX.out hu) (Nat.le_refl _)).get hp0
    have HGQ : Hid (∀ u, Ext wr u → u.cell? ⟨sb, so, none⟩ = some (.slice q.2.kA q.1.key.length q.2.kc) ∧ u.cell? ⟨sb, so + 1, none⟩ = some (.int .i64 q.1.seq) ∧ u.cell? ⟨sb, so + 2, none⟩ = some (.int .i64 q.1.kind) ∧ u.cell? ⟨sb, so + 3, none⟩ = some (.slice q.2.vA q.1.val.length q.2.vc)) := fun u hu => by
      obtain ⟨rA, rc', rR⟩ := r2
      have hrA' : rA = some ⟨sb, so, none⟩ := hsA
      subst hrA'
      simpa using (HR2.out.ext (Ext.trans HX.out hu) (Nat.le_refl _)).get hq0
    obtain ⟨s, hs⟩ : ∃ s, s = cmpE p.1 q.1 := ⟨_, rfl⟩
    have HOR : Hid (∀ u, Ext wr u → Calls Try.prog 37 #[.agg #[.slice p.2.kA p.1.key.length p.2.kc, .int .i64 p.1.seq, .int .i64 p.1.kind, .slice p.2.vA p.1.val.length p.2.vc], .agg #[.slice q.2.kA q.1.key.length q.2.kc, .int .i64 q.1.seq, .int .i64 q.1.kind, .slice q.2.vA q.1.val.length q.2.vc]] u fun e w' => e = .returned (.int .i64 s) ∧ Ext u w') := fun u hu => by
      rw [hs]
      have hx := Ext.trans HX.out hu
      have m1 := (HRr.out.mine p (List.mem_of_getElem? hp0)).1.below hx
      have m2 := (HR2.out.mine q (List.mem_of_getElem? hq0)).1.below hx
      exact compare_any m1.em m2.em (Nat.le_refl _) (Nat.le_refl _)
    obtain ⟨z, hz⟩ : ∃ z, z = decide (s < 0) := ⟨_, rfl⟩
    have HSV : Hid (decide (s < 0) = z) := hz.symm
    have HNX : Hid ((if z then (k : Int) else (b : Int)) = atV (bestTo (rs.map Rw.l) (k + 1))) := by
      rw [bestTo_two HL1.out hy, hz, hs]
      show _ = atV (if cmpE p.1 e0 < 0 then _ else _)
      rw [hqe]
      by_cases h9 : cmpE p.1 e0 < 0
      · simp [h9, atV]
      · simp [h9, atV]
    have n3 : (0 : Int) ≤ (b : Int) := by omega
    have n4 : (b : Int) < (n : Int) := by have : b < k := hbk; omega
    have dneg : decide ((b : Int) < 0) = false := by simp
    clear he hr hg hall hcur hlt hlt2 hk ha0 hrA hp0 hR hN hrc hb hy hbk ht2 hr2 ht3 hR2 hq0 hqe hsA hM hsc hcb hs hz
    go_upto_region 5 with (fail)
    refine flow (by kernel_rfl) [Is (.slice (some ⟨rb, ro, none⟩) N rc), Is (.int .i64 (N : Int)), Is (.bool true), Is (.bool true), Is (.int .i64 (b : Int)), Is (.bool false), Is (.bool false), Is (.func (.func 37) #[] #[]), Is (.slice (some ⟨rb, ro, none⟩) N rc), Is (.pointer (some ⟨rb, ro, none⟩)), Is (.agg #[.slice p.2.kA p.1.key.length p.2.kc, .int .i64 p.1.seq, .int .i64 p.1.kind, .slice p.2.vA p.1.val.length p.2.vc]), Is (.slice (some ⟨g0, 0, none⟩) n cap), Is (.int .i64 (b : Int)), Is (.pointer (some ⟨g0, b, none⟩)), Is (.slice (some ⟨sb, so, none⟩) M sc), Is (.pointer (some ⟨sb, so, none⟩)), Is (.agg #[.slice q.2.kA q.1.key.length q.2.kc, .int .i64 q.1.seq, .int .i64 q.1.kind, .slice q.2.vA q.1.val.length q.2.vc]), Is (.int .i64 s), Is (.bool z), Is (.bool z), Is (.bool z)] (by kernel_rfl) (by kernel_rfl) ?mono (fun f1 => ?obl) ?fin
    case mono =>
      simp only [List.forall_mem_cons, List.not_mem_nil, false_imp_iff, implies_true, and_true]
      exact ⟨.is _, .is _, .is _, .is _, .is _, .is _, .is _, .is _, .is _, .is _, .is _, .is _, .is _, .is _, .is _, .is _, .is _, .is _, .is _, .is _, .is _⟩
    case fin =>
      intro g1 u hu hg
      simp only [puts, Act.put, List.setIfInBounds_toArray, List.set_cons_zero, List.set_cons_succ]
      have h20 : g1 20 = .bool z := hg 20 (by decide)
      rw [h20]
      have HXU : Hid (Ext w u) := Ext.trans HX.out (Ext.trans (Ext.drew wr) hu)
      clear h20 hg hu
      have HNX2 := HNX.out
      cases z with
      | true =>
        clear HNX2
        go_wp2_with fail
        have h9 := HNX.out
        rw [if_pos rfl] at h9
        refine ⟨⟨k + 1, rfl, HLT.out, by rw [← h9], HXU.out⟩, by have := HLT.out; simp only [intOf]; omega⟩
      | false =>
        clear HNX2
        go_wp2_with fail
        have h9 := HNX.out
        rw [if_neg (by decide)] at h9
        refine ⟨⟨k + 1, rfl, HLT.out, by rw [← h9], HXU.out⟩, by have := HLT.out; simp only [intOf]; omega⟩
    case obl =>
      refine ⟨fun u hu hd => ?_, ?_⟩
      · go_simp
        exact ⟨Ext.refl _, rfl⟩
      refine ⟨fun u hu hd => ?_, ?_⟩
      · simp only [Act.put, List.setIfInBounds_toArray, List.set_cons_zero, List.set_cons_succ]
        have e0 : f1 0 = .slice (some ⟨rb, ro, none⟩) N rc := hd 0 (by kernel_rfl)
        go_simp
        exact ⟨Ext.refl _, rfl⟩
      refine ⟨fun u hu hd => ?_, ?_⟩
      · simp only [Act.put, List.setIfInBounds_toArray, List.set_cons_zero, List.set_cons_succ]
        have e1 : f1 1 = .int .i64 (N : Int) := hd 1 (by kernel_rfl)
        go_simp
        exact ⟨Ext.refl _, rfl⟩
      refine ⟨fun u hu hd => ?_, ?_⟩
      · simp only [Act.put, List.setIfInBounds_toArray, List.set_cons_zero, List.set_cons_succ]
        have e2 : f1 2 = .bool true := hd 2 (by kernel_rfl)
        go_simp
        exact ⟨Ext.refl _, rfl⟩
      refine ⟨fun u hu hd => ?_, ?_⟩
      · simp only [Act.put, List.setIfInBounds_toArray, List.set_cons_zero, List.set_cons_succ]
        have e3 : f1 3 = .bool true := hd 3 (by kernel_rfl)
        go_simp
        exact ⟨Ext.refl _, rfl⟩
      refine ⟨fun u hu hd => ?_, ?_⟩
      · simp only [Act.put, List.setIfInBounds_toArray, List.set_cons_zero, List.set_cons_succ]
        have e3 : f1 3 = .bool true := hd 3 (by kernel_rfl)
        have e4 : f1 4 = .int .i64 (b : Int) := hd 4 (by kernel_rfl)
        go_simp
        exact ⟨Ext.refl _, rfl⟩
      refine ⟨fun u hu hd => ?_, ?_⟩
      · simp only [Act.put, List.setIfInBounds_toArray, List.set_cons_zero, List.set_cons_succ]
        have e3 : f1 3 = .bool true := hd 3 (by kernel_rfl)
        have e5 : f1 5 = .bool false := hd 5 (by kernel_rfl)
        go_simp
        exact ⟨Ext.refl _, rfl⟩
      refine ⟨fun u hu hd => ?_, ?_⟩
      · simp only [Act.put, List.setIfInBounds_toArray, List.set_cons_zero, List.set_cons_succ]
        have e6 : f1 6 = .bool false := hd 6 (by kernel_rfl)
        go_simp
        exact ⟨Ext.refl _, rfl⟩
      refine ⟨fun u hu hd => ?_, ?_⟩
      · simp only [Act.put, List.setIfInBounds_toArray, List.set_cons_zero, List.set_cons_succ]
        have e6 : f1 6 = .bool false := hd 6 (by kernel_rfl)
        go_simp
        exact ⟨Ext.refl _, rfl⟩
      refine ⟨fun u hu hd => ?_, ?_⟩
      · simp only [Act.put, List.setIfInBounds_toArray, List.set_cons_zero, List.set_cons_succ]
        have e6 : f1 6 = .bool false := hd 6 (by kernel_rfl)
        have e8 : f1 8 = .slice (some ⟨rb, ro, none⟩) N rc := hd 8 (by kernel_rfl)
        go_simp
        exact ⟨Ext.refl _, rfl⟩
      refine ⟨fun u hu hd => ?_, ?_⟩
      · simp only [Act.put, List.setIfInBounds_toArray, List.set_cons_zero, List.set_cons_succ]
        have e6 : f1 6 = .bool false := hd 6 (by kernel_rfl)
        have e9 : f1 9 = .pointer (some ⟨rb, ro, none⟩) := hd 9 (by kernel_rfl)
        have hu2 := Ext.trans (Ext.drew wr) hu
        obtain ⟨q0, q1, q2, q3⟩ := HGP.out u hu2
        go_simp
        exact ⟨Ext.refl _, rfl⟩
      refine ⟨fun u hu hd => ?_, ?_⟩
      · simp only [Act.put, List.setIfInBounds_toArray, List.set_cons_zero, List.set_cons_succ]
        have e6 : f1 6 = .bool false := hd 6 (by kernel_rfl)
        go_simp
        exact ⟨Ext.refl _, rfl⟩
      refine ⟨fun u hu hd => ?_, ?_⟩
      · simp only [Act.put, List.setIfInBounds_toArray, List.set_cons_zero, List.set_cons_succ]
        have e6 : f1 6 = .bool false := hd 6 (by kernel_rfl)
        go_simp
        exact ⟨Ext.refl _, rfl⟩
      refine ⟨fun u hu hd => ?_, ?_⟩
      · simp only [Act.put, List.setIfInBounds_toArray, List.set_cons_zero, List.set_cons_succ]
        have e6 : f1 6 = .bool false := hd 6 (by kernel_rfl)
        have e11 : f1 11 = .slice (some ⟨g0, 0, none⟩) n cap := hd 11 (by kernel_rfl)
        have e12 : f1 12 = .int .i64 (b : Int) := hd 12 (by kernel_rfl)
        go_simp
        exact ⟨Ext.refl _, rfl⟩
      refine ⟨fun u hu hd => ?_, ?_⟩
      · simp only [Act.put, List.setIfInBounds_toArray, List.set_cons_zero, List.set_cons_succ]
        have e6 : f1 6 = .bool false := hd 6 (by kernel_rfl)
        have e13 : f1 13 = .pointer (some ⟨g0, b, none⟩) := hd 13 (by kernel_rfl)
        have hu2 := Ext.trans (Ext.drew wr) hu
        have q0 := HGL.out u hu2
        go_simp
        exact ⟨Ext.refl _, rfl⟩
      refine ⟨fun u hu hd => ?_, ?_⟩
      · simp only [Act.put, List.setIfInBounds_toArray, List.set_cons_zero, List.set_cons_succ]
        have e6 : f1 6 = .bool false := hd 6 (by kernel_rfl)
        have e14 : f1 14 = .slice (some ⟨sb, so, none⟩) M sc := hd 14 (by kernel_rfl)
        go_simp
        exact ⟨Ext.refl _, rfl⟩
      refine ⟨fun u hu hd => ?_, ?_⟩
      · simp only [Act.put, List.setIfInBounds_toArray, List.set_cons_zero, List.set_cons_succ]
        have e6 : f1 6 = .bool false := hd 6 (by kernel_rfl)
        have e15 : f1 15 = .pointer (some ⟨sb, so, none⟩) := hd 15 (by kernel_rfl)
        have hu2 := Ext.trans (Ext.drew wr) hu
        obtain ⟨q0, q1, q2, q3⟩ := HGQ.out u hu2
        go_simp
        exact ⟨Ext.refl _, rfl⟩
      refine ⟨fun u hu hd => ?_, ?_⟩
      · simp only [Act.put, List.setIfInBounds_toArray, List.set_cons_zero, List.set_cons_succ]
        have e6 : f1 6 = .bool false := hd 6 (by kernel_rfl)
        have e7 : f1 7 = .func (.func 37) #[] #[] := hd 7 (by kernel_rfl)
        have e10 : f1 10 = .agg #[.slice p.2.kA p.1.key.length p.2.kc, .int .i64 p.1.seq, .int .i64 p.1.kind, .slice p.2.vA p.1.val.length p.2.vc] := hd 10 (by kernel_rfl)
        have e16 : f1 16 = .agg #[.slice q.2.kA q.1.key.length q.2.kc, .int .i64 q.1.seq, .int .i64 q.1.kind, .slice q.2.vA q.1.val.length q.2.vc] := hd 16 (by kernel_rfl)
        have HF := Lib.hid (HOR.out u (Ext.trans (Ext.drew wr) hu))
        clear hd hu
        go_simp
        refine HF.out.mono ?_
        rintro e w9 ⟨rfl, hx9⟩
        exact ⟨_, rfl, hx9, rfl⟩
      refine ⟨fun u hu hd => ?_, ?_⟩
      · simp only [Act.put, List.setIfInBounds_toArray, List.set_cons_zero, List.set_cons_succ]
        have e6 : f1 6 = .bool false := hd 6 (by kernel_rfl)
        have e17 : f1 17 = .int .i64 s := hd 17 (by kernel_rfl)
        have t := HSV.out
        go_simp
        exact ⟨Ext.refl _, rfl⟩
      refine ⟨fun u hu hd => ?_, ?_⟩
      · simp only [Act.put, List.setIfInBounds_toArray, List.set_cons_zero, List.set_cons_succ]
        have e3 : f1 3 = .bool true := hd 3 (by kernel_rfl)
        have e6 : f1 6 = .bool false := hd 6 (by kernel_rfl)
        have e18 : f1 18 = .bool z := hd 18 (by kernel_rfl)
        go_simp
        exact ⟨Ext.refl _, rfl⟩
      refine ⟨fun u hu hd => ?_, ?_⟩
      · simp only [Act.put, List.setIfInBounds_toArray, List.set_cons_zero, List.set_cons_succ]
        have e3 : f1 3 = .bool true := hd 3 (by kernel_rfl)
        have e19 : f1 19 = .bool z := hd 19 (by kernel_rfl)
        go_simp
        exact ⟨Ext.refl _, rfl⟩
      trivial
end Go.Proofs.Ytlnihaeeoolkhaa

/- The reference's Rising (merge). -/
namespace Go.Proofs.Ytlnihaeeoolkhaa
open Go.ChangeShapes Go.WideShapes Go.ChangeAt Go.RowKit

theorem wrap_up {k : Nat} (h : k ≤ 1000000000) : wrap64 ((k : Int) + 1) = ((k + 1 : Nat) : Int) := by unfold wrap64; omega
theorem riseTo_next {l : List Ent} {k : Nat} {a b : Ent} (h : RiseTo l (k + 1)) (ha : l[k]? = some a) (hb : l[k + 1]? = some b) (hlt : cmpE a b < 0) : RiseTo l (k + 1 + 1) := by
  intro j x y hj hx hy
  by_cases e : j = k
  · rw [e] at hx hy
    rw [ha] at hx; rw [hb] at hy
    injection hx with hx; injection hy with hy
    rw [← hx, ← hy]; exact hlt
  · exact h j x y (by omega) hx hy
set_option maxRecDepth 100000 in
set_option maxHeartbeats 4000000 in
theorem ris11_any {w : World} {lo hi : Nat} {A : Option Addr} {c : Nat} {L : List (Ent × Hd)} (h : Es w lo hi A L) (hhi : hi ≤ w.heap.size) (hlen : L.length ≤ 1000000) (hln : ∀ p ∈ L, p.1.key.length ≤ 140737488351232) :
    Calls Try.prog 7 #[.slice A L.length c] w fun x w' => ∃ z : Bool, (z = true ↔ Rise (L.map Prod.fst)) ∧ x = .returned (.bool z) ∧ Ext w w' := by
  have HE := Lib.hid h
  have HHI := Lib.hid hhi
  have HL := Lib.hid hlen
  have HLN := Lib.hid hln
  have hlI : (L.length : Int) ≤ 1000000 := by omega
  clear h hhi hln hlen
  go_enter Try.func7, Try.ntmps7
  go_wp2_with fail
  go_loopw [3] (fun i wr => ∃ m : Nat, Hid (1 ≤ m) ∧ i = .int .i64 (m : Int) ∧ Hid (RiseTo (L.map Prod.fst) m) ∧ Hid (Ext w wr)) (fun i _ => L.length + 1 - (intOf i).toNat)
  case atStart => exact ⟨1, Nat.le_refl _, rfl, fun j x y hj => (by omega), Ext.refl _⟩
  case round =>
    obtain ⟨m, hk, rfl, HR, HX⟩ := hrel
    obtain ⟨k, hmk⟩ : ∃ k, m = k + 1 := ⟨m - 1, by have := hk.out; omega⟩
    by_cases hlt : m < L.length
    · have d : decide ((m : Int) < (L.length : Int)) = true := by simp; omega
      have dn : decide (m < L.length) = true := by simp; omega
      obtain ⟨b, o, rfl⟩ := HE.out.base (by omega)
      obtain ⟨p, hp⟩ : ∃ p, L[k]? = some p := ⟨_, List.getElem?_eq_getElem (by omega)⟩
      obtain ⟨q, hq⟩ : ∃ q, L[m]? = some q := ⟨_, List.getElem?_eq_getElem hlt⟩
      have HGP : Hid (∀ u, Ext wr u → u.cell? ⟨b, o + k * 4, none⟩ = some (.slice p.2.kA p.1.key.length p.2.kc) ∧ u.cell? ⟨b, o + k * 4 + 1, none⟩ = some (.int .i64 p.1.seq) ∧ u.cell? ⟨b, o + k * 4 + 2, none⟩ = some (.int .i64 p.1.kind) ∧ u.cell? ⟨b, o + k * 4 + 3, none⟩ = some (.slice p.2.vA p.1.val.length p.2.vc)) := fun u hu => (HE.out.below (Ext.trans HX.out hu) HHI.out).get hp
      have HGQ : Hid (∀ u, Ext wr u → u.cell? ⟨b, o + m * 4, none⟩ = some (.slice q.2.kA q.1.key.length q.2.kc) ∧ u.cell? ⟨b, o + m * 4 + 1, none⟩ = some (.int .i64 q.1.seq) ∧ u.cell? ⟨b, o + m * 4 + 2, none⟩ = some (.int .i64 q.1.kind) ∧ u.cell? ⟨b, o + m * 4 + 3, none⟩ = some (.slice q.2.vA q.1.val.length q.2.vc)) := fun u hu => (HE.out.below (Ext.trans HX.out hu) HHI.out).get hq
      obtain ⟨s, hs⟩ : ∃ s, s = cmpE p.1 q.1 := ⟨_, rfl⟩
      have HOR : Hid (∀ u, Ext wr u → Calls Try.prog 22 #[.agg #[.slice p.2.kA p.1.key.length p.2.kc, .int .i64 p.1.seq, .int .i64 p.1.kind, .slice p.2.vA p.1.val.length p.2.vc], .agg #[.slice q.2.kA q.1.key.length q.2.kc, .int .i64 q.1.seq, .int .i64 q.1.kind, .slice q.2.vA q.1.val.length q.2.vc]] u fun e w' => e = .returned (.int .i64 s) ∧ Ext u w') := fun u hu => by
        rw [hs]
        have hx := Ext.trans HX.out hu
        exact order11_any ((HE.out.each p (List.mem_of_getElem? hp)).below hx HHI.out) ((HE.out.each q (List.mem_of_getElem? hq)).below hx HHI.out) (Nat.le_trans HHI.out hx.size) (Nat.le_trans HHI.out hx.size) (HLN.out p (List.mem_of_getElem? hp)) (HLN.out q (List.mem_of_getElem? hq))
      have HSB : Hid (IntKind.i64.wrap ((m : Int) - 1) = (k : Int)) := (IntWalk.i64_in _ (by omega)).trans (by omega)
      have HPQ := Lib.hid (And.intro hp hq)
      have HSS := Lib.hid hs
      have HLT := Lib.hid hlt
      have n1 : (0 : Int) ≤ (k : Int) := by omega
      have n2 : (k : Int) < (L.length : Int) := by omega
      have n3 : (0 : Int) ≤ (m : Int) := by omega
      have n4 : (m : Int) < (L.length : Int) := by omega
      by_cases hneg : s < 0
      · have HSV : Hid (decide (0 ≤ s) = false) := by unfold Hid; simp; omega
        have HNX : Hid (RiseTo (L.map Prod.fst) (m + 1)) := by
          have hr := HR.out
          rw [hmk] at hr hq ⊢
          exact riseTo_next hr (by rw [List.getElem?_map, hp]; rfl) (by rw [List.getElem?_map, hq]; rfl) (by rw [← hs]; exact hneg)
        have HW := Lib.hid (wrap_up (k := m) (by omega))
        clear hp hq hs hneg hlt hmk
        go_upto_region 4 with (fail)
        refine flow (by kernel_rfl) [Is (.slice (some ⟨b, o, none⟩) L.length c), Is (.int .i64 (m : Int)), Is (.int .i64 (k : Int)), Is (.pointer (some ⟨b, o + k * 4, none⟩)), Is (.agg #[.slice p.2.kA p.1.key.length p.2.kc, .int .i64 p.1.seq, .int .i64 p.1.kind, .slice p.2.vA p.1.val.length p.2.vc]), Is (.slice (some ⟨b, o, none⟩) L.length c), Is (.int .i64 (m : Int)), Is (.pointer (some ⟨b, o + m * 4, none⟩)), Is (.agg #[.slice q.2.kA q.1.key.length q.2.kc, .int .i64 q.1.seq, .int .i64 q.1.kind, .slice q.2.vA q.1.val.length q.2.vc]), Is (.int .i64 s), Is (.bool false)] (by kernel_rfl) (by kernel_rfl) ?mono (fun f1 => ?obl) ?fin
        case mono =>
          simp only [List.forall_mem_cons, List.not_mem_nil, false_imp_iff, implies_true, and_true]
          exact ⟨.is _, .is _, .is _, .is _, .is _, .is _, .is _, .is _, .is _, .is _, .is _⟩
        case fin =>
          intro g1 u hu hg
          simp only [puts, Act.put, List.setIfInBounds_toArray, List.set_cons_zero, List.set_cons_succ]
          have h10 : g1 10 = .bool false := hg 10 (by decide)
          rw [h10]
          have HXU : Hid (Ext w u) := Ext.trans HX.out (Ext.trans (Ext.drew wr) hu)
          clear h10 hg hu
          have hw := HW.out
          go_wp2_with fail
          refine ⟨⟨m + 1, Nat.le_succ_of_le hk.out, by first | rfl | rw [hw], HNX.out, HXU.out⟩, by clear hw; have := HLT.out; simp [intOf]; omega⟩
        case obl =>
          refine ⟨fun u hu hd => ?_, ?_⟩
          · go_simp
            exact ⟨Ext.refl _, rfl⟩
          refine ⟨fun u hu hd => ?_, ?_⟩
          · simp only [Act.put, List.setIfInBounds_toArray, List.set_cons_zero, List.set_cons_succ]
            go_simp
            exact ⟨Ext.refl _, rfl⟩
          refine ⟨fun u hu hd => ?_, ?_⟩
          · simp only [Act.put, List.setIfInBounds_toArray, List.set_cons_zero, List.set_cons_succ]
            have e1 : f1 1 = .int .i64 (m : Int) := hd 1 (by kernel_rfl)
            have hs := HSB.out
            go_simp
            exact ⟨Ext.refl _, rfl⟩
          refine ⟨fun u hu hd => ?_, ?_⟩
          · simp only [Act.put, List.setIfInBounds_toArray, List.set_cons_zero, List.set_cons_succ]
            have e0 : f1 0 = .slice (some ⟨b, o, none⟩) L.length c := hd 0 (by kernel_rfl)
            have e2 : f1 2 = .int .i64 (k : Int) := hd 2 (by kernel_rfl)
            go_simp
            exact ⟨Ext.refl _, rfl⟩
          refine ⟨fun u hu hd => ?_, ?_⟩
          · simp only [Act.put, List.setIfInBounds_toArray, List.set_cons_zero, List.set_cons_succ]
            have e3 : f1 3 = .pointer (some ⟨b, o + k * 4, none⟩) := hd 3 (by kernel_rfl)
            have hu2 := Ext.trans (Ext.drew wr) hu
            obtain ⟨q0, q1, q2, q3⟩ := HGP.out u hu2
            go_simp
            exact ⟨Ext.refl _, rfl⟩
          refine ⟨fun u hu hd => ?_, ?_⟩
          · simp only [Act.put, List.setIfInBounds_toArray, List.set_cons_zero, List.set_cons_succ]
            go_simp
            exact ⟨Ext.refl _, rfl⟩
          refine ⟨fun u hu hd => ?_, ?_⟩
          · simp only [Act.put, List.setIfInBounds_toArray, List.set_cons_zero, List.set_cons_succ]
            go_simp
            exact ⟨Ext.refl _, rfl⟩
          refine ⟨fun u hu hd => ?_, ?_⟩
          · simp only [Act.put, List.setIfInBounds_toArray, List.set_cons_zero, List.set_cons_succ]
            have e5 : f1 5 = .slice (some ⟨b, o, none⟩) L.length c := hd 5 (by kernel_rfl)
            have e6 : f1 6 = .int .i64 (m : Int) := hd 6 (by kernel_rfl)
            go_simp
            exact ⟨Ext.refl _, rfl⟩
          refine ⟨fun u hu hd => ?_, ?_⟩
          · simp only [Act.put, List.setIfInBounds_toArray, List.set_cons_zero, List.set_cons_succ]
            have e7 : f1 7 = .pointer (some ⟨b, o + m * 4, none⟩) := hd 7 (by kernel_rfl)
            have hu2 := Ext.trans (Ext.drew wr) hu
            obtain ⟨q0, q1, q2, q3⟩ := HGQ.out u hu2
            go_simp
            exact ⟨Ext.refl _, rfl⟩
          refine ⟨fun u hu hd => ?_, ?_⟩
          · simp only [Act.put, List.setIfInBounds_toArray, List.set_cons_zero, List.set_cons_succ]
            have e4 : f1 4 = .agg #[.slice p.2.kA p.1.key.length p.2.kc, .int .i64 p.1.seq, .int .i64 p.1.kind, .slice p.2.vA p.1.val.length p.2.vc] := hd 4 (by kernel_rfl)
            have e8 : f1 8 = .agg #[.slice q.2.kA q.1.key.length q.2.kc, .int .i64 q.1.seq, .int .i64 q.1.kind, .slice q.2.vA q.1.val.length q.2.vc] := hd 8 (by kernel_rfl)
            have HF := Lib.hid (HOR.out u (Ext.trans (Ext.drew wr) hu))
            clear hd hu
            go_simp
            refine HF.out.mono ?_
            rintro e w9 ⟨rfl, hx9⟩
            exact ⟨_, rfl, hx9, rfl⟩
          refine ⟨fun u hu hd => ?_, ?_⟩
          · simp only [Act.put, List.setIfInBounds_toArray, List.set_cons_zero, List.set_cons_succ]
            have e9 : f1 9 = .int .i64 s := hd 9 (by kernel_rfl)
            have t := HSV.out
            go_simp
            exact ⟨Ext.refl _, rfl⟩
          trivial
      · have HSV : Hid (decide (0 ≤ s) = true) := by unfold Hid; simp; omega
        have HNO : Hid (¬ Rise (L.map Prod.fst)) := fun hr => hneg (by
          rw [hs]
          have := hr k p.1 q.1 (by rw [List.getElem?_map, hp]; rfl) (by rw [← hmk, List.getElem?_map, hq]; rfl)
          exact this)
        clear hp hq hs hneg hlt hmk
        go_upto_region 4 with (fail)
        refine flow (by kernel_rfl) [Is (.slice (some ⟨b, o, none⟩) L.length c), Is (.int .i64 (m : Int)), Is (.int .i64 (k : Int)), Is (.pointer (some ⟨b, o + k * 4, none⟩)), Is (.agg #[.slice p.2.kA p.1.key.length p.2.kc, .int .i64 p.1.seq, .int .i64 p.1.kind, .slice p.2.vA p.1.val.length p.2.vc]), Is (.slice (some ⟨b, o, none⟩) L.length c), Is (.int .i64 (m : Int)), Is (.pointer (some ⟨b, o + m * 4, none⟩)), Is (.agg #[.slice q.2.kA q.1.key.length q.2.kc, .int .i64 q.1.seq, .int .i64 q.1.kind, .slice q.2.vA q.1.val.length q.2.vc]), Is (.int .i64 s), Is (.bool true)] (by kernel_rfl) (by kernel_rfl) ?mono (fun f1 => ?obl) ?fin
        case mono =>
          simp only [List.forall_mem_cons, List.not_mem_nil, false_imp_iff, implies_true, and_true]
          exact ⟨.is _, .is _, .is _, .is _, .is _, .is _, .is _, .is _, .is _, .is _, .is _⟩
        case fin =>
          intro g1 u hu hg
          simp only [puts, Act.put, List.setIfInBounds_toArray, List.set_cons_zero, List.set_cons_succ]
          have h10 : g1 10 = .bool true := hg 10 (by decide)
          rw [h10]
          have HXU : Hid (Ext w u) := Ext.trans HX.out (Ext.trans (Ext.drew wr) hu)
          clear h10 hg hu
          go_wp2_with fail
          go_ret
          exact ⟨false, ⟨fun h => (by cases h), fun h => absurd h HNO.out⟩, rfl, HXU.out⟩
        case obl =>
          refine ⟨fun u hu hd => ?_, ?_⟩
          · go_simp
            exact ⟨Ext.refl _, rfl⟩
          refine ⟨fun u hu hd => ?_, ?_⟩
          · simp only [Act.put, List.setIfInBounds_toArray, List.set_cons_zero, List.set_cons_succ]
            go_simp
            exact ⟨Ext.refl _, rfl⟩
          refine ⟨fun u hu hd => ?_, ?_⟩
          · simp only [Act.put, List.setIfInBounds_toArray, List.set_cons_zero, List.set_cons_succ]
            have e1 : f1 1 = .int .i64 (m : Int) := hd 1 (by kernel_rfl)
            have hs := HSB.out
            go_simp
            exact ⟨Ext.refl _, rfl⟩
          refine ⟨fun u hu hd => ?_, ?_⟩
          · simp only [Act.put, List.setIfInBounds_toArray, List.set_cons_zero, List.set_cons_succ]
            have e0 : f1 0 = .slice (some ⟨b, o, none⟩) L.length c := hd 0 (by kernel_rfl)
            have e2 : f1 2 = .int .i64 (k : Int) := hd 2 (by kernel_rfl)
            go_simp
            exact ⟨Ext.refl _, rfl⟩
          refine ⟨fun u hu hd => ?_, ?_⟩
          · simp only [Act.put, List.setIfInBounds_toArray, List.set_cons_zero, List.set_cons_succ]
            have e3 : f1 3 = .pointer (some ⟨b, o + k * 4, none⟩) := hd 3 (by kernel_rfl)
            have hu2 := Ext.trans (Ext.drew wr) hu
            obtain ⟨q0, q1, q2, q3⟩ := HGP.out u hu2
            go_simp
            exact ⟨Ext.refl _, rfl⟩
          refine ⟨fun u hu hd => ?_, ?_⟩
          · simp only [Act.put, List.setIfInBounds_toArray, List.set_cons_zero, List.set_cons_succ]
            go_simp
            exact ⟨Ext.refl _, rfl⟩
          refine ⟨fun u hu hd => ?_, ?_⟩
          · simp only [Act.put, List.setIfInBounds_toArray, List.set_cons_zero, List.set_cons_succ]
            go_simp
            exact ⟨Ext.refl _, rfl⟩
          refine ⟨fun u hu hd => ?_, ?_⟩
          · simp only [Act.put, List.setIfInBounds_toArray, List.set_cons_zero, List.set_cons_succ]
            have e5 : f1 5 = .slice (some ⟨b, o, none⟩) L.length c := hd 5 (by kernel_rfl)
            have e6 : f1 6 = .int .i64 (m : Int) := hd 6 (by kernel_rfl)
            go_simp
            exact ⟨Ext.refl _, rfl⟩
          refine ⟨fun u hu hd => ?_, ?_⟩
          · simp only [Act.put, List.setIfInBounds_toArray, List.set_cons_zero, List.set_cons_succ]
            have e7 : f1 7 = .pointer (some ⟨b, o + m * 4, none⟩) := hd 7 (by kernel_rfl)
            have hu2 := Ext.trans (Ext.drew wr) hu
            obtain ⟨q0, q1, q2, q3⟩ := HGQ.out u hu2
            go_simp
            exact ⟨Ext.refl _, rfl⟩
          refine ⟨fun u hu hd => ?_, ?_⟩
          · simp only [Act.put, List.setIfInBounds_toArray, List.set_cons_zero, List.set_cons_succ]
            have e4 : f1 4 = .agg #[.slice p.2.kA p.1.key.length p.2.kc, .int .i64 p.1.seq, .int .i64 p.1.kind, .slice p.2.vA p.1.val.length p.2.vc] := hd 4 (by kernel_rfl)
            have e8 : f1 8 = .agg #[.slice q.2.kA q.1.key.length q.2.kc, .int .i64 q.1.seq, .int .i64 q.1.kind, .slice q.2.vA q.1.val.length q.2.vc] := hd 8 (by kernel_rfl)
            have HF := Lib.hid (HOR.out u (Ext.trans (Ext.drew wr) hu))
            clear hd hu
            go_simp
            refine HF.out.mono ?_
            rintro e w9 ⟨rfl, hx9⟩
            exact ⟨_, rfl, hx9, rfl⟩
          refine ⟨fun u hu hd => ?_, ?_⟩
          · simp only [Act.put, List.setIfInBounds_toArray, List.set_cons_zero, List.set_cons_succ]
            have e9 : f1 9 = .int .i64 s := hd 9 (by kernel_rfl)
            have t := HSV.out
            go_simp
            exact ⟨Ext.refl _, rfl⟩
          trivial
    · have d : decide ((m : Int) < (L.length : Int)) = false := by simp; omega
      have dn : decide (m < L.length) = false := by simp; omega
      have HALL : Hid (Rise (L.map Prod.fst)) := fun j x y hx hy => HR.out j x y (by
        have := (List.getElem?_eq_some_iff.1 hy).1
        rw [List.length_map] at this
        omega) hx hy
      clear hlt hmk
      go_wp2_with fail
      go_ret
      exact ⟨true, ⟨fun _ => HALL.out, fun _ => rfl⟩, rfl, HX.out⟩
end Go.Proofs.Ytlnihaeeoolkhaa
