/- IkeyReads: bytes are read as the chapter says, into memory of the reader's own. -/
import Derived.Test.YtfalpagimmaipaaIrread
import Derived.Test.YtfalpagimmaipaaIknown
import Derived.Test.YtfalpagimmaipaaCflow
import Derived.Deep.DeepCutAuto
namespace Go.Proofs.Ytfalpagimmaipaa.ikeyReads
open Go.ChangeShapes Go.WideShapes Go.ChangeAt Go.RowKit

theorem tx_size (l : List Nat) : (tx l).size = l.length := by unfold tx; rw [strOfNums_size, List.length_map]
theorem tx_snoc (l : List Nat) : ((tx (l ++ [119])).toList == (tx l ++ ({ data := #[119] } : ByteArray)).toList) = true := by
  rw [ByteArray.toList_eq, ByteArray.toList_eq, beq_iff_eq]
  unfold tx
  rw [strOfNums_data, List.map_append, List.map_append, ByteArray.data_append, Array.toList_append, strOfNums_data]
  rfl

/-- A row whose bytes nobody asks for any more: it may be written over. -/
def Row (w : World) (ro : Option Nat) (A : Option Addr) (n : Nat) : Prop := ∀ j, j < n → ∃ g, ro = some g ∧ A = some ⟨g, 0, none⟩ ∧ (∃ x : Nat, x < 256 ∧ w.cell? ⟨g, j, none⟩ = some (.int .u8 (x : Int))) ∧ w.frozen? ⟨g, j, none⟩ = false
theorem Row.of_own {w : World} {B : Nat} {A : Option Addr} {n c : Nat} {l : List Nat} (h : w.ownsRow B 5 1 (.slice A n c) l.length (bv l)) (hl : ∀ b ∈ l, b < 256) : n = l.length ∧ Row w (Value.slice A n c).ownBlock A n := by
  rcases h.2 with ⟨h', h0⟩ | ⟨g, cap, cur, h', _⟩
  · injection h' with e1 e2 e3
    exact ⟨by omega, fun j hj => by omega⟩
  · injection h' with e1 e2 e3
    subst e1 e2 e3
    refine ⟨rfl, fun j hj => ⟨g, rfl, rfl, ⟨l[j], hl _ (List.getElem_mem hj), ?_⟩, h.frozenAt j⟩⟩
    rw [h.cellAt j (by omega)]
    simp [bv, List.getElem?_eq_getElem hj]
theorem Row.set {w : World} {ro : Option Nat} {A : Option Addr} {n g j x : Nat} (h : Row w ro A n) (hx : x < 256) : Row (w.setCell ⟨g, j, none⟩ (.int .u8 (x : Int))) ro A n := by
  intro i hi
  obtain ⟨g', e1, e2, ⟨y, hy, hc⟩, hf⟩ := h i hi
  refine ⟨g', e1, e2, ?_, by simpa using hf⟩
  by_cases he : (⟨g, j, none⟩ : Addr) = ⟨g', i, none⟩
  · injection he with q1 q2
    subst q1 q2
    exact ⟨x, hx, World.cell?_setCell_same _ _ _ hc⟩
  · exact ⟨y, hy, by rw [World.cell?_setCell_other _ _ _ _ he]; exact hc⟩

/-- What stands in bytes of an entry is bytes. -/
theorem is_bytes {b : List Nat} {e : Ent} (h : IsE b e) (hb : ∀ x ∈ b, x < 256) : (∀ x ∈ e.key, x < 256) ∧ (∀ x ∈ e.val, x < 256) := by
  obtain ⟨hm, rfl⟩ := h
  obtain ⟨_, _, _, _, a5⟩ := mayN_iff.1 hm
  unfold Ent.form bytesForm at hb
  refine ⟨fun x hx => hb x (by simp [hx]), fun x hx => ?_⟩
  rcases a5 with ⟨a, _⟩ | ⟨_, a⟩
  · exact hb x (by simp [a, hx])
  · rw [List.eq_nil_of_length_eq_zero a] at hx; cases hx
/-- What both readers give: an entry and the error's number. -/
def Gets (b : List Nat) (e : Ent) (k : Int) : Prop := (IsE b e ∧ k = 0) ∨ ((∀ e, ¬ IsE b e) ∧ e = ⟨[], 0, 0, []⟩ ∧ k = 4)
theorem Gets.same {b : List Nat} {e e' : Ent} {k k' : Int} (h : Gets b e k) (h' : Gets b e' k') : e' = e ∧ k' = k := by
  rcases h with ⟨h1, rfl⟩ | ⟨h1, rfl, rfl⟩
  · rcases h' with ⟨h2, rfl⟩ | ⟨h2, _, _⟩
    · exact ⟨h2.unique h1, rfl⟩
    · exact absurd h1 (h2 _)
  · rcases h' with ⟨h2, _⟩ | ⟨h2, rfl, rfl⟩
    · exact absurd h2 (h1 _)
    · exact ⟨rfl, rfl⟩
theorem read_both {w : World} {b : List Nat} {x : Ending} {w' : World} (hb : ∀ x ∈ b, x < 256) (h : ReadAns w b x w') : Ext w w' ∧ ∃ (e : Ent) (g : Hd) (k : Int), Gets b e k ∧ x = .returned (.tuple #[e.at_ g, .int .i64 k]) ∧ Own w.heap.size e.key (.slice g.kA e.key.length g.kc) w' ∧ Own w.heap.size e.val (.slice g.vA e.val.length g.vc) w' ∧ Em w' 0 w'.heap.size e g := by
  obtain ⟨hx, (⟨e, g, hi, rfl, h1, h2⟩ | ⟨hn, rfl⟩)⟩ := h
  · obtain ⟨a1, a2⟩ := is_bytes hi hb
    obtain ⟨_, _, b1, b2, b3⟩ := mayN_iff.1 hi.1
    exact ⟨hx, e, g, 0, .inl ⟨hi, rfl⟩, rfl, h1, h2, h1.bs, h2.bs, a1, a2, by omega, by omega, by omega, by omega⟩
  · exact ⟨hx, ⟨[], 0, 0, []⟩, ⟨none, 0, none, 0⟩, 4, .inr ⟨hn, rfl, rfl⟩, rfl, Own.nil _ _, Own.nil _ _, Bs.nil _ _ _, Bs.nil _ _ _, by simp, by simp, by decide, by decide, by decide, by decide⟩
theorem rread_both {w : World} {b : List Nat} {x : Ending} {w' : World} (h : RReadAns w b x w') : Ext w w' ∧ ∃ (e : Ent) (g : Hd) (k : Int), Gets b e k ∧ x = .returned (.tuple #[e.at_ g, .int .i64 k]) ∧ Em w' 0 w'.heap.size e g := by
  obtain ⟨hx, (⟨e, g, hi, rfl, h1⟩ | ⟨hn, rfl⟩)⟩ := h
  · exact ⟨hx, e, g, 0, .inl ⟨hi, rfl⟩, rfl, h1⟩
  · exact ⟨hx, ⟨[], 0, 0, []⟩, ⟨none, 0, none, 0⟩, 4, .inr ⟨hn, rfl, rfl⟩, rfl, Bs.nil _ _ _, Bs.nil _ _ _, by simp, by simp, by decide, by decide, by decide, by decide⟩

set_option maxRecDepth 100000 in
set_option maxHeartbeats 8000000 in
theorem walk (W : World) (v : Value) (l : List Nat) (hv : Bs W 0 W.heap.size v l) (hl : ∀ b ∈ l, b < 256) :
    Calls Try.prog 7 #[v] W fun e w' => e = .returned (.bool true) ∧ Below W.heap.size W w' := by
  have HV := Lib.hid hv
  have HL := Lib.hid hl
  obtain ⟨A, c, rfl, q1, q2, q3, _⟩ := hv
  by_cases hbig : 100000 < l.length
  · have hd : decide ((100000 : Int) < (l.length : Int)) = true := decide_eq_true (by omega)
    have hd2 : decide (100000 < l.length) = true := decide_eq_true hbig
    clear hbig q1 q2 q3 hl
    go_enter Try.func7, Try.ntmps7
    go_wp2_with fail
    refine (known_any W).mono ?_
    rintro e w3 ⟨rfl, hb⟩
    go_wp2_with fail
    go_ret
    exact ⟨rfl, hb⟩
  · have hd : decide ((100000 : Int) < (l.length : Int)) = false := decide_eq_false (by omega)
    have hd2 : decide (100000 < l.length) = false := decide_eq_false hbig
    have HLEN := Lib.hid (show l.length ≤ 100000 by omega)
    obtain ⟨L, hL⟩ : ∃ L, L = l ++ [119] := ⟨_, rfl⟩
    have HLL : Hid (L.length = l.length + 1) := by rw [hL]; simp [Hid]
    have HLT : Hid (L.take l.length = l) := by rw [hL]; unfold Hid; rw [List.take_left]
    have HE := Lib.hid hL
    clear hbig q1 q2 q3 hl hL
    go_enter Try.func7, Try.ntmps7
    go_wp2_with (at_builtin; refine wpList_addbytes rfl (.const (.slice none 0 0)) (.tmp 14) rfl W.heap.size _ [] rfl (Own.nil _ W) _ _ _ l rfl HV.out ?l1 (Nat.le_refl _) ?_)
    case l1 => have := HLEN.out; simp; omega
    intro A1 c1 w1 ho hb
    have HX1 : Hid (Ext W w1) := hb W (Below.refl _ _)
    have HO1 := Lib.hid ho
    have HLIT : Hid (Bs (w1.alloc (.cells #[.int .u8 119] 5)) 0 (w1.alloc (.cells #[.int .u8 119] 5)).heap.size (.slice (some ⟨w1.heap.size, 0, none⟩) 1 1) [119]) := (show Own w1.heap.size [119] _ _ from own_lit w1 119).bs
    clear ho hb
    go_wp2_with (at_builtin; refine wpList_addbytes rfl (.tmp 15) (.tmp 16) rfl W.heap.size _ l rfl (HO1.out.below (ext_alloc _ _)) _ _ _ [119] rfl HLIT.out ?l2 (Nat.le_trans HX1.out.size (by simp)) ?_)
    case l2 => have := HLEN.out; simp; omega
    intro A2 c2 w2 ho hb
    rw [← HE.out] at ho
    have HX2 : Hid (Ext W w2) := hb W (Below.alloc HX1.out HX1.out.size _)
    have HO2 := Lib.hid ho
    have hc2 : l.length + 1 ≤ c2 := by have := HO2.out.bs; obtain ⟨_, _, he, h1, _⟩ := this; injection he with _ x y; have := HLL.out; omega
    have HB2 : Hid (Bs w2 W.heap.size w2.heap.size (.slice A2 (l.length + 1) c2) L) := Bs.of_own ho
    have HPB : Hid (Bs w2 W.heap.size w2.heap.size (.slice A2 l.length c2) l) := by
      have h := HB2.out.head (k := l.length) (by omega)
      rwa [HLT.out] at h
    clear ho hb HO2
    go_wp2_with fail
    refine (read_any HPB.out (Nat.le_refl _) HL.out (by have := HLEN.out; omega)).mono ?_
    intro x w3 hans
    obtain ⟨hx3, e, g, k, hgets, rfl, hok, hov, hem⟩ := read_both HL.out hans
    have HX3 : Hid (Ext w2 w3) := hx3
    have HG1 := Lib.hid hgets
    have HOK := Lib.hid hok
    have HOV := Lib.hid hov
    have HEM := Lib.hid hem
    clear hans hx3 hgets hok hov hem
    unfold Ent.at_
    go_upto_region 5 with (fail)
    obtain ⟨w4, hw4⟩ : ∃ w4, w4 = w3.alloc (.cells #[.slice g.kA e.key.length g.kc, .int .i64 e.seq, .int .i64 e.kind, .slice g.vA e.val.length g.vc] 25) := ⟨_, rfl⟩
    rw [← hw4]
    have HX4 : Hid (Ext w3 w4) := by rw [hw4]; exact ext_alloc _ _
    have HBX : Hid (w4.heap[w3.heap.size]? = some (.cells #[.slice g.kA e.key.length g.kc, .int .i64 e.seq, .int .i64 e.kind, .slice g.vA e.val.length g.vc] 25 (0, 0))) := by rw [hw4]; exact heap_at _ _ rfl
    clear hw4
    go_wp2_with fail
    refine (rread_any (HV.out.below (Ext.trans HX2.out (Ext.trans HX3.out HX4.out)) (Nat.le_refl _)) (Ext.trans HX2.out (Ext.trans HX3.out HX4.out)).size HL.out (by have := HLEN.out; omega)).mono ?_
    intro x w5 hans
    obtain ⟨hx5, e', h, k', hgets, rfl, hem⟩ := rread_both hans
    obtain ⟨rfl, rfl⟩ := HG1.out.same hgets
    have HX5 : Hid (Ext w3 w5) := Ext.trans HX4.out hx5
    have HBX5 := Lib.hid (ext_heap hx5 HBX.out)
    have HEY := Lib.hid hem
    clear hans hx5 hgets hem
    unfold Ent.at_
    go_upto_region 6 with (fail)
    obtain ⟨w6, hw6⟩ : ∃ w6, w6 = w5.alloc (.cells #[.slice h.kA e'.key.length h.kc, .int .i64 e'.seq, .int .i64 e'.kind, .slice h.vA e'.val.length h.vc] 25) := ⟨_, rfl⟩
    rw [← hw6]
    have HX6 : Hid (Ext w5 w6) := by rw [hw6]; exact ext_alloc _ _
    have HBY : Hid (w6.heap[w5.heap.size]? = some (.cells #[.slice h.kA e'.key.length h.kc, .int .i64 e'.seq, .int .i64 e'.kind, .slice h.vA e'.val.length h.vc] 25 (0, 0))) := by rw [hw6]; exact heap_at _ _ rfl
    have HBX6 := Lib.hid (ext_heap HX6.out HBX5.out)
    have HEE : Hid (∀ u, Ext w6 u → Em u 0 w3.heap.size e' g ∧ Em u 0 w5.heap.size e' h ∧ w3.heap.size ≤ u.heap.size ∧ w5.heap.size ≤ u.heap.size) := fun u hu => by
      have h5 := Ext.trans HX6.out hu
      have h3 := Ext.trans HX5.out h5
      exact ⟨HEM.out.below h3 (Nat.le_refl _), HEY.out.below h5 (Nat.le_refl _), h3.size, h5.size⟩
    have a0 := cell_of HBX6.out (k := 0) rfl
    have a1 := cell_of HBX6.out (k := 1) rfl
    have a2 := cell_of HBX6.out (k := 2) rfl
    have a3 := cell_of HBX6.out (k := 3) rfl
    have b0 := cell_of HBY.out (k := 0) rfl
    have b1 := cell_of HBY.out (k := 1) rfl
    have b2 := cell_of HBY.out (k := 2) rfl
    have b3 := cell_of HBY.out (k := 3) rfl
    have kk : (k' != k') = false := by simp
    clear hw6 HG1
    obtain ⟨m1, m2, m3, m4⟩ := HEE.out w6 (Ext.refl _)
    have HSA := Lib.hid (rsame_any m1 m2 m3 m4)
    unfold Ent.at_ at HSA
    clear m1 m2 m3 m4
    go_wp2_with fail
    refine HSA.out.mono ?_
    rintro x u ⟨z, hz, rfl, hx9⟩
    have hz1 : z = true := hz.2 (by trivial)
    subst hz1
    have HX7 : Hid (Ext w6 u) := hx9
    clear hz hx9 a0 a1 a2 a3 b0 b1 b2 b3
    go_wp2_with fail
    refine (errnum k' _).mono ?_
    rintro x _ ⟨rfl, rfl⟩
    have HU := Lib.hid (Ext.trans HX6.out HX7.out)
    have HBU := Lib.hid (ext_heap HX7.out HBX6.out)
    have HU3 : Hid (Ext w3 u) := Ext.trans HX5.out HU.out
    have HXU : Hid (Ext W u) := Ext.trans HX2.out (Ext.trans HX3.out HU3.out)
    have HBO : Hid (Bs u W.heap.size w2.heap.size (.slice A2 (l.length + 1) c2) L) := HB2.out.below (Ext.trans HX3.out HU3.out) (Nat.le_refl _)
    have HBV : Hid (Bs u 0 W.heap.size (.slice A l.length c) l) := HV.out.below HXU.out (Nat.le_refl _)
    have HRK : Hid (Row u (Value.slice g.kA e'.key.length g.kc).ownBlock g.kA e'.key.length) := (Row.of_own (HOK.out.below HU3.out) HEM.out.bk).2
    have HRV : Hid (Row u (Value.slice g.vA e'.val.length g.vc).ownBlock g.vA e'.val.length) := (Row.of_own (HOV.out.below HU3.out) HEM.out.bv).2
    have HLK := Lib.hid (row_lt HOK.out)
    have HLV := Lib.hid (row_lt HOV.out)
    have HS : Hid (W.heap.size ≤ w2.heap.size ∧ w2.heap.size ≤ w3.heap.size ∧ w3.heap.size < u.heap.size) := by
      have x1 := HX2.out.size; have x2 := HX3.out.size; have x3 := (Array.getElem?_eq_some_iff.1 HBU.out).1; exact Lib.hid ⟨x1, x2, x3⟩
    obtain ⟨ro, hro⟩ : ∃ ro, ro = (Value.slice g.kA e'.key.length g.kc).ownBlock := ⟨_, rfl⟩
    obtain ⟨so, hso⟩ : ∃ so, so = (Value.slice g.vA e'.val.length g.vc).ownBlock := ⟨_, rfl⟩
    rw [← hro] at HRK HLK
    rw [← hso] at HRV HLV
    obtain ⟨N, hN⟩ : ∃ N, N = e'.key.length := ⟨_, rfl⟩
    obtain ⟨M, hM⟩ : ∃ M, M = e'.val.length := ⟨_, rfl⟩
    have hNM : N ≤ 9223372036854775807 ∧ M ≤ 9223372036854775807 := by
      have y1 := HEM.out.k.len; have y2 := HEM.out.v.len; unfold maxLen at y1 y2; omega
    rw [← hN] at HRK HBU
    rw [← hM] at HRV HBU
    have HP : Hid (∀ wr, Chg (fun i => w2.heap.size ≤ i ∧ i < w3.heap.size) u wr → wr.cell? ⟨w3.heap.size, 0, none⟩ = some (.slice g.kA N g.kc) ∧ wr.cell? ⟨w3.heap.size, 3, none⟩ = some (.slice g.vA M g.vc)) := fun wr hc => by
      have hh := (hc.block w3.heap.size HS.out.2.2 (by omega)).trans HBU.out
      exact ⟨cell_of hh (k := 0) rfl, cell_of hh (k := 3) rfl⟩
    clear hro hso hN hM HOK HOV HEM HEY HEE HBX HBX5 HBX6 HBY HBU HB2 HPB HO1 HLIT HX1 HX3 HX4 HX5 HX6 HX7 HSA HU HU3
    go_wp2_with fail
    go_loopw [8] (fun x wr => ∃ k : Nat, k ≤ N ∧ x = .int .i64 (k : Int) ∧ Hid (Row wr ro g.kA N) ∧ Hid (Row wr so g.vA M) ∧ Hid (Chg (fun i => w2.heap.size ≤ i ∧ i < w3.heap.size) u wr)) (fun x _ => N - (intOf x).toNat)
    case atStart => exact ⟨0, Nat.zero_le _, rfl, HRK, HRV, Lib.hid (Chg.refl _ _)⟩
    case round =>
      clear HRK HRV
      obtain ⟨k, hk, rfl, HRK, HRV, HC⟩ := hrel
      have qc := (HP.out _ HC.out).1
      by_cases hlt : k < N
      · obtain ⟨gg, hrog, hAg, ⟨x, hx, hcell⟩, hfz⟩ := HRK.out k hlt
        rw [hAg] at qc
        have e1 : decide ((k : Int) < (N : Int)) = true := decide_eq_true (by omega)
        have e1n : decide (k < N) = true := decide_eq_true hlt
        have HG := Lib.hid hrog
        clear hrog hx hAg
        go_wp2_with fail
        go_roundw
        case rel => exact ⟨k + 1, by omega, by go_num, Lib.hid (HRK.out.set (x := 102) (by omega)), Lib.hid (HRV.out.set (x := 102) (by omega)), Lib.hid (HC.out.trans (Chg.setCell _ _ _ (HLK.out gg HG.out)))⟩
        case measure => simp [intOf]; omega
      · have e1 : decide ((k : Int) < (N : Int)) = false := decide_eq_false (by omega)
        have e1n : decide (k < N) = false := decide_eq_false hlt
        clear hlt hk
        go_wp2_with fail
        go_loopw [9] (fun x wr => ∃ k : Nat, k ≤ M ∧ x = .int .i64 (k : Int) ∧ Hid (Row wr ro g.kA N) ∧ Hid (Row wr so g.vA M) ∧ Hid (Chg (fun i => w2.heap.size ≤ i ∧ i < w3.heap.size) u wr)) (fun x _ => M - (intOf x).toNat)
        case atStart => exact ⟨0, Nat.zero_le _, rfl, HRK, HRV, HC⟩
        case round =>
          clear HRK HRV HC
          obtain ⟨k, hk, rfl, HRK, HRV, HC⟩ := hrel
          have qc := (HP.out _ HC.out).2
          by_cases hlt : k < M
          · obtain ⟨gg, hrog, hAg, ⟨x, hx, hcell⟩, hfz⟩ := HRV.out k hlt
            rw [hAg] at qc
            have e1 : decide ((k : Int) < (M : Int)) = true := decide_eq_true (by omega)
            have e1n : decide (k < M) = true := decide_eq_true hlt
            have HG := Lib.hid hrog
            clear hrog hx hAg
            go_wp2_with fail
            go_roundw
            case rel => exact ⟨k + 1, by omega, by go_num, Lib.hid (HRK.out.set (x := 102) (by omega)), Lib.hid (HRV.out.set (x := 102) (by omega)), Lib.hid (HC.out.trans (Chg.setCell _ _ _ (HLV.out gg HG.out)))⟩
            case measure => simp [intOf]; omega
          · have e1 : decide ((k : Int) < (M : Int)) = false := decide_eq_false (by omega)
            have e1n : decide (k < M) = false := decide_eq_false hlt
            clear hlt hk
            have HBE := Lib.hid (HC.out.below (B := w2.heap.size) (fun i h => h.1) (by have := HS.out; omega))
            have cvo : (convert 22 9 (.slice A2 (l.length + 1) c2)).run Try.prog wr = .ok (.string (tx L)) wr := by
              have hb := HBO.out.below HBE.out (Nat.le_refl _)
              rw [← HLL.out] at hb ⊢
              exact cv_any hb
            have cvl : (convert 22 9 (.slice A l.length c)).run Try.prog wr = .ok (.string (tx l)) wr := cv_any (HBV.out.below HBE.out HS.out.1)
            have heq : ((tx L).toList == (tx l ++ ({ data := #[119] } : ByteArray)).toList) = true := by rw [HE.out]; exact tx_snoc l
            have hts2 : (tx l).size ≤ 100000 := by rw [tx_size]; exact HLEN.out
            have hts : ((tx l).size : Int) ≤ 100000 := by omega
            have HFIN : Hid (Ext W wr) := Below.trans HXU.out (HC.out.below (B := W.heap.size) (fun i h => by have := HS.out; omega) HXU.out.size)
            clear HP HRK HRV HC HBE HBO HBV HLK HLV
            go_wp2_with fail
            refine (known_any wr).mono ?_
            rintro x w9 ⟨rfl, hb⟩
            have HZ : Hid (Ext W w9) := Ext.trans HFIN.out hb
            clear hb
            go_wp2_with fail
            go_ret
            exact ⟨rfl, HZ.out⟩
end Go.Proofs.Ytfalpagimmaipaa.ikeyReads
