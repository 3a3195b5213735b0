/- The bytes of a list of entries: ikey's List, and the reference's. -/
import Derived.Test.YtfalpagimmaipaaIlists
import Derived.Test.YtfalpagimmaipaaIrefb
import Derived.Test.YtfalpagimmaipaaIbytes
namespace Go.Proofs.Ytfalpagimmaipaa
open Go.ChangeShapes Go.WideShapes Go.ChangeAt Go.RowKit

/-- The bytes of entries, one behind the other, each told how long. -/
def lf (es : List Ent) : List Nat := (es.map fun e => bytesForm e.form).flatten
/-- A list's bytes. -/
def lform (es : List Ent) : List Nat := form es.length ++ lf es
/-- What stands ahead of the k-th. -/
def lpre (es : List Ent) (k : Nat) : List Nat := form es.length ++ lf (es.take k)
theorem lpre_zero (es : List Ent) : lpre es 0 = form es.length := by simp [lpre, lf]
theorem lpre_all (es : List Ent) : lpre es es.length = lform es := by simp [lpre, lform]
theorem lpre_succ {es : List Ent} {k : Nat} {e : Ent} (h : es[k]? = some e) : lpre es (k + 1) = lpre es k ++ bytesForm e.form := by
  obtain ⟨hlt, rfl⟩ := List.getElem?_eq_some_iff.1 h
  unfold lpre lf
  rw [List.take_succ_eq_append_getElem hlt, List.map_append, List.flatten_append, List.append_assoc]
  simp
theorem bytesForm_le {l : List Nat} (h : l.length ≤ 65700) : (bytesForm l).length ≤ 65710 := by
  have := (bytesForm_len (l := l) ⟨by omega⟩).1; omega
theorem lpre_len {es : List Ent} (hm : ∀ e ∈ es, e.may = true) (hl : es.length ≤ 10000000) : ∀ k, k ≤ es.length → (lpre es k).length ≤ 10 + 65710 * k
  | 0, _ => by rw [lpre_zero]; have := form_len64 (n := es.length) ⟨by omega⟩; omega
  | k + 1, h => by
    have h1 := lpre_len hm hl k (by omega)
    have hk : es[k]? = some es[k] := List.getElem?_eq_getElem (by omega)
    have h2 := bytesForm_le (Ent.form_len (hm es[k] (List.getElem_mem (by omega))))
    rw [lpre_succ hk, List.length_append]; omega

set_option maxRecDepth 100000 in
set_option maxHeartbeats 2000000 in
/-- One of a list's. -/
theorem list1_any {w : World} {lo hi : Nat} {e : Ent} {g : Hd} (hm : Em w lo hi e g) (hhi : hi ≤ w.heap.size) (hmay : e.may = true) :
    Calls Try.prog 61 #[e.at_ g] w (NewBy w (bytesForm e.form)) := by
  obtain ⟨w1, hw1⟩ : ∃ w1, w1 = w.alloc (.cells #[.slice g.kA e.key.length g.kc, .int .i64 e.seq, .int .i64 e.kind, .slice g.vA e.val.length g.vc] 25) := ⟨_, rfl⟩
  have HX : Hid (Ext w w1) := by rw [hw1]; exact ext_alloc _ _
  have HBX : Hid (w1.heap[w.heap.size]? = some (.cells #[.slice g.kA e.key.length g.kc, .int .i64 e.seq, .int .i64 e.kind, .slice g.vA e.val.length g.vc] 25 (0, 0))) := by rw [hw1]; exact heap_at _ _ rfl
  have HBY := Lib.hid (ebytes_any (hm.below HX.out hhi) (Nat.le_trans hhi HX.out.size))
  have HMAY := Lib.hid hmay
  clear hm hhi hmay
  have c0 := cell_of HBX.out (k := 0) rfl
  have c1 := cell_of HBX.out (k := 1) rfl
  have c2 := cell_of HBX.out (k := 2) rfl
  have c3 := cell_of HBX.out (k := 3) rfl
  unfold Ent.at_ at HBY ⊢
  go_enter Try.func61, Try.ntmps61
  go_wp2_with fail
  rw [← hw1]
  clear hw1
  refine HBY.out.mono ?_
  rintro x w2 ⟨hx2, (⟨_, A, c, rfl, ho⟩ | ⟨hno, _⟩)⟩
  · have HX2 : Hid (Ext w w2) := Ext.trans HX.out hx2
    have HB := Lib.hid (bytes_any (.slice A e.form.length c) 0 w2.heap.size e.form w2 ho.bs (Nat.le_refl _) (by have := Ent.form_len HMAY.out; omega))
    clear hx2 ho c0 c1 c2 c3
    go_wp2_with fail
    refine HB.out.mono ?_
    rintro x w3 ⟨v, rfl, hown, hx3⟩
    have HX3 : Hid (Ext w w3) := Ext.trans HX2.out hx3
    have HO : Hid (Own w.heap.size (bytesForm e.form) v w3) := ownsRow_base hown HX2.out.size
    clear hx3 hown
    go_wp2_with fail
    go_ret
    exact ⟨_, rfl, HO.out, HX3.out⟩
  · rw [HMAY.out] at hno; cases hno

theorem put_nil (w : World) : (binOp .eql 29 (.func (.func 61) #[] #[]) .nilFunc).run Try.prog w = .ok (.bool false) w := by kernel_rfl
theorem enters_list1 : ∀ args w, (callFunc 61 args).run Try.prog w = .ok (.enter 61 args) w := enters_of Try.func61 (by kernel_rfl) rfl

set_option maxRecDepth 100000 in
set_option maxHeartbeats 4000000 in
theorem puts_any {w : World} {lo hi : Nat} {A : Option Addr} {c : Nat} {L : List (Ent × Hd)} (h : Es w lo hi A L) (hhi : hi ≤ w.heap.size) (hlen : L.length ≤ 10000000) (hmay : ∀ e ∈ L.map Prod.fst, e.may = true) :
    Calls Try.prog 60 #[.slice A L.length c, .func (.func 61) #[] #[]] w fun x w' => ∃ v, x = .returned (.tuple #[v, .int .i64 0]) ∧ Own w.heap.size (lform (L.map Prod.fst)) v w' ∧ Ext w w' := by
  have HE := Lib.hid h
  have HHI := Lib.hid hhi
  have HL := Lib.hid hlen
  have HM := Lib.hid hmay
  have h64 : U64 L.length := ⟨by omega⟩
  have hfn := put_nil
  have hw1 : IntKind.u64.wrap (L.length : Int) = (L.length : Int) := by rw [IntKind.wrap_u64]; omega
  obtain ⟨es, hes⟩ : ∃ es, es = L.map Prod.fst := ⟨_, rfl⟩
  have HES := Lib.hid hes
  have HLE : Hid (es.length = L.length) := by rw [hes]; simp [Hid]
  rw [← hes] at HM ⊢
  have HPL := Lib.hid (lpre_len HM.out (by rw [HLE.out]; exact hlen))
  clear h hhi hmay hes
  go_enter Try.func60, Try.ntmps60
  go_wp2_with fail
  refine (number_any _ h64 _).mono ?_
  rintro x w1 ⟨v1, rfl, hown1, hb1⟩
  have HO1 : Hid (Own w.heap.size (lpre es 0) v1 w1) := by rw [lpre_zero, HLE.out]; exact hown1
  have HX1 := Lib.hid hb1
  clear hown1 hb1
  go_wp2_with fail
  go_loopw [6, 8, 17] (fun v _ i wr => ∃ k : Nat, k ≤ L.length ∧ i = .int .i64 (k : Int) ∧ Hid (Own w.heap.size (lpre es k) v wr) ∧ Hid (Ext w wr)) (fun _ _ i _ => L.length - (intOf i).toNat)
  case atStart => exact ⟨0, Nat.zero_le _, rfl, HO1, HX1⟩
  case round =>
    obtain ⟨k, hk, rfl, HO, HX⟩ := hrel
    by_cases hlt : k < L.length
    · have d : decide ((k : Int) < (L.length : Int)) = true := decide_eq_true (by omega)
      have dn : decide (k < L.length) = true := decide_eq_true hlt
      obtain ⟨b, o, hA⟩ := HE.out.base (by omega)
      subst hA
      obtain ⟨p, hp⟩ : ∃ p, L[k]? = some p := ⟨_, List.getElem?_eq_getElem hlt⟩
      obtain ⟨c0, c1, c2, c3⟩ := (HE.out.below HX.out HHI.out).get hp
      have hpe : es[k]? = some p.1 := by rw [HES.out, List.getElem?_map, hp]; rfl
      have HPE := Lib.hid hpe
      have HPM : Hid (p.1.may = true) := HM.out _ (List.mem_of_getElem? hpe)
      have HEM : Hid (Em wr lo hi p.1 p.2) := (HE.out.below HX.out HHI.out).each p (List.mem_of_getElem? hp)
      have n1 : (0 : Int) ≤ (k : Int) := by omega
      have n2 : (k : Int) < (L.length : Int) := by omega
      have hw2 : wrap64 ((k : Int) + 1) = ((k + 1 : Nat) : Int) := by unfold wrap64; omega
      clear hp hpe
      go_upto_region 7 with (fail)
      obtain ⟨w4, hw4⟩ : ∃ w4, w4 = wr.alloc (.cells #[.slice p.2.kA p.1.key.length p.2.kc, .int .i64 p.1.seq, .int .i64 p.1.kind, .slice p.2.vA p.1.val.length p.2.vc] 25) := ⟨_, rfl⟩
      rw [← hw4]
      have HX4 : Hid (Ext wr w4) := by rw [hw4]; exact ext_alloc _ _
      have HB4 : Hid (w4.heap[wr.heap.size]? = some (.cells #[.slice p.2.kA p.1.key.length p.2.kc, .int .i64 p.1.seq, .int .i64 p.1.kind, .slice p.2.vA p.1.val.length p.2.vc] 25 (0, 0))) := by rw [hw4]; exact heap_at _ _ rfl
      have HL1 := Lib.hid (list1_any (HEM.out.below HX4.out (Nat.le_trans HHI.out HX.out.size)) (Nat.le_trans (Nat.le_trans HHI.out HX.out.size) HX4.out.size) HPM.out)
      unfold Ent.at_ at HL1
      have HO4 := Lib.hid (HO.out.below HX4.out)
      clear hw4 c0 c1 c2 c3
      have c0 := cell_of HB4.out (k := 0) rfl
      have c1 := cell_of HB4.out (k := 1) rfl
      have c2 := cell_of HB4.out (k := 2) rfl
      have c3 := cell_of HB4.out (k := 3) rfl
      have hen := enters_list1
      go_wp2_with fail
      refine HL1.out.mono ?_
      rintro x w5 ⟨v5, rfl, hown5, hx5⟩
      have HX5 : Hid (Ext w w5) := Ext.trans HX.out (Ext.trans HX4.out hx5)
      have HO5 := Lib.hid (HO4.out.below hx5)
      have HB5 : Hid (Bs w5 0 w5.heap.size v5 (bytesForm p.1.form)) := Own.bs (show Own w4.heap.size _ v5 w5 from hown5)
      have HLN : Hid ((lpre es k).length + (bytesForm p.1.form).length ≤ 1099511627776) := by
        have h1 := HPL.out k (by rw [HLE.out]; omega)
        have h2 := bytesForm_le (Ent.form_len HPM.out)
        unfold Hid; omega
      clear hown5 hx5 c0 c1 c2 c3 hen
      go_wp2_with (at_builtin; refine wpList_addbytes rfl (.tmp 21) (.tmp 24) rfl w.heap.size _ _ rfl HO5.out _ _ _ _ rfl HB5.out HLN.out HX5.out.size ?_)
      intro A6 c6 w6 ho6 hb6
      rw [← lpre_succ HPE.out] at ho6
      have HX6 : Hid (Ext w w6) := hb6 w HX5.out
      have HO6 := Lib.hid ho6
      clear ho6 hb6
      go_wp2_with fail
      go_roundw
      case rel => exact ⟨k + 1, by omega, by go_num, HO6, HX6⟩
      case measure => simp [intOf]; omega
    · have d : decide ((k : Int) < (L.length : Int)) = false := decide_eq_false (by omega)
      have dn : decide (k < L.length) = false := decide_eq_false hlt
      have HF : Hid (Own w.heap.size (lform es) u6 wr) := by
        have h := HO.out
        have hk2 : k = es.length := by rw [HLE.out]; omega
        rw [hk2, lpre_all] at h
        exact h
      clear hlt hk HO
      go_wp2_with fail
      go_ret2
      exact ⟨u6, rfl, HF.out, HX.out⟩

/-- What List answers. -/
def ListAns (w : World) (es : List Ent) (x : Ending) (w' : World) : Prop :=
  Ext w w' ∧ ((es.length ≤ 65536 ∧ (∀ e ∈ es, e.may = true) ∧ ∃ v, x = .returned (.tuple #[v, .int .i64 0]) ∧ Own w.heap.size (lform es) v w') ∨ (¬ (es.length ≤ 65536 ∧ ∀ e ∈ es, e.may = true) ∧ x = .returned (.tuple #[.slice none 0 0, .int .i64 2])))

set_option maxRecDepth 100000 in
set_option maxHeartbeats 4000000 in
theorem elist_any {w : World} {lo hi : Nat} {A : Option Addr} {c : Nat} {L : List (Ent × Hd)} (h : Es w lo hi A L) (hhi : hi ≤ w.heap.size) (hlen : L.length ≤ 1000000000000) :
    Calls Try.prog 30 #[.slice A L.length c] w (ListAns w (L.map Prod.fst)) := by
  have HA := Lib.hid (allmay_any (c := c) h hhi hlen)
  have HE := Lib.hid h
  have HHI := Lib.hid hhi
  have hall : (L.all fun p => p.1.may) = true ↔ ∀ e ∈ L.map Prod.fst, e.may = true := by
    rw [List.all_eq_true]
    exact ⟨fun h e he => by obtain ⟨p, hp, rfl⟩ := List.mem_map.1 he; exact h p hp, fun h p hp => h _ (List.mem_map_of_mem hp)⟩
  obtain ⟨m, hm⟩ : ∃ m, m = L.all fun p => p.1.may := ⟨_, rfl⟩
  rw [← hm] at HA hall
  have HALL := Lib.hid hall
  clear h hhi hm hall
  by_cases hl : 65536 < L.length
  · have d : decide ((65536 : Int) < (L.length : Int)) = true := decide_eq_true (by omega)
    have dn : decide (65536 < L.length) = true := decide_eq_true hl
    have HN := Lib.hid hl
    clear hl hlen
    go_enter Try.func30, Try.ntmps30
    go_wp2_with fail
    go_ret2
    exact ⟨Ext.refl _, .inr ⟨fun h => (by have h1 := h.1; have h2 := HN.out; rw [List.length_map] at h1; omega), rfl⟩⟩
  · have d : decide ((65536 : Int) < (L.length : Int)) = false := decide_eq_false (by omega)
    have dn : decide (65536 < L.length) = false := decide_eq_false hl
    have HN : Hid (L.length ≤ 65536) := by unfold Hid; omega
    clear hl hlen
    go_enter Try.func30, Try.ntmps30
    go_wp2_with fail
    refine HA.out.mono ?_
    rintro x w2 ⟨rfl, hx2⟩
    have HX2 := Lib.hid hx2
    clear hx2
    cases m with
    | false =>
      go_wp2_with fail
      go_ret2
      exact ⟨HX2.out, .inr ⟨fun h => (by have := HALL.out.2 h.2; cases this), rfl⟩⟩
    | true =>
      have HP := Lib.hid (puts_any (c := c) (HE.out.below HX2.out HHI.out) (Nat.le_trans HHI.out HX2.out.size) (by have := HN.out; omega) (HALL.out.1 (by trivial)))
      go_wp2_with fail
      refine HP.out.mono ?_
      rintro x w3 ⟨v, rfl, hown, hx3⟩
      have HX3 : Hid (Ext w w3) := Ext.trans HX2.out hx3
      have HO : Hid (Own w.heap.size (lform (L.map Prod.fst)) v w3) := hown.base HX2.out.size
      clear hx3 hown
      go_wp2_with fail
      go_ret2
      exact ⟨HX3.out, .inl ⟨by rw [List.length_map]; exact HN.out, HALL.out.1 (by trivial), v, rfl, HO.out⟩⟩

set_option maxRecDepth 100000 in
set_option maxHeartbeats 4000000 in
theorem rlist_any {w : World} {lo hi : Nat} {A : Option Addr} {c : Nat} {L : List (Ent × Hd)} (h : Es w lo hi A L) (hhi : hi ≤ w.heap.size) (hlen : L.length ≤ 10000000) (hmay : ∀ e ∈ L.map Prod.fst, e.may = true) :
    Calls Try.prog 34 #[.slice A L.length c] w fun x w' => ∃ v, x = .returned v ∧ Own w.heap.size (lform (L.map Prod.fst)) v w' ∧ Ext w w' := by
  have HE := Lib.hid h
  have HHI := Lib.hid hhi
  have HL := Lib.hid hlen
  have HM := Lib.hid hmay
  have h64 : U64 L.length := ⟨by omega⟩
  have hw1 : IntKind.u64.wrap (L.length : Int) = (L.length : Int) := by rw [IntKind.wrap_u64]; omega
  obtain ⟨es, hes⟩ : ∃ es, es = L.map Prod.fst := ⟨_, rfl⟩
  have HES := Lib.hid hes
  have HLE : Hid (es.length = L.length) := by rw [hes]; simp [Hid]
  rw [← hes] at HM ⊢
  have HPL := Lib.hid (lpre_len HM.out (by rw [HLE.out]; exact hlen))
  clear h hhi hmay hes
  go_enter Try.func34, Try.ntmps34
  go_wp2_with fail
  refine (rnumber_any _ h64 _).mono ?_
  rintro x w1 ⟨v1, rfl, hown1, hb1⟩
  have HO1 : Hid (Own w.heap.size (lpre es 0) v1 w1) := by rw [lpre_zero, HLE.out]; exact hown1
  have HX1 := Lib.hid hb1
  clear hown1 hb1
  go_wp2_with fail
  go_loopw [3, 4] (fun v i wr => ∃ k : Nat, k ≤ L.length ∧ i = .int .i64 (k : Int) ∧ Hid (Own w.heap.size (lpre es k) v wr) ∧ Hid (Ext w wr)) (fun _ i _ => L.length - (intOf i).toNat)
  case atStart => exact ⟨0, Nat.zero_le _, rfl, HO1, HX1⟩
  case round =>
    obtain ⟨k, hk, rfl, HO, HX⟩ := hrel
    by_cases hlt : k < L.length
    · have d : decide ((k : Int) < (L.length : Int)) = true := decide_eq_true (by omega)
      have dn : decide (k < L.length) = true := decide_eq_true hlt
      obtain ⟨b, o, hA⟩ := HE.out.base (by omega)
      subst hA
      obtain ⟨p, hp⟩ : ∃ p, L[k]? = some p := ⟨_, List.getElem?_eq_getElem hlt⟩
      obtain ⟨c0, c1, c2, c3⟩ := (HE.out.below HX.out HHI.out).get hp
      have hpe : es[k]? = some p.1 := by rw [HES.out, List.getElem?_map, hp]; rfl
      have HPE := Lib.hid hpe
      have HPM : Hid (p.1.may = true) := HM.out _ (List.mem_of_getElem? hpe)
      have HRF := Lib.hid (rform_any ((HE.out.below HX.out HHI.out).each p (List.mem_of_getElem? hp)) (Nat.le_trans HHI.out HX.out.size) HPM.out)
      unfold Ent.at_ at HRF
      have n1 : (0 : Int) ≤ (k : Int) := by omega
      have n2 : (k : Int) < (L.length : Int) := by omega
      clear hp hpe
      go_wp2_with fail
      refine HRF.out.mono ?_
      rintro x w4 ⟨A4, c4, rfl, ho4, hx4⟩
      have HX4 : Hid (Ext w w4) := Ext.trans HX.out hx4
      have HO4 := Lib.hid (HO.out.below hx4)
      have HRB := Lib.hid (rbytes_any (.slice A4 p.1.form.length c4) 0 w4.heap.size p.1.form w4 ho4.bs (Nat.le_refl _) (by have := Ent.form_len HPM.out; omega))
      clear ho4 hx4 c0 c1 c2 c3
      go_wp2_with fail
      refine HRB.out.mono ?_
      rintro x w5 ⟨v5, rfl, hown5, hx5⟩
      have HX5 : Hid (Ext w w5) := Ext.trans HX4.out hx5
      have HO5 := Lib.hid (HO4.out.below hx5)
      have HB5 : Hid (Bs w5 0 w5.heap.size v5 (bytesForm p.1.form)) := Own.bs (show Own w4.heap.size _ v5 w5 from hown5)
      have HLN : Hid ((lpre es k).length + (bytesForm p.1.form).length ≤ 1099511627776) := by
        have h1 := HPL.out k (by rw [HLE.out]; omega)
        have h2 := bytesForm_le (Ent.form_len HPM.out)
        unfold Hid; omega
      clear hown5 hx5
      go_wp2_with (at_builtin; refine wpList_addbytes rfl (.tmp 15) (.tmp 21) rfl w.heap.size _ _ rfl HO5.out _ _ _ _ rfl HB5.out HLN.out HX5.out.size ?_)
      intro A6 c6 w6 ho6 hb6
      have HX6 : Hid (Ext w w6) := hb6 w HX5.out
      have HO6 := Lib.hid ho6
      clear ho6 hb6
      go_wp2_with fail
      go_roundw
      case rel => exact ⟨k + 1, by omega, by go_num, Lib.hid (by have h := HO6.out; rw [lpre_succ HPE.out]; exact h), HX6⟩
      case measure => simp [intOf]; omega
    · have d : decide ((k : Int) < (L.length : Int)) = false := decide_eq_false (by omega)
      have dn : decide (k < L.length) = false := decide_eq_false hlt
      have HF : Hid (Own w.heap.size (lform es) u3 wr) := by
        have h := HO.out
        have hk2 : k = es.length := by rw [HLE.out]; omega
        rw [hk2, lpre_all] at h
        exact h
      clear hlt hk HO
      go_wp2_with fail
      go_ret
      exact ⟨u3, rfl, HF.out, HX.out⟩
end Go.Proofs.Ytfalpagimmaipaa
