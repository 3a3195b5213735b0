import Derived.Test.YtkdidghfcfcpfaaGreatMc13
import Derived.Test.YtkdidghfcfcpfaaGreatMc5
import Derived.Test.YtkdidghfcfcpfaaGreatMc12
import Derived.Test.YtkdidghfcfcpfaaGreatMc9
import Derived.Defers
import Derived.Recover
import Derived.Test.YtkdidghfcfcpfaaGreatMc11
import Derived.Laws.ResultCell
import Derived.BigQuiet
import Derived.Test.YtkdidghfcfcpfaaGreatMc7
import Derived.Test.YtkdidghfcfcpfaaGreatMc3
import Derived.Laws.AppendOwn
import Derived.Test.YtkdidghfcfcpfaaGreatMc0
namespace Go.Proofs.YtkdidghfcfcpfaaGreat
open Go.ChangeShapes Go.WideShapes Go.ChangeAt Go.RowKit
structure PGot (B : Nat) (v : Value) (R : List (Pl × PHd)) (w : World) : Prop where
 row : w.ownsRow B 90 6 v R.length (prow R)
 each : ∀ p ∈ R, Own B p.1.key (.slice p.2.1 p.1.key.length p.2.2) w ∧ p.1.small
theorem PGot.nil (B : Nat) (w : World) : PGot B (.slice none 0 0) [] w := ⟨World.ownsRow_nil _ _ _ _, fun p hp => by cases hp⟩
theorem PGot.base {B B' : Nat} {v : Value} {R : List (Pl × PHd)} {w : World} (h : PGot B v R w) (hB : B' ≤ B) : PGot B' v R w := ⟨rowN_base h.row hB, fun p hp => ⟨(h.each p hp).1.base hB, (h.each p hp).2⟩⟩
theorem PGot.kept {B : Nat} {v : Value} {R : List (Pl × PHd)} {w w' : World} (h : PGot B v R w) (hk : ∀ g, B ≤ g → g < w.heap.size → w'.heap[g]? = w.heap[g]?) : PGot B v R w' :=
 ⟨rowN_kept h.row fun g hg => hk g (rowN_lt h.row g hg).1 (rowN_lt h.row g hg).2.1, fun p hp => ⟨(h.each p hp).1.wall fun g hg => hk g (row_lt (h.each p hp).1 g hg).1 (row_lt (h.each p hp).1 g hg).2, (h.each p hp).2⟩⟩
theorem PGot.below {B : Nat} {v : Value} {R : List (Pl × PHd)} {w w' : World} (h : PGot B v R w) (hx : Ext w w') : PGot B v R w' := h.kept fun g _ hg => hx.block g hg
theorem PGot.grown {B q : Nat} {v : Value} {R : List (Pl × PHd)} {w w' : World} (h : PGot B v R w) (hg : w.grownBy w' (some q)) (hq : q < B) : PGot B v R w' := h.kept fun g h1 h2 => hg.block g h2 (fun e => by injection e with e; omega)
def PlsAt (l : List Nat) (ps : List Pl) (rest : List Nat) : Prop := ps.length ≤ 4096 ∧ (∀ p ∈ ps, p.small) ∧ l = pform ps ++ rest
theorem PlsAt.begins {l : List Nat} {ps : List Pl} {rest : List Nat} (h : PlsAt l ps rest) : Begins l ps.length (pf ps ++ rest) := ⟨⟨by have := h.1; omega⟩, by rw [h.2.2]; unfold pform; rw [List.append_assoc]⟩
def PlRest (mid : List Nat) (n : Nat) (R : List Pl) (l : List Nat) : Prop := ∀ ps rest, (∀ p ∈ ps, p.small) → ps.length = n → mid = pf ps ++ rest → R = ps.take R.length ∧ l = pf (ps.drop R.length) ++ rest
theorem pf_cons (p : Pl) (ps : List Pl) : pf (p :: ps) = p.form ++ pf ps := by simp [pf]
theorem pl_form_cut {p q : Pl} {r r' : List Nat} (hp : p.small) (hq : q.small) (h : p.form ++ r = q.form ++ r') : p = q ∧ r = r' := by
 obtain ⟨u1, u2, u3, u4⟩ := Pl.small_u64 hp
 obtain ⟨v1, v2, v3, v4⟩ := Pl.small_u64 hq
 unfold Pl.form plf at h
 simp only [List.append_assoc] at h
 obtain ⟨e1, h⟩ := bytesForm_cut u1 v1 h
 obtain ⟨e2, h⟩ := form_cut u2 v2 h
 obtain ⟨e3, h⟩ := form_cut u3 v3 h
 obtain ⟨e4, h⟩ := form_cut u4 v4 h
 refine ⟨?_, h⟩
 cases p; cases q
 simp_all
theorem PlRest.start (mid : List Nat) (n : Nat) : PlRest mid n [] mid := fun ps rest _ _ h => ⟨rfl, by simpa using h⟩
theorem PlRest.snoc {mid : List Nat} {n : Nat} {R : List Pl} {l rest' : List Nat} {p : Pl} (h : PlRest mid n R l) (hR : R.length < n) (hp : p.small) (hl : l = p.form ++ rest') : PlRest mid n (R ++ [p]) rest' := by
 intro ps rest hs hn hm
 obtain ⟨h1, h2⟩ := h ps rest hs hn hm
 have hk : R.length < ps.length := by omega
 rw [List.drop_eq_getElem_cons hk, pf_cons, List.append_assoc] at h2
 obtain ⟨e1, e2⟩ := pl_form_cut hp (hs _ (List.getElem_mem hk)) (hl.symm.trans h2)
 refine ⟨?_, ?_⟩
 · rw [List.length_append, List.length_singleton, List.take_succ_eq_append_getElem hk, ← h1, e1]
 · rw [List.length_append, List.length_singleton]; exact e2
theorem PlRest.no {mid : List Nat} {n : Nat} {R : List Pl} {l : List Nat} (h : PlRest mid n R l) (hR : R.length < n) (hno : ∀ (p : Pl) rest, p.small → l ≠ p.form ++ rest) : ∀ ps rest, (∀ p ∈ ps, p.small) → ps.length = n → mid ≠ pf ps ++ rest := by
 intro ps rest hs hn hm
 obtain ⟨_, h2⟩ := h ps rest hs hn hm
 have hk : R.length < ps.length := by omega
 rw [List.drop_eq_getElem_cons hk, pf_cons, List.append_assoc] at h2
 exact hno _ _ (hs _ (List.getElem_mem hk)) h2
def PlsAns (B : Nat) (l : List Nat) (x : Ending) (w' : World) : Prop :=
 (∃ (v : Value) (R : List (Pl × PHd)), x = .returned (.tuple #[v, .int .i64 0]) ∧ PGot B v R w' ∧ R.length ≤ 4096 ∧ ∀ ps rest, PlsAt l ps rest → R.map Prod.fst = ps) ∨
 (∃ n : Int, n ≠ 0 ∧ x = .returned (.tuple #[.slice none 0 0, .int .i64 n]) ∧ ∀ ps rest, ¬ PlsAt l ps rest) ∨ (x = .panicked tgaveUp ∧ ∀ ps rest, ¬ PlsAt l ps rest)
theorem enters_tplace : ∀ args w, (callFunc 132 args).run Tryz.prog w = .ok (.enter 132 args) w := enters_of Tryz.func132 (by kernel_rfl) rfl
theorem count_no {l : List Nat} {n : Int} (h : ErrCount 4096 l n) : ∀ ps rest, ¬ PlsAt l ps rest := by
 intro ps rest hp
 have hb := hp.begins
 rcases h with ⟨_, h⟩ | ⟨_, _, h⟩ | ⟨_, _, m, rest', hb', hm⟩
 · omega
 · exact h _ _ hb
 · have := (hb.unique hb').1; have := hp.1; omega
theorem wpList_pushpl {ops : Array Oper} {rest : List Oper} {o : Oper} {a : Act} {Q : Exit → Act → World → Prop} {u : World} (hgd : o.guard = none) (s x : Operand)
    (ho : o.op = .call { callee := .builtin .append, args := #[s, x], argTypes := #[83, 83] }) (B : Nat) (v : Value) (R : List (Pl × PHd)) (hs : a.eval s = v) (hgot : PGot B v R u)
    (p : Pl × PHd) (gb : Nat) (hx : a.eval x = .slice (some ⟨gb, 0, none⟩) 1 1) (hblk : u.heap[gb]? = some (.cells (pcells p).toArray 90 (0, 0))) (hp : Own B p.1.key (.slice p.2.1 p.1.key.length p.2.2) u ∧ p.1.small) (hlen : R.length ≤ 1000000000) (hB : B ≤ u.heap.size)
    (h : ∀ A' c' w', PGot B (.slice A' (R.length + 1) c') (R ++ [p]) w' → (∀ w0, Below B w0 u → Below B w0 w') → wpList Tryz.prog ops Q rest (a.put o.dst (.slice A' (R.length + 1) c')) w') :
    wpList Tryz.prog ops Q (o :: rest) a u := by
 obtain ⟨i0, hi0', ix0, ix1, ix2⟩ := info_parts pinfo
 refine wpList_append_own _ hgd s x 83 ho B 90 i0 _ 6 80 Tryz.underlying83 hi0' ix0 ix1 ix2 rfl (by decide) v R.length (prow R) hs hgot.row ⟨gb, 0, none⟩ 1 1 (pcells p) hx rfl (fun j q hj => ?n1) (fun q hq => ?n2) ?n3 ?n4 hB (fun v' w5 ho hgr _ => ?rest)
 case n1 => rw [addr_add, Nat.zero_add]; exact cell_of hblk (by simpa using hj)
 case n2 => exact prow_one [p] q (by simpa [prow] using hq)
 case n3 => unfold maxLen; omega
 case n4 => omega
 case rest =>
  have hlt := rowN_lt hgot.row
  have ho' : w5.ownsRow B 90 6 v' (R.length + 1) (prow (R ++ [p])) := by rw [prow_append]; simpa [prow] using ho
  have hsl : ∃ A' c', v' = .slice A' (R.length + 1) c' := by
   rcases ho'.2 with ⟨e, h0⟩ | ⟨g, cap, cur, e, _⟩
   · omega
   · exact ⟨_, _, e⟩
  obtain ⟨A', c', rfl⟩ := hsl
  have hke : ∀ q : Pl × PHd, Own B q.1.key (.slice q.2.1 q.1.key.length q.2.2) u → Own B q.1.key (.slice q.2.1 q.1.key.length q.2.2) w5 := fun q hq => hq.wall fun g hg => hgr.block g (row_lt hq g hg).2 (fun e => rows_apart hq hgot.row (by decide) hg e.symm)
  refine h A' c' w5 ⟨by rw [List.length_append, List.length_singleton]; exact ho', fun q hq => ?_⟩ (fun w0 hb => hb.grown hgr hB fun k hk => (hlt k hk).1)
  rcases List.mem_append.1 hq with hq | hq
  · exact ⟨hke q (hgot.each q hq).1, (hgot.each q hq).2⟩
  · rw [List.mem_singleton] at hq; subst hq; exact ⟨hke q hp.1, hp.2⟩
set_option maxRecDepth 100000 in
set_option maxHeartbeats 4000000 in
theorem pthings_any (r lo hi : Nat) (l : List Nat) (w : World) (h : Rd w r lo hi l) (hl : l.length ≤ 1000000000) :
    Calls Tryz.prog 150 #[.pointer (some ⟨r, 0, none⟩), .int .i64 4096, .func (.func 132) #[] #[]] w fun x w' => w.grownBy w' (some r) ∧ PlsAns w.heap.size l x w' ∧ (∀ v, x = .returned (.tuple #[v, .int .i64 0]) → ∃ rest, Rd w' r lo hi rest) := by
 have HC := zHd (count_loose 4096 (by decide) (by decide) r lo hi l w h)
 have HL := zHd hl
 have HR0 := zHd h
 clear h hl
 go_enter Tryz.func150, Tryz.ntmps150
 go_wp2_with fail
 refine Calls.mono HC.out ?_
 rintro e w1 (⟨v, mid, ⟨n, hb, hle, rfl⟩, rfl, hr, hg⟩ | ⟨v, n, hn, hn0, rfl, hg⟩)
 rotate_left
 · have hn0' : (n != 0) = true := by simpa using hn0
   have HF := zHd (And.intro hg (And.intro (count_no hn) hn0))
   clear hn hg hn0
   go_wp2_with fail
   go_ret2
   exact ⟨HF.out.1, .inr (.inl ⟨n, HF.out.2.2, rfl, HF.out.2.1⟩), fun v e => by injection e with e; injection e with e; simp at e; exact absurd e.2 HF.out.2.2⟩
 have hlr : mid.length ≤ l.length := by have := congrArg List.length hb.eq; simp at this; omega
 have HB := zHd hb
 have HLE : Hid (n ≤ 4096) := by unfold Hid; omega
 have HML := zHd hlr
 have HR1 := zHd hr
 have HG1 := zHd hg
 -- what the whole says of the rest
 have HAT : Hid (∀ ps rest, PlsAt l ps rest → (∀ p ∈ ps, p.small) ∧ ps.length = n ∧ mid = pf ps ++ rest) := fun ps rest hp => by
  obtain ⟨e1, e2⟩ := hp.begins.unique HB.out
  exact ⟨hp.2.1, e1, e2.symm⟩
 clear hb hle hlr hr hg
 go_wp2_with fail
 go_loopw [10, 11, 12, 23] (fun v _ _ i wr => ∃ (R : List (Pl × PHd)) (rest : List Nat), R.length ≤ n ∧ i = .int .u64 (R.length : Int) ∧ Hid (PlRest mid n (R.map Prod.fst) rest) ∧ Hid (rest.length ≤ mid.length) ∧ Hid (Rd wr r lo hi rest) ∧ Hid (PGot w.heap.size v R wr) ∧ Hid (w.grownBy wr (some r))) (fun _ _ _ i _ => n - (intOf i).toNat)
 case atStart => exact ⟨[], mid, Nat.zero_le _, rfl, PlRest.start _ _, zNr _, HR1.out, PGot.nil _ _, HG1.out⟩
 case round =>
  obtain ⟨R, rest, hk, rfl, HA, HRL, HRD, HO, HG⟩ := hrel
  by_cases hlt : R.length < n
  rotate_left
  · have hd : decide (R.length < n) = false := by simp; omega
    have hd2 : decide ((R.length : Int) < (n : Int)) = false := by simp; omega
    have hn : R.length = n := by omega
    have HN := zHd hn
    clear hn hlt hk
    go_wp2_with fail
    go_ret2
    refine ⟨HG.out, .inl ⟨_, R, rfl, HO.out, by rw [HN.out]; exact HLE.out, fun ps rest' hp => ?_⟩, fun _ _ => ⟨rest, HRD.out⟩⟩
    obtain ⟨h1, h2, h3⟩ := HAT.out ps rest' hp
    have h4 := (HA.out ps rest' h1 h2 h3).1
    rw [h4, List.length_map, HN.out, ← h2, List.take_length]
  have hd : decide (R.length < n) = true := by simp [hlt]
  have hd2 : decide ((R.length : Int) < (n : Int)) = true := by simp; omega
  have hI : (R.length : Int) + 1 ≤ 18446744073709551615 := by have := HLE.out; omega
  have hen := enters_tplace
  have HLTT := zHd hlt
  go_wp2_with fail
  refine (tplace_any HRD.out (by have := HRL.out; have := HML.out; have := HL.out; omega)).mono ?_
  rintro e w2 ⟨hg2, (⟨p, g, rest', rfl, hsm, heq, hown, hrd2⟩ | ⟨rfl, hno⟩)⟩
  rotate_left
  · refine ⟨rfl, grownBy_trans HG.out hg2, .inr (.inr ⟨rfl, fun ps rest' hp => ?_⟩), fun v e => by cases e⟩
    obtain ⟨h1, h2, h3⟩ := HAT.out ps rest' hp
    exact HA.out.no (by rw [List.length_map]; exact HLTT.out) (fun p r hs => hno p r hs) ps rest' h1 h2 h3
  have HRD2 := zHd hrd2
  have HG2 := zHd (grownBy_trans HG.out hg2)
  have HO2 := zHd (HO.out.grown hg2 HR0.out.lt)
  have HMI : Hid (Own w.heap.size p.key (.slice g.1 p.key.length g.2) w2 ∧ p.small) := ⟨hown.base HG.out.size, hsm⟩
  have HALL : Hid (PlRest mid n ((R ++ [(p, g)]).map Prod.fst) rest') := by rw [List.map_append]; exact HA.out.snoc (by rw [List.length_map]; exact HLTT.out) hsm heq
  have HRL2 : Hid (rest'.length ≤ mid.length) := by have h1 := congrArg List.length heq; rw [List.length_append] at h1; have := HRL.out; unfold Hid; omega
  clear hrd2 hg2 hown hsm heq hen
  unfold pcells
  go_upto_region 8 with (fail)
  obtain ⟨w4, hw4⟩ : ∃ w4, w4 = w2.alloc (.cells #[.slice g.1 p.key.length g.2, .int .i64 (p.n : Int), .int .i64 0, .slice none 0 0, .int .i64 (p.b : Int), .int .i64 (p.z : Int)] 90) := ⟨_, rfl⟩
  rw [← hw4]
  have HX4 : Hid (Ext w2 w4) := by rw [hw4]; exact ext_alloc _ _
  have HB4 : Hid (w4.heap[w2.heap.size]? = some (.cells #[.slice g.1 p.key.length g.2, .int .i64 (p.n : Int), .int .i64 0, .slice none 0 0, .int .i64 (p.b : Int), .int .i64 (p.z : Int)] 90 (0, 0))) := by rw [hw4]; exact heap_at _ _ rfl
  have c0 := cell_of HB4.out (k := 0) rfl
  have c1 := cell_of HB4.out (k := 1) rfl
  have c2 := cell_of HB4.out (k := 2) rfl
  have c3 := cell_of HB4.out (k := 3) rfl
  have c4 := cell_of HB4.out (k := 4) rfl
  have c5 := cell_of HB4.out (k := 5) rfl
  clear hw4
  go_wp2_with (at_builtin; refine wpList_pushpl rfl (.tmp 34) (.tmp 36) rfl w.heap.size _ R rfl ((HO2.out.below HX4.out).below (ext_alloc _ _)) (p, g) w4.heap.size rfl ?blk ⟨(HMI.out.1.below HX4.out).below (ext_alloc _ _), HMI.out.2⟩ ?len ?hB ?_)
  case blk => exact heap_at _ _ rfl
  case len => have := HLE.out; omega
  case hB => exact zNt (zNt HG2.out.size HX4.out.size) (ext_alloc _ _).size
  intro A3 c3' w3 hgot3 hb3
  have HBB : Hid (Below w.heap.size w2 w3) := hb3 _ (Below.alloc (HX4.out.mono HG2.out.size) (zNt HG2.out.size HX4.out.size) _)
  have HO4 := zHd hgot3
  clear hgot3 hb3 c0 c1 c2 c3 c4 c5
  go_wp2_with fail
  refine ⟨⟨R ++ [(p, g)], rest', by simp; have := HLTT.out; omega, by simp, HALL, HRL2, HRD2.out.below HBB.out HR0.out.top HR0.out.lt, HO4.out, grownBy_below HG2.out HBB.out⟩, by have := HLTT.out; simp [intOf]; omega⟩
theorem PlsAns.base {B B' : Nat} {l : List Nat} {x : Ending} {w' : World} (h : PlsAns B l x w') (hB : B' ≤ B) : PlsAns B' l x w' := by
 rcases h with ⟨v, R, h1, h2, h3, h4⟩ | h | h
 · exact .inl ⟨v, R, h1, h2.base hB, h3, h4⟩
 · exact .inr (.inl h)
 · exact .inr (.inr h)
theorem PlsAns.kept {B : Nat} {l : List Nat} {x : Ending} {w w' : World} (h : PlsAns B l x w) (hk : ∀ g, B ≤ g → g < w.heap.size → w'.heap[g]? = w.heap[g]?) : PlsAns B l x w' := by
 rcases h with ⟨v, R, h1, h2, h3, h4⟩ | h | h
 · exact .inl ⟨v, R, h1, h2.kept hk, h3, h4⟩
 · exact .inr (.inl h)
 · exact .inr (.inr h)
set_option maxHeartbeats 1000000 in
theorem pclo_any (p q r lo hi : Nat) (l : List Nat) (w : World) (h : Rd w r lo hi l) (hl : l.length ≤ 1000000000)
    (hp : w.cell? ⟨p, 0, none⟩ = some (.int .i64 4096)) (hq : w.cell? ⟨q, 0, none⟩ = some (.func (.func 132) #[] #[])) :
    Calls Tryz.prog 149 #[.pointer (some ⟨r, 0, none⟩), .pointer (some ⟨p, 0, none⟩), .pointer (some ⟨q, 0, none⟩)] w fun x w' => w.grownBy w' (some r) ∧ PlsAns w.heap.size l x w' ∧ (∀ v, x = .returned (.tuple #[v, .int .i64 0]) → ∃ rest, Rd w' r lo hi rest) := by
 have HC := zHd (pthings_any r lo hi l w h hl)
 clear h hl
 go_enter Tryz.func149, Tryz.ntmps149
 go_wp2_with fail
 refine Calls.mono HC.out ?_
 rintro e w1 ⟨hg, (⟨v1, R, rfl, hgot, hR, hall⟩ | ⟨n, hn0, rfl, hno⟩ | ⟨rfl, hno⟩), hrd⟩
 · have HF := zHd (And.intro hg (And.intro (And.intro hgot (And.intro hR hall)) (hrd v1 rfl)))
   clear hg hgot hR hall hrd
   go_wp2_with fail
   go_ret2
   exact ⟨HF.out.1, .inl ⟨v1, R, rfl, HF.out.2.1.1, HF.out.2.1.2.1, HF.out.2.1.2.2⟩, fun _ _ => HF.out.2.2⟩
 · have HF := zHd (And.intro hg (And.intro hn0 hno))
   clear hg hn0 hno hrd
   go_wp2_with fail
   go_ret2
   exact ⟨HF.out.1, .inr (.inl ⟨n, HF.out.2.1, rfl, HF.out.2.2⟩), fun v e => by injection e with e; injection e with e; simp at e; exact absurd e.2 HF.out.2.1⟩
 · exact ⟨rfl, hg, .inr (.inr ⟨rfl, hno⟩), fun v e => by cases e⟩
theorem grown_alloc2 {w w1 : World} {o1 o2 : Obj} {r : Nat} (hg : ((w.alloc o1).alloc o2).grownBy w1 (some (w.heap.size + 1))) : w.grownBy w1 (some r) := by
 refine ⟨hg.os, hg.tape, hg.output, ?_, fun i hi _ => ?_⟩
 · have := hg.size; simp at this; omega
 · have h1 := hg.block i (by simp; omega) (by intro h; injection h with h; omega)
   rw [h1, Below.heap_alloc _ _ _ (by simp; omega), Below.heap_alloc _ _ _ hi]
set_option maxHeartbeats 2000000 in
theorem pwhole_any (p q r lo hi : Nat) (l : List Nat) (w : World) (h : Rd w r lo hi l) (hl : l.length ≤ 1000000000)
    (hp : w.cell? ⟨p, 0, none⟩ = some (.int .i64 4096)) (hq : w.cell? ⟨q, 0, none⟩ = some (.func (.func 132) #[] #[])) :
    Calls Tryz.prog 148 #[.pointer (some ⟨r, 0, none⟩), .func (.func 149) #[] #[.pointer (some ⟨p, 0, none⟩), .pointer (some ⟨q, 0, none⟩)]] w fun x w' => w.grownBy w' (some r) ∧ PlsAns w.heap.size l x w' := by
 obtain ⟨v, h1, hB⟩ := h.ex
 have hB' := hB
 obtain ⟨A, c, rfl, hlc, hcm, hnil, hby⟩ := hB
 have HC := zHd (pclo_any p q _ lo hi l _ (rd_copy h h1) hl (ext_cell (zEt (ext_alloc _ _) (ext_alloc _ _)) hp) (ext_cell (zEt (ext_alloc _ _) (ext_alloc _ _)) hq))
 have c0 := h1.c0
 have c1 := h1.c1
 have f0 := h1.f0
 have f1 := h1.f1
 have hr := h1.lt
 have H1 := zHd h1
 have HR := zHd h
 clear h h1 hlc hcm hnil hby hB' hp hq hl
 go_enter Tryz.func148, Tryz.ntmps148
 go_wp2_with fail
 refine (none_open _ _ _ _ H1.out).mono ?_
 rintro e w1 ⟨rfl, rfl⟩
 go_wp2_with fail
 refine Calls.mono HC.out ?_
 rintro e w1 ⟨hg, hans, hrd⟩
 have hr1 : RObj w1 r (.slice A l.length c) true := ((H1.out.alloc _).alloc _).grown hg (by intro h; injection h with h; omega)
 have hsz : w.heap.size + 2 ≤ w1.heap.size := by have := hg.size; simp at this; omega
 have HBASE : Hid (PlsAns w.heap.size l e w1) := hans.base (by simp; omega)
 rcases hans with ⟨v1, R, rfl, _, _, _⟩ | ⟨n, hn0, rfl, _⟩ | ⟨rfl, _⟩
 · obtain ⟨rest, hrd1⟩ := hrd v1 rfl
   obtain ⟨v2, h2, hB2⟩ := hrd1.ex
   have HG := zHd (grown_two r v2 (.bool true) hr hg)
   have d0 := h2.c0
   have d1 := h2.c1
   have e0 := hr1.c0
   have e1 := hr1.c1
   have g0 := hr1.f0
   have g1 := hr1.f1
   obtain ⟨A2, c2, rfl, _, _, _, _⟩ := hB2
   clear hrd hrd1 h2 hr1 hg
   go_wp2_with fail
   go_ret2
   exact ⟨HG.out, HBASE.out.kept fun g h1 h2 => by rw [Below.heap_setCell _ _ _ _ (by show g ≠ r; omega), Below.heap_setCell _ _ _ _ (by show g ≠ r; omega)]⟩
 · have hw1 : RObj w1 w.heap.size (.slice A l.length c) true := ((RObj.new w _ _).alloc _).grown hg (by intro h; injection h with h; omega)
   have HG := zHd (grown_two r (.slice A l.length c) (.bool true) hr hg)
   have d0 := hw1.c0
   have d1 := hw1.c1
   have e0 := hr1.c0
   have e1 := hr1.c1
   have g0 := hr1.f0
   have g1 := hr1.f1
   have hn0' : (n != 0) = true := by simpa using hn0
   clear hrd hr1 hw1 hg hn0
   go_wp2_with fail
   go_ret2
   exact ⟨HG.out, HBASE.out.kept fun g h1 h2 => by rw [Below.heap_setCell _ _ _ _ (by show g ≠ r; omega), Below.heap_setCell _ _ _ _ (by show g ≠ r; omega)]⟩
 · exact ⟨rfl, grown_alloc2 hg, HBASE.out⟩
theorem ptake_nil (w : World) : (binOp .eql 161 (.func (.func 132) #[] #[]) .nilFunc).run Tryz.prog w = .ok (.bool false) w := by kernel_rfl
set_option maxHeartbeats 1000000 in
theorem ptake_any (r lo hi : Nat) (l : List Nat) (w : World) (h : Rd w r lo hi l) (hl : l.length ≤ 1000000000) :
    Calls Tryz.prog 129 #[.pointer (some ⟨r, 0, none⟩), .int .i64 4096, .func (.func 132) #[] #[]] w fun x w' => w.grownBy w' (some r) ∧ PlsAns w.heap.size l x w' := by
 have hmf := mkf
 have hfn := ptake_nil
 have HC := zHd (pwhole_any w.heap.size (w.heap.size + 1) r lo hi l ((w.alloc (.cells #[.int .i64 4096] 3)).alloc (.cells #[.func (.func 132) #[] #[]] 161)) ((h.alloc _).alloc _) hl
  (by rw [World.cell?_alloc_past _ _ _ (by simp), World.cell?_alloc_at _ _ _ _ rfl]; rfl) (by rw [World.cell?_alloc_at _ _ _ _ (by simp)]; rfl))
 clear h hl
 go_enter Tryz.func129, Tryz.ntmps129
 go_wp2_with fail
 refine Calls.mono HC.out ?_
 rintro e w1 ⟨hg, hans⟩
 have HG : Hid (w.grownBy w1 (some r)) := grown_alloc (grown_alloc hg)
 have HA : Hid (PlsAns w.heap.size l e w1) := hans.base (by simp; omega)
 rcases hans with ⟨v1, R, rfl, _, _, _⟩ | ⟨n, hn0, rfl, _⟩ | ⟨rfl, _⟩
 · clear hg
   go_wp2_with fail
   go_ret2
   exact ⟨HG.out, HA.out⟩
 · clear hg hn0
   go_wp2_with fail
   go_ret2
   exact ⟨HG.out, HA.out⟩
 · exact ⟨rfl, HG.out, HA.out⟩
theorem plOf_small {C : List (List Ent)} {k : Nat} {p : List Ent} (h : C[k]? = some p) (hm : ∀ e ∈ C.flatten, e.may = true) (hb : (blks C).length ≤ 269144064) : (plOf p (offB C k)).small := by
 have hs := offB_succ h
 have h1 := blks_take_le C (k + 1)
 rw [hs, List.length_append] at h1
 have hp := List.mem_of_getElem? h
 unfold Pl.small plOf offB
 simp only []
 cases hl : p.getLast? with
 | none => simp only [Option.map_none, Option.getD_none, List.length_nil]; omega
 | some e =>
  obtain ⟨m1, m2, m3, m4, _⟩ := mayN_iff.1 (hm e (List.mem_flatten.2 ⟨p, hp, List.mem_of_getLast? hl⟩))
  simp only [Option.map_some, Option.getD_some]
  omega
theorem pls_small {C : List (List Ent)} {L : List Ent} (h : MayT L) (hc : Cuts C) (hf : C.flatten = L) : ∀ p ∈ pls C, p.small := by
 intro p hp
 obtain ⟨k, hk, rfl⟩ := List.mem_iff_getElem.1 hp
 have hk2 : k < C.length := by rw [pls_length] at hk; exact hk
 have h2 := pls_at (List.getElem?_eq_getElem hk2)
 rw [List.getElem?_eq_getElem hk] at h2
 injection h2 with h2
 rw [h2]
 exact plOf_small (List.getElem?_eq_getElem hk2) (fun e he => h.2.2.2 e (hf ▸ he)) (few h hc hf).b
theorem tb_plsAt {C : List (List Ent)} {L : List Ent} (h : MayT L) (hc : Cuts C) (hf : C.flatten = L) : PlsAt (index C) (pls C) [] :=
 ⟨by rw [pls_length]; exact (few h hc hf).c, pls_small h hc hf, by rw [List.append_nil, pform_pls hc]⟩
def PlcAns (w : World) (b : List Nat) (x : Ending) (w' : World) : Prop :=
 Ext w w' ∧ ((∃ (A : Option Addr) (c : Nat) (R : List (Pl × PHd)), x = .returned (.slice A R.length c) ∧ PGot w.heap.size (.slice A R.length c) R w' ∧ R.length ≤ 4096 ∧ 28 ≤ b.length ∧ ∀ C L, MayT L → Cuts C → C.flatten = L → tb C L = b → R.map Prod.fst = pls C) ∨
  (x = .panicked tgaveUp ∧ ∀ L, ¬ IsT b L))
set_option maxHeartbeats 2000000 in
theorem places_any {w : World} {lo hi c : Nat} {A : Option Addr} {b : List Nat} (hv : Bs w lo hi (.slice A b.length c) b) (hhi : hi ≤ w.heap.size) (hb : ∀ x ∈ b, x < 256) (hl : b.length ≤ 1000000000) :
    Calls Tryz.prog 107 #[.slice A b.length c] w (PlcAns w b) := by
 have HI := zHd (index_any hv hhi hb hl)
 have HHI := zHd hhi
 have HL := zHd hl
 clear hv hhi hb hl
 go_enter Tryz.func107, Tryz.ntmps107
 go_wp2_with fail
 refine HI.out.mono ?_
 rintro x w2 ⟨hx2, (⟨A2, c2, l, rfl, hv2, hl2, hll, h28, hall⟩ | ⟨rfl, hno⟩)⟩
 rotate_left
 · exact ⟨rfl, hx2, .inr ⟨rfl, hno⟩⟩
 have HX2 := zHd hx2
 have HO := zHd (open_any _ _ _ _ _ hv2 (zNt HHI.out hx2.size) (by have := HL.out; omega) hl2)
 have HALL := zHd hall
 have H28 := zHd h28
 have HLL := zHd hll
 clear hx2 hv2 hl2 hll h28 hall
 go_wp2_with fail
 refine HO.out.mono ?_
 rintro x w3 ⟨r, rlo, rhi, rfl, hrd, hr, hlo, hb3⟩
 have HX3 : Hid (Ext w w3) := Below.trans HX2.out (Below.mono hb3 HX2.out.size)
 have HR : Hid (w.heap.size ≤ r) := zNt HX2.out.size hr
 have HT := zHd (ptake_any r rlo rhi l w3 hrd (by have := HL.out; have := HLL.out; omega))
 clear hrd hr hlo hb3
 go_wp2_with fail
 refine HT.out.mono ?_
 rintro x w4 ⟨hg, (⟨v, R, rfl, hgot, hR, hps⟩ | ⟨n, hn0, rfl, hno⟩ | ⟨rfl, hno⟩)⟩
 · have HX4 : Hid (Ext w w4) := Below.trans HX3.out ((Below.refl _ _).grown hg HX3.out.size (fun k hk => by injection hk with hk; have := HR.out; omega))
   obtain ⟨A5, c5, rfl⟩ := rowN_slice hgot.row
   have HG : Hid (PGot w.heap.size (.slice A5 R.length c5) R w4) := hgot.base HX3.out.size
   have HF := zHd (And.intro hR hps)
   clear hg hgot hR hps
   go_wp2_with fail
   refine (treadPl_any _ _ _ _ _).mono ?_
   rintro x w5 ⟨(⟨_, rfl⟩ | ⟨h, _⟩), rfl⟩
   rotate_left
   · exact absurd rfl h
   go_wp2_with fail
   go_ret
   refine ⟨HX4.out, .inl ⟨A5, c5, R, rfl, HG.out, HF.out.1, H28.out, fun C L hm hc hf hb => HF.out.2 _ [] ?_⟩⟩
   rw [HALL.out C L hm hc hf hb]
   exact tb_plsAt hm hc hf
 · have HX4 : Hid (Ext w w4) := Below.trans HX3.out ((Below.refl _ _).grown hg HX3.out.size (fun k hk => by injection hk with hk; have := HR.out; omega))
   have HF := zHd (And.intro hn0 hno)
   clear hg hn0 hno
   go_wp2_with fail
   refine (treadPl_any _ _ _ _ _).mono ?_
   rintro x w5 ⟨(⟨h, _⟩ | ⟨_, rfl⟩), rfl⟩
   · exact absurd h HF.out.1
   refine ⟨rfl, HX4.out, .inr ⟨rfl, fun L h => ?_⟩⟩
   obtain ⟨hm, C, hf, hc, hb⟩ := h
   refine HF.out.2 (pls C) [] ?_
   rw [HALL.out C L hm hc hf hb]
   exact tb_plsAt hm hc hf
 · refine ⟨rfl, Below.trans HX3.out ((Below.refl _ _).grown hg HX3.out.size (fun k hk => by injection hk with hk; have := HR.out; omega)), .inr ⟨rfl, fun L h => ?_⟩⟩
   obtain ⟨hm, C, hf, hc, hb⟩ := h
   refine hno (pls C) [] ?_
   rw [HALL.out C L hm hc hf hb]
   exact tb_plsAt hm hc hf
set_option maxRecDepth 100000 in
theorem wpList_addgot {ops : Array Oper} {rest : List Oper} {o : Oper} {a : Act} {Q : Exit → Act → World → Prop} {u : World} (hgd : o.guard = none) (s x : Operand)
    (ho : o.op = .call { callee := .builtin .append, args := #[s, x], argTypes := #[28, 28] }) (C : Nat) (v : Value) (R : List (Ent × Hd)) (hs : a.eval s = v) (hgot : Got C v R u)
    (A2 : Option Addr) (c2 : Nat) (L : List (Ent × Hd)) (hx : a.eval x = .slice A2 L.length c2) (hgl : Got C (.slice A2 L.length c2) L u) (hlen : R.length + L.length ≤ 1000000000000) (hB : C ≤ u.heap.size)
    (h : ∀ A' c' w', Got C (.slice A' (R ++ L).length c') (R ++ L) w' → u.grownBy w' v.ownBlock → wpList Tryz.prog ops Q rest (a.put o.dst (.slice A' (R ++ L).length c')) w') : wpList Tryz.prog ops Q (o :: rest) a u := by
 refine wpList_plain hgd fun _ hK => ?_
 obtain ⟨i0, hi0', ix0, ix1, ix2⟩ := info_parts einfo
 have hsl := hgl.rs.outer
 rcases A2 with _ | ad
 · have hc0 := hgl.capd.2 rfl
   have hL0 : L = [] := List.eq_nil_of_length_eq_zero (by have := hgl.capd.1; omega)
   subst hL0
   subst hc0
   have hrun := run_append_owned_none (P := Tryz.prog) (w := u) C 28 o.type 50 i0 4 Tryz.underlying28 hi0' v R.length (erow R) hgot.row
   unfold Oper.wp execOp
   simp only [ho, resolve, invoke, builtin, Sem.run_bind, Sem.run_pure, Result.andThen_ok, List.map_toArray, List.map_cons, List.map_nil, hs, hx, List.length_nil, hrun]
   obtain ⟨A', c', rfl⟩ := rowN_slice hgot.row
   have h2 := h A' c' u (by simpa using hgot) ⟨rfl, rfl, rfl, zNr _, fun _ _ _ => rfl⟩
   simp only [List.append_nil] at h2
   exact hK _ _ h2
 · refine wp_append_own u s x 28 ho C 50 i0 _ 4 64 Tryz.underlying28 hi0' ix0 ix1 ix2 rfl (by decide) v R.length (erow R) hs hgot.row ad L.length c2 (erow L) hx (erow_length L) (fun j q hj => ?n1) (erow_one L) ?n3 ?n4 hB (fun v' w5 hO hgr _ => ?rest)
   case n1 =>
    rcases hsl with h0 | ⟨b, of, he, _, _, hc⟩
    · rw [h0] at hj; simp at hj
    · injection he with he; subst he; rw [addr_add]; exact hc j q hj
   case n3 => unfold maxLen; omega
   case n4 => omega
   case rest =>
    have hke : ∀ (q : Ent × Hd), Mine C q u → Mine C q w5 := fun q hq => by
     have hk : ∀ {l : List Nat} {y : Value}, Own C l y u → Own C l y w5 := fun hy => row_kept hy fun g' hg' => hgr.block g' (row_lt hy g' hg').2 (fun e => rows_apart hy hgot.row (by decide) hg' e.symm)
     exact ⟨hk hq.k, hk hq.v, hq.good⟩
    have hrow' : w5.ownsRow C 50 4 v' (R ++ L).length (erow (R ++ L)) := by rw [List.length_append, erow_append]; exact hO
    obtain ⟨A', c', rfl⟩ := rowN_slice hrow'
    refine hK _ _ (h A' c' w5 ⟨hrow', fun q hq => hke q ?_⟩ hgr)
    rcases List.mem_append.1 hq with hq | hq
    · exact hgot.each q hq
    · exact hgl.each q hq
theorem PGot.ps {B : Nat} {A : Option Addr} {c : Nat} {R : List (Pl × PHd)} {w : World} (h : PGot B (.slice A R.length c) R w) : Ps w 0 w.heap.size A R := by
 refine ⟨?_, fun p hp => Bs.wide (Own.bs (h.each p hp).1) (Nat.zero_le _) (zNr _)⟩
 rcases h.row.2 with ⟨h1, h2⟩ | ⟨g, cap, cur, hv, hg, hh, r⟩
 · injection h1 with e1 e2 _
   have : R = [] := List.eq_nil_of_length_eq_zero e2
   subst this; exact Sl.nil _ _ _ _
 · injection hv with e1 _ _
   subst e1
   refine .inr ⟨g, 0, rfl, Nat.zero_le _, (zAg.1 hh).1, fun i u hu => ?_⟩
   have := h.row.cells (g := g) rfl i u hu
   rwa [addr_add] at this
def EntTo (b : List Nat) (k : Nat) (E : List Ent) (off : Nat) : Prop := ∀ C L, MayT L → Cuts C → C.flatten = L → tb C L = b → E = (C.take k).flatten ∧ off = offB C k
theorem EntTo.zero (b : List Nat) : EntTo b 0 [] 0 := fun C L _ _ _ _ => ⟨by simp, by simp [offB, blks]⟩
theorem EntTo.at_ {b : List Nat} {k off : Nat} {E : List Ent} {P : List Pl} {p : Pl} (h : EntTo b k E off) (hp : P[k]? = some p) {C : List (List Ent)} {L : List Ent} (hm : MayT L) (hc : Cuts C) (hf : C.flatten = L) (hb : tb C L = b) (hP : P = pls C) :
    ∃ q, C[k]? = some q ∧ p.z = (wr q).length ∧ p.z ≤ (b.drop off).length ∧ (b.drop off).take p.z = wr q ∧ MayB q := by
 obtain ⟨h1, h2⟩ := h C L hm hc hf hb
 subst hP
 have hk : k < C.length := by have := (zLg.1 hp).1; rw [pls_length] at this; exact this
 have hCk : C[k]? = some C[k] := List.getElem?_eq_getElem hk
 have h3 := pls_at hCk
 rw [hp] at h3
 injection h3 with h3
 have hz : p.z = (wr C[k]).length := by rw [h3]; rfl
 have hsp : b.drop off = wr C[k] ++ (blks (C.drop (k + 1)) ++ (index C ++ Bl.mk (keysT L)) ++ (foot24 C L ++ be4 (Bl.crc (foot24 C L)))) := by
  have e : blks C = blks (C.take k) ++ (wr C[k] ++ blks (C.drop (k + 1))) := by
   have e1 : blks C = blks (C.take k ++ (C[k] :: C.drop (k + 1))) := by rw [← List.drop_eq_getElem_cons hk, List.take_append_drop]
   rw [e1]
   unfold blks
   rw [List.flatMap_append, List.flatMap_cons]
  rw [← hb, h2]
  unfold tb ahd offB
  rw [e]
  simp only [List.append_assoc]
  rw [List.drop_left]
 refine ⟨C[k], hCk, hz, ?_, ?_, pieces_mayB (hf ▸ hm.2.2.1) (fun e he => hm.2.2.2 e (hf ▸ he)) hc _ (List.getElem_mem hk)⟩
 · rw [hsp, List.length_append, hz]; omega
 · rw [hsp, hz, List.take_left]
theorem EntTo.next {b : List Nat} {k off z : Nat} {E M : List Ent} {P : List Pl} {p : Pl} (h : EntTo b k E off) (hp : P[k]? = some p) (hz : z = p.z) (hP : ∀ C L, MayT L → Cuts C → C.flatten = L → tb C L = b → P = pls C) (hM : IsB ((b.drop off).take z) M) : EntTo b (k + 1) (E ++ M) (off + z) := by
 intro C L hm hc hf hb
 obtain ⟨h1, h2⟩ := h C L hm hc hf hb
 obtain ⟨q, hq, hz2, _, h4, h5⟩ := h.at_ hp hm hc hf hb (hP C L hm hc hf hb)
 subst hz
 rw [h4] at hM
 have e : M = q := hM.unique ⟨h5, rfl⟩
 refine ⟨?_, ?_⟩
 · obtain ⟨hk, rfl⟩ := zLg.1 hq
   rw [h1, e, List.take_succ_eq_append_getElem hk, List.flatten_append]; simp
 · rw [h2, hz2]; unfold offB; rw [offB_succ hq, List.length_append]
def TEntAns (w : World) (b : List Nat) (x : Ending) (w' : World) : Prop :=
 Ext w w' ∧ ((∃ (A : Option Addr) (c : Nat) (R : List (Ent × Hd)), x = .returned (.slice A R.length c) ∧ Got w.heap.size (.slice A R.length c) R w' ∧ R.length ≤ 4194304 ∧ 28 ≤ b.length ∧ ∀ L, IsT b L → R.map Prod.fst = L) ∨
  (x = .panicked tgaveUp ∧ ∀ L, ¬ IsT b L))
set_option maxRecDepth 100000 in
set_option maxHeartbeats 8000000 in
theorem tentries_any {w : World} {lo hi c : Nat} {A : Option Addr} {b : List Nat} (hv : Bs w lo hi (.slice A b.length c) b) (hhi : hi ≤ w.heap.size) (hb : ∀ x ∈ b, x < 256) (hl : b.length ≤ 1000000000) :
    Calls Tryz.prog 68 #[.slice A b.length c] w (TEntAns w b) := by
 have HP := zHd (places_any hv hhi hb hl)
 have HV := zHd hv
 have HHI := zHd hhi
 have HB := zHd hb
 have HL := zHd hl
 clear hv hhi hb hl
 go_enter Tryz.func68, Tryz.ntmps68
 go_wp2_with fail
 refine HP.out.mono ?_
 rintro x w2 ⟨hx2, (⟨PA, pc, P, rfl, hgot, hP, h28, hall⟩ | ⟨rfl, hno⟩)⟩
 rotate_left
 · exact ⟨rfl, hx2, .inr ⟨rfl, hno⟩⟩
 have HX2 := zHd hx2
 have HG := zHd hgot
 have HPL := zHd hP
 have HALL := zHd hall
 have H28 := zHd h28
 have HPS := zHd hgot.ps
 clear hx2 hgot hP h28 hall HP
 go_wp2_with fail
 go_loopw [3, 4, 6, 11] (fun v rs _ i wr => ∃ (k : Nat) (X : Option Addr) (cE : Nat) (E : List (Ent × Hd)) (off : Nat) (RA : Option Addr) (rc : Nat), k ≤ P.length ∧ i = .int .i64 (k : Int) ∧ v = .slice X E.length cE ∧ rs = .slice RA (b.drop off).length rc ∧ Hid (Got w2.heap.size (.slice X E.length cE) E wr) ∧ Hid (Bs wr lo hi (.slice RA (b.drop off).length rc) (b.drop off)) ∧ Hid (E.length ≤ 1024 * k) ∧ Hid (EntTo b k (E.map Prod.fst) off) ∧ Hid (Ext w2 wr)) (fun _ _ _ i _ => P.length - (intOf i).toNat)
 case atStart => exact ⟨0, none, 0, [], 0, A, c, Nat.zero_le _, rfl, rfl, rfl, Got.nil _ _, HV.out.below HX2.out HHI.out, Nat.zero_le _, EntTo.zero b, Ext.refl _⟩
 case round =>
  obtain ⟨k, X, cE, E, off, RA, rc, hk, rfl, rfl, rfl, HGE, HBR, HEL, HTO, HX⟩ := hrel
  by_cases hlt : k < P.length
  rotate_left
  · have d : decide ((k : Int) < (P.length : Int)) = false := decide_eq_false (by omega)
    have dn : decide (k < P.length) = false := decide_eq_false hlt
    have HK : Hid (k = P.length) := by unfold Hid; omega
    clear hlt hk
    go_wp2_with fail
    go_ret
    refine ⟨zEt HX2.out HX.out, .inl ⟨X, cE, E, rfl, HGE.out.base HX2.out.size, by have := HEL.out; have := HK.out; have := HPL.out; omega, H28.out, fun L h => ?_⟩⟩
    obtain ⟨hm, C, hf, hc, hb⟩ := h
    have h1 := (HTO.out C L hm hc hf hb).1
    have h2 := congrArg List.length (HALL.out C L hm hc hf hb)
    rw [List.length_map, pls_length] at h2
    rw [h1, HK.out, h2, List.take_length, hf]
  have d : decide ((k : Int) < (P.length : Int)) = true := decide_eq_true (by omega)
  have dn : decide (k < P.length) = true := decide_eq_true hlt
  obtain ⟨b0, o0, hA⟩ := HPS.out.base (by omega)
  subst hA
  obtain ⟨p, hp⟩ : ∃ p, P[k]? = some p := ⟨_, List.getElem?_eq_getElem hlt⟩
  obtain ⟨c0, c1, c2, c3, c4, c5⟩ := (HPS.out.below HX.out (zNr _)).get hp
  have HPE : Hid ((P.map Prod.fst)[k]? = some p.1) := by unfold Hid; rw [List.getElem?_map, hp]; rfl
  have n1 : (0 : Int) ≤ (k : Int) := by omega
  have n2 : (k : Int) < (P.length : Int) := by omega
  have HLT := zHd hlt
  clear hp hlt hk
  go_upto_region 6 with (fail)
  obtain ⟨w4, hw4⟩ : ∃ w4, w4 = wr.alloc (.cells #[.slice p.2.1 p.1.key.length p.2.2, .int .i64 (p.1.n : Int), .int .i64 0, .slice none 0 0, .int .i64 (p.1.b : Int), .int .i64 (p.1.z : Int)] 90) := ⟨_, rfl⟩
  rw [← hw4]
  have HX4 : Hid (Ext wr w4) := by rw [hw4]; exact ext_alloc _ _
  have HB4 : Hid (w4.heap[wr.heap.size]? = some (.cells #[.slice p.2.1 p.1.key.length p.2.2, .int .i64 (p.1.n : Int), .int .i64 0, .slice none 0 0, .int .i64 (p.1.b : Int), .int .i64 (p.1.z : Int)] 90 (0, 0))) := by rw [hw4]; exact heap_at _ _ rfl
  obtain ⟨t, ht⟩ : ∃ t, t = b.drop off := ⟨_, rfl⟩
  rw [← ht] at HBR ⊢
  have HT := zHd ht
  have HHW : Hid (hi ≤ wr.heap.size) := zNt (zNt HHI.out HX2.out.size) HX.out.size
  have HBR4 : Hid (Bs w4 lo hi (.slice RA t.length rc) t) := HBR.out.below HX4.out HHW.out
  have hrc := HBR.out.len.2.1
  clear hw4 c0 c1 c2 c3 c4 c5 ht
  have c5 := cell_of HB4.out (k := 5) rfl
  obtain ⟨z, hz⟩ : ∃ z, z = p.1.z := ⟨_, rfl⟩
  have HZ := zHd hz
  rw [← hz] at c5
  clear hz
  by_cases hgt : t.length < z
  · have d2 : decide ((t.length : Int) < (z : Int)) = true := by rw [decide_eq_true_eq]; omega
    have d2n : decide (t.length < z) = true := by rw [decide_eq_true_eq]; exact hgt
    have HGT := zHd hgt
    clear hgt
    go_wp2_with fail
    refine (tgiveUp_any _).mono ?_
    rintro x' w' ⟨rfl, rfl⟩
    refine ⟨rfl, zEt HX2.out (zEt HX.out HX4.out), .inr ⟨rfl, fun L h => ?_⟩⟩
    obtain ⟨hm, C, hf, hc, hb⟩ := h
    obtain ⟨q, _, _, h3, _, _⟩ := HTO.out.at_ HPE.out hm hc hf hb (HALL.out C L hm hc hf hb)
    rw [← HT.out, ← HZ.out] at h3
    have := HGT.out
    omega
  have d2 : decide ((t.length : Int) < (z : Int)) = false := by rw [decide_eq_false_iff_not]; omega
  have d2n : decide (t.length < z) = false := by rw [decide_eq_false_iff_not]; exact hgt
  have HZT : Hid (z ≤ t.length) := by unfold Hid; omega
  obtain ⟨A5, hA5, hr5⟩ := headB_run .i64 RA t.length rc z HZT.out hrc
  obtain ⟨A6, hA6, _, hr6o⟩ := cut_run RA t.length rc z t.length HZT.out (zNr _) hrc
  have hr6 := hr6o rfl
  have HA6 := zHd hA6
  have HRD := zHd (bread_any (hA5 _ _ _ _ HBR4.out) (zNt HHW.out HX4.out.size) (fun x hx => HB.out x (by have h1 := List.mem_of_mem_take hx; rw [HT.out] at h1; exact List.mem_of_mem_drop h1)) (by rw [List.length_take]; have := HL.out; have h1 := congrArg List.length HT.out; rw [List.length_drop] at h1; omega))
  clear hA5 hA6 hr6o hgt hrc
  go_wp2_with fail
  refine HRD.out.mono ?_
  rintro x w6 ⟨hx6, (⟨M, MA, cM, his, rfl, hgm⟩ | ⟨hno, rfl⟩)⟩
  rotate_left
  · have HF := zHd (And.intro hx6 hno)
    clear hx6 hno
    go_wp2_with fail
    refine (treadEnt_any _ _ _ _ _).mono ?_
    rintro x w7 ⟨(⟨h, _⟩ | ⟨_, rfl⟩), rfl⟩
    · exact absurd h (by decide)
    refine ⟨rfl, zEt HX2.out (zEt HX.out (zEt HX4.out HF.out.1)), .inr ⟨rfl, fun L h => ?_⟩⟩
    obtain ⟨hm, C, hf, hc, hb⟩ := h
    obtain ⟨q, _, _, _, h4, h5⟩ := HTO.out.at_ HPE.out hm hc hf hb (HALL.out C L hm hc hf hb)
    rw [← HT.out, ← HZ.out] at h4
    exact HF.out.2 q ⟨h5, h4.symm⟩
  have HX6 := zHd hx6
  have HX46 : Hid (Ext wr w6) := zEt HX4.out hx6
  have HIS := zHd his
  have HGM : Hid (Got w2.heap.size (.slice MA M.length cM) M w6) := hgm.base (zNt HX.out.size HX4.out.size)
  have HML : Hid (M.length ≤ 1024) := by have := his.1.2.1; rw [List.length_map] at this; exact this
  have HNX : Hid (EntTo b (k + 1) ((E ++ M).map Prod.fst) (off + z)) := by rw [List.map_append]; exact HTO.out.next HPE.out HZ.out (fun C L hm hc hf hb => HALL.out C L hm hc hf hb) (by rw [← HT.out]; exact his)
  have HB6 : Hid (w6.heap[wr.heap.size]? = some (.cells #[.slice p.2.1 p.1.key.length p.2.2, .int .i64 (p.1.n : Int), .int .i64 0, .slice none 0 0, .int .i64 (p.1.b : Int), .int .i64 (p.1.z : Int)] 90 (0, 0))) := ext_heap hx6 HB4.out
  have HGE6 : Hid (Got w2.heap.size (.slice X E.length cE) E w6) := HGE.out.below HX46.out
  have HBR6 : Hid (Bs w6 lo hi (.slice RA t.length rc) t) := HBR4.out.below hx6 (zNt HHW.out HX4.out.size)
  clear hx6 his hgm c5 HRD
  go_wp2_with fail
  refine (treadEnt_any _ _ _ _ _).mono ?_
  rintro x w7 ⟨(⟨_, rfl⟩ | ⟨h, _⟩), rfl⟩
  rotate_left
  · exact absurd rfl h
  go_wp2_with (at_builtin; refine wpList_addgot rfl (.tmp 21) (.tmp 29) rfl w2.heap.size _ E rfl HGE6.out _ _ M rfl HGM.out ?len ?hB ?_)
  case len => have := HEL.out; have := HML.out; have := HLT.out; have := HPL.out; omega
  case hB => exact zNt HX.out.size HX46.out.size
  intro A8 c8 w8 hg8 hgr8
  have HG8 := zHd hg8
  have hlow : ∀ g, (Value.slice X E.length cE).ownBlock = some g → w2.heap.size ≤ g := fun g hg => (rowN_lt HGE6.out.row g hg).1
  have HX8 : Hid (Ext w2 w8) := (Below.trans HX.out (HX46.out.mono HX.out.size)).grown hgr8 (zNt HX.out.size HX46.out.size) hlow
  have HBR8 : Hid (Bs w8 lo hi (.slice RA t.length rc) t) := HBR6.out.grown hgr8 (zNt HHW.out HX46.out.size) (fun g hg => .inr (zNt (zNt HHI.out HX2.out.size) (hlow g hg)))
  have hb8 : w8.heap[wr.heap.size]? = some (.cells #[.slice p.2.1 p.1.key.length p.2.2, .int .i64 (p.1.n : Int), .int .i64 0, .slice none 0 0, .int .i64 (p.1.b : Int), .int .i64 (p.1.z : Int)] 90 (0, 0)) := by
   refine (hgr8.block _ (zAg.1 HB6.out).1 (fun e => ?_)).trans HB6.out
   obtain ⟨_, _, c9, h9⟩ := rowN_lt HGE6.out.row _ e.symm
   rw [HB6.out] at h9
   injection h9 with h9
   injection h9 with _ h9 _
   exact absurd h9 (by decide)
  have c5 := cell_of hb8 (k := 5) rfl
  rw [← HZ.out] at c5
  have hw2 : wrap64 ((k : Int) + 1) = ((k + 1 : Nat) : Int) := by have := HLT.out; have := HPL.out; unfold wrap64; omega
  have hlen8 : E.length + M.length = (E ++ M).length := List.length_append.symm
  rw [hlen8] at HG8 ⊢
  clear hg8 hgr8 hlow hb8 hlen8
  go_wp2_with fail
  have hdl : t.length - z = (b.drop (off + z)).length := by rw [HT.out, List.length_drop, List.length_drop]; omega
  have hdd : (t.drop z).take (t.length - z) = b.drop (off + z) := by rw [List.take_of_length_le (by simp), HT.out, List.drop_drop]
  have hbs := HA6.out _ _ _ _ HBR8.out
  rw [hdd, hdl] at hbs
  go_roundw
  case rel =>
   refine ⟨k + 1, A8, c8, E ++ M, off + z, A6, rc - z, by have := HLT.out; omega, by go_num, rfl, by rw [← hdl], HG8.out, hbs, ?_, HNX.out, HX8.out⟩
   rw [List.length_append]
   have := HEL.out
   have := HML.out
   unfold Hid
   omega
  case measure =>
   rw [hw2]
   show P.length - (((k + 1 : Nat) : Int)).toNat < P.length - ((k : Int)).toNat
   rw [Int.toNat_natCast, Int.toNat_natCast]
   have := HLT.out
   clear hw2
   omega
end Go.Proofs.YtkdidghfcfcpfaaGreat
namespace Go.Proofs.YtkdidghfcfcpfaaGreat
open Go.ChangeShapes Go.WideShapes Go.ChangeAt Go.RowKit
def TAt (w : World) (lo g : Nat) (C : List (List Ent)) (L : List Ent) (vf vt : Value) (ve : Bool) : Prop :=
 ∃ (bv_ fv_ : Value) (PA : Option Addr) (pc : Nat) (P : List (Pl × PHd)), w.heap[g]? = some (.cells (tbcells bv_ (.slice PA P.length pc) fv_ vf vt ve) 87 (0, 0)) ∧ Bs w lo w.heap.size bv_ (tb C L) ∧ Bs w lo w.heap.size fv_ (Bl.mk (keysT L)) ∧ Ps w lo w.heap.size PA P ∧ P.length ≤ pc ∧ P.map Prod.fst = pls C
theorem Ps.next {w w' : World} {lo : Nat} {A : Option Addr} {L : List (Pl × PHd)} (h : Ps w lo w.heap.size A L) (hx : Ext w w') : Ps w' lo w'.heap.size A L := (h.below hx (zNr _)).wide (zNr _) hx.size
theorem bs_next {w w' : World} {lo : Nat} {v : Value} {l : List Nat} (h : Bs w lo w.heap.size v l) (hx : Ext w w') : Bs w' lo w'.heap.size v l := (h.below hx (zNr _)).wide (zNr _) hx.size
theorem TAt.ext {w w' : World} {lo g : Nat} {C : List (List Ent)} {L : List Ent} {vf vt : Value} {ve : Bool} (h : TAt w lo g C L vf vt ve) (hx : Ext w w') : TAt w' lo g C L vf vt ve := by
 obtain ⟨bv_, fv_, PA, pc, P, h1, h2, h3, h4, h5, h6⟩ := h
 exact ⟨bv_, fv_, PA, pc, P, ext_heap hx h1, bs_next h2 hx, bs_next h3 hx, h4.next hx, h5, h6⟩
theorem TAt.low {w : World} {lo lo' g : Nat} {C : List (List Ent)} {L : List Ent} {vf vt : Value} {ve : Bool} (h : TAt w lo g C L vf vt ve) (hl : lo' ≤ lo) : TAt w lo' g C L vf vt ve := by
 obtain ⟨bv_, fv_, PA, pc, P, h1, h2, h3, h4, h5, h6⟩ := h
 exact ⟨bv_, fv_, PA, pc, P, h1, h2.wide hl (zNr _), h3.wide hl (zNr _), h4.wide hl (zNr _), h5, h6⟩
theorem TAt.set {w : World} {lo g : Nat} {C : List (List Ent)} {L : List Ent} {vf vt : Value} {ve : Bool} (h : TAt w lo g C L vf vt ve) (hg : lo ≤ g) {p : Addr} (hp : p.block < lo) (u : Value) : TAt (w.setCell p u) lo g C L vf vt ve := by
 obtain ⟨bv_, fv_, PA, pc, P, h1, h2, h3, h4, h5, h6⟩ := h
 have hs : (w.setCell p u).heap.size = w.heap.size := by simp [World.setCell]
 refine ⟨bv_, fv_, PA, pc, P, (Below.heap_setCell _ _ _ _ (by omega)).trans h1, ?_, ?_, ?_, h5, h6⟩
 · rw [hs]; exact h2.setCell (.inl hp) _
 · rw [hs]; exact h3.setCell (.inl hp) _
 · rw [hs]; exact ⟨h4.outer.setCell (.inl hp) _, fun q hq => Bs.setCell (h4.each q hq) (.inl hp) _⟩
theorem Got.rsB {B : Nat} {A : Option Addr} {c : Nat} {R : List (Ent × Hd)} {w : World} (h : Got B (.slice A R.length c) R w) : Es w B w.heap.size A R := by
 refine ⟨?_, fun p hp => ?_⟩
 · rcases h.row.2 with ⟨h1, h2⟩ | ⟨g, cap, cur, hv, hg, hh, r⟩
   · injection h1 with e1 e2 _
     have : R = [] := List.eq_nil_of_length_eq_zero e2
     subst this; exact Sl.nil _ _ _ _
   · injection hv with e1 _ _
     subst e1
     refine .inr ⟨g, 0, rfl, hg, (zAg.1 hh).1, fun i u hu => ?_⟩
     have := h.row.cells (g := g) rfl i u hu
     rwa [addr_add] at this
 · have hm := h.each p hp
   exact ⟨Bs.of_own hm.k, Bs.of_own hm.v, hm.good.bk, hm.good.bv, hm.good.s1, hm.good.s2, hm.good.d1, hm.good.d2⟩
theorem ps_row {B : Nat} {A : Option Addr} {c : Nat} {R : List (Pl × PHd)} {w : World} (h : w.ownsRow B 90 6 (.slice A R.length c) R.length (prow R)) : Sl w B w.heap.size A (prow R) ∧ R.length ≤ c := by
 rcases h.2 with ⟨h1, h2⟩ | ⟨g, cap, cur, hv, hg, hh, r⟩
 · injection h1 with e1 e2 e3
   have : R = [] := List.eq_nil_of_length_eq_zero e2
   subst this; exact ⟨Sl.nil _ _ _ _, by simp⟩
 · injection hv with e1 _ e3
   subst e1 e3
   refine ⟨.inr ⟨g, 0, rfl, hg, (zAg.1 hh).1, fun i u hu => ?_⟩, ?_⟩
   · have := h.cells (g := g) rfl i u hu
     rwa [addr_add] at this
   · exact r.1
theorem TbH.at_ {w w' : World} {B lo g : Nat} {C : List (List Ent)} {L : List Ent} {bv_ pv_ fv_ vf vt : Value} {ve : Bool} {z : Nat} (h : TbH B lo z C L bv_ pv_ fv_ w) (hB : lo ≤ B) (hz : z ≤ w.heap.size) (hx : Ext w w') (hg : w'.heap[g]? = some (.cells (tbcells bv_ pv_ fv_ vf vt ve) 87 (0, 0))) : TAt w' lo g C L vf vt ve := by
 obtain ⟨PA, pc, P, rfl, h2, h3, h4⟩ := h.ex
 exact ⟨bv_, fv_, PA, pc, P, hg, bs_next (Bs.wide (Bs.of_own h.bytes) hB (zNr _)) hx, bs_next (Bs.wide (Bs.of_own h.filt) hB (zNr _)) hx, Ps.next ⟨(ps_row h2).1.wide hB (zNr _), fun p hp => Bs.wide (h4 p hp) (zNr _) hz⟩ hx, (ps_row h2).2, h3⟩
theorem tb_lt {C : List (List Ent)} {L : List Ent} (h : MayT L) (hc : Cuts C) (hf : C.flatten = L) (hb : ∀ e ∈ L, (∀ x ∈ e.key, x < 256) ∧ ∀ x ∈ e.val, x < 256) : ∀ x ∈ tb C L, x < 256 := by
 intro x hx
 unfold tb at hx
 rcases List.mem_append.1 hx with hx | hx
 · exact ahd_lt hc (fun e he => h.2.2.2 e (hf ▸ he)) (hf ▸ h.2.2.1) (fun e he => hb e (hf ▸ he)) L x hx
 · rcases List.mem_append.1 hx with hx | hx
   · unfold foot24 at hx
     simp only [List.mem_append] at hx
     rcases hx with hx | hx | hx | hx | hx | hx <;> exact be4_lt _ x hx
   · exact be4_lt _ x hx
def TOpAns (w : World) (b : List Nat) (x : Ending) (w' : World) : Prop :=
 Ext w w' ∧ ((∃ (C : List (List Ent)) (L : List Ent) (g : Nat), MayT L ∧ Cuts C ∧ C.flatten = L ∧ tb C L = b ∧ (∀ e ∈ L, (∀ x ∈ e.key, x < 256) ∧ ∀ x ∈ e.val, x < 256) ∧ x = .returned (.pointer (some ⟨g, 0, none⟩)) ∧ w.heap.size ≤ g ∧ TAt w' w.heap.size g C L (.slice none 0 0) (.slice none 0 0) false) ∨
  (x = .panicked tgaveUp ∧ ∀ L, ¬ IsT b L))
set_option maxRecDepth 100000 in
set_option maxHeartbeats 4000000 in
theorem topened_any {w : World} {lo hi c : Nat} {A : Option Addr} {b : List Nat} (hv : Bs w lo hi (.slice A b.length c) b) (hhi : hi ≤ w.heap.size) (hb : ∀ x ∈ b, x < 256) (hl : b.length ≤ 1000000000) :
    Calls Tryz.prog 35 #[.slice A b.length c] w (TOpAns w b) := by
 have HE := zHd (tentries_any hv hhi hb hl)
 have HV := zHd hv
 have HHI := zHd hhi
 have HB := zHd hb
 clear hv hhi hb hl
 go_enter Tryz.func35, Tryz.ntmps35
 go_wp2_with fail
 refine HE.out.mono ?_
 rintro x w2 ⟨hx2, (⟨RA, rc, R, rfl, hgot, hR, h28, hall⟩ | ⟨rfl, hno⟩)⟩
 rotate_left
 · exact ⟨rfl, hx2, .inr ⟨rfl, hno⟩⟩
 have HX2 := zHd hx2
 have HALL := zHd hall
 have H28 := zHd h28
 have HM := zHd (made_any (c := rc) hgot.rsB (zNr _) hgot.capd.1 (by omega))
 obtain ⟨Ls, hLs⟩ : ∃ Ls, Ls = R.map Prod.fst := ⟨_, rfl⟩
 have HGB : Hid (∀ e ∈ Ls, (∀ x ∈ e.key, x < 256) ∧ ∀ x ∈ e.val, x < 256) := by rw [hLs]; exact fun e he => by obtain ⟨p, hp, rfl⟩ := List.mem_map.1 he; exact ⟨(hgot.each p hp).good.bk, (hgot.each p hp).good.bv⟩
 rw [← hLs] at HM HALL
 clear hx2 hgot hR h28 hall HE hLs
 go_wp2_with fail
 refine HM.out.mono ?_
 rintro x w3 ⟨hx3, (⟨hm, C, bv_, pv_, fv_, hf, hc, rfl, ht⟩ | ⟨hm, rfl⟩)⟩
 · have HX3 : Hid (Ext w w3) := zEt HX2.out hx3
   have HMT := zHd (And.intro hm (And.intro hf hc))
   have HT := zHd ht
   have HZ3 := zHd hx3.size
   have htl : ∀ x ∈ tb C Ls, x < 256 := tb_lt hm hc hf HGB.out
   obtain ⟨PA, pc, P, rfl, _, _, _⟩ := ht.ex
   obtain ⟨TA, tc, rfl⟩ := ht.bytes.slice
   obtain ⟨FA, fc, rfl⟩ := ht.filt.slice
   have HTB : Hid (Bs w3 0 w3.heap.size (.slice TA (tb C Ls).length tc) (tb C Ls)) := Bs.wide (Own.bs ht.bytes) (Nat.zero_le _) (zNr _)
   have HTL := zHd htl
   unfold tbcells
   clear hx3 hm hf hc ht HM htl
   go_upto_region 2 with (fail)
   obtain ⟨w4, hw4⟩ : ∃ w4, w4 = w3.alloc (.cells #[.slice TA (tb C Ls).length tc, .slice PA P.length pc, .slice FA (Bl.mk (keysT Ls)).length fc, .slice none 0 0, .slice none 0 0, .bool false] 87) := ⟨_, rfl⟩
   rw [← hw4]
   have HX4 : Hid (Ext w3 w4) := by rw [hw4]; exact ext_alloc _ _
   have HB4 : Hid (w4.heap[w3.heap.size]? = some (.cells #[.slice TA (tb C Ls).length tc, .slice PA P.length pc, .slice FA (Bl.mk (keysT Ls)).length fc, .slice none 0 0, .slice none 0 0, .bool false] 87 (0, 0))) := by rw [hw4]; exact heap_at _ _ rfl
   have c0 := cell_of HB4.out (k := 0) rfl
   have HEQ := zHd (bequal_any (HTB.out.below HX4.out (zNr _)) (HV.out.below (zEt HX3.out HX4.out) HHI.out) HTL.out HB.out)
   clear hw4
   go_wp2_with fail
   refine HEQ.out.mono ?_
   rintro x w5 ⟨⟨z, hz, rfl⟩, rfl⟩
   have HZ := zHd hz
   clear hz c0
   cases z with
   | true =>
    go_wp2_with fail
    go_ret
    exact ⟨zEt HX3.out HX4.out, .inl ⟨C, Ls, w3.heap.size, HMT.out.1, HMT.out.2.2, HMT.out.2.1, HZ.out.1 (by trivial), HGB.out, rfl, HX3.out.size, HT.out.at_ HX2.out.size HZ3.out HX4.out HB4.out⟩⟩
   | false =>
    go_wp2_with fail
    refine (tgiveUp_any _).mono ?_
    rintro x' w' ⟨rfl, rfl⟩
    refine ⟨rfl, zEt HX3.out HX4.out, .inr ⟨rfl, fun L h => ?_⟩⟩
    have e := HALL.out L h
    obtain ⟨hm, C', hf', hc', hb'⟩ := h
    subst e
    have e2 : C = C' := cut_unique HMT.out.2.2 hc' (HMT.out.2.1.trans hf'.symm)
    subst e2
    exact absurd (HZ.out.2 hb') (by decide)
 · have HX3 : Hid (Ext w w3) := zEt HX2.out hx3
   have HMT := zHd hm
   unfold tbcells
   clear hx3 hm HM
   go_upto_region 2 with (fail)
   obtain ⟨w4, hw4⟩ : ∃ w4, w4 = w3.alloc (.cells #[.slice none 0 0, .slice none 0 0, .slice none 0 0, .slice none 0 0, .slice none 0 0, .bool false] 87) := ⟨_, rfl⟩
   rw [← hw4]
   have HX4 : Hid (Ext w3 w4) := by rw [hw4]; exact ext_alloc _ _
   have HB4 : Hid (w4.heap[w3.heap.size]? = some (.cells #[.slice none 0 0, .slice none 0 0, .slice none 0 0, .slice none 0 0, .slice none 0 0, .bool false] 87 (0, 0))) := by rw [hw4]; exact heap_at _ _ rfl
   have c0 := cell_of HB4.out (k := 0) rfl
   have HEQ := zHd (bequal_any (Bs.nil w4 0 0) (HV.out.below (zEt HX3.out HX4.out) HHI.out) (fun x hx => by cases hx) HB.out)
   clear hw4
   go_wp2_with fail
   refine HEQ.out.mono ?_
   rintro x w5 ⟨⟨z, hz, rfl⟩, rfl⟩
   obtain rfl : z = false := by
    cases z with
    | false => rfl
    | true => have := congrArg List.length (hz.1 rfl); have := H28.out; simp at *; omega
   clear hz c0
   go_wp2_with fail
   refine (tgiveUp_any _).mono ?_
   rintro x' w' ⟨rfl, rfl⟩
   refine ⟨rfl, zEt HX3.out HX4.out, .inr ⟨rfl, fun L h => ?_⟩⟩
   have e := HALL.out L h
   subst e
   exact HMT.out h.1
theorem tcatch_panicking (p q : Nat) (v0 v1 : Value) (u : TypeId) (pv : Value) (older : List PanicEntry) (w : World) (hp : Boxed w p 24 v0) (hq : Boxed w q 25 v1) (hne : p ≠ q) :
    CallsD Tryz.prog 34 #[.pointer (some ⟨p, 0, none⟩), .pointer (some ⟨q, 0, none⟩)] (.panicking ({ v := .iface u pv, recovered := false } :: older)) w fun e u' w' =>
     e = .returned (.tuple #[]) ∧ u' = .panicking ({ v := .iface u pv, recovered := true } :: older) ∧ w' = (w.setCell ⟨p, 0, none⟩ (.pointer none)).setCell ⟨q, 0, none⟩ (.int .i64 10) := by
 have hc := hp.cell
 have hz := hp.frozen
 have hq2 : Boxed (w.setCell ⟨p, 0, none⟩ (.pointer none)) q 25 v1 := (Below.heap_setCell _ _ _ _ (by exact fun e => hne e.symm)).trans hq
 have hc2 := hq2.cell
 have hz2 := hq2.frozen
 refine callsD_of_wpS Tryz.func34 rfl fun c₀ cs hu => ?_
 apply wpS_seq
 apply wpS_region
 simp [wpOpsS, go_sem, recoverD, hu, Tryz.ntmps34, Exit.thenS]
 refine wpS_cond (t := true) (by simp [Act.eval, Array.replicate]) ?_
 simp only [if_true]
 apply wpS_region
 simp [wpOpsS, go_sem, hc, hz, hc2, hz2, bodyPostS, results, Tryz.results34]
theorem tcatch_idle (p q : Nat) (w : World) :
    CallsD Tryz.prog 34 #[.pointer (some ⟨p, 0, none⟩), .pointer (some ⟨q, 0, none⟩)] .returning w fun e u' w' => e = .returned (.tuple #[]) ∧ u' = .returning ∧ w' = w := by
 refine callsD_of_wpS Tryz.func34 rfl fun c₀ cs hu => ?_
 apply wpS_seq
 apply wpS_region
 simp [wpOpsS, go_sem, recoverD, hu, Tryz.ntmps34, Exit.thenS]
 refine wpS_cond (t := false) (by simp [Act.eval, Array.replicate]) ?_
 simp only [Bool.false_eq_true, if_false]
 refine wpS_of_wp (wp_skip ?_)
 cases c₀
 simp_all [bodyPostS, results, Tryz.results34]
def TOpenAns (w : World) (b : List Nat) (x : Ending) (w' : World) : Prop :=
 Ext w w' ∧ ((∃ (C : List (List Ent)) (L : List Ent) (g : Nat), MayT L ∧ Cuts C ∧ C.flatten = L ∧ tb C L = b ∧ (∀ e ∈ L, (∀ x ∈ e.key, x < 256) ∧ ∀ x ∈ e.val, x < 256) ∧ x = .returned (.tuple #[.pointer (some ⟨g, 0, none⟩), .int .i64 0]) ∧ w.heap.size ≤ g ∧ TAt w' w.heap.size g C L (.slice none 0 0) (.slice none 0 0) false) ∨
  ((∀ L, ¬ IsT b L) ∧ x = .returned (.tuple #[.pointer none, .int .i64 10])))
theorem results_topen (tmps : Array Value) (w : World) (g k : Nat) (v v' : Value) (hp : tmps.getD 2 undef = .pointer (some ⟨g, 0, none⟩)) (hq : tmps.getD 3 undef = .pointer (some ⟨k, 0, none⟩)) (hc : w.cell? ⟨g, 0, none⟩ = some v) (hc' : w.cell? ⟨k, 0, none⟩ = some v') :
    (results Tryz.f7 tmps).run Tryz.prog w = .ok (.tuple #[v, v']) w := by
 simp only [results, Tryz.results7]
 have hp' : tmps[2]?.getD undef = .pointer (some ⟨g, 0, none⟩) := by simpa using hp
 have hq' : tmps[3]?.getD undef = .pointer (some ⟨k, 0, none⟩) := by simpa using hq
 simp [Sem.run_bind, hp', hq', go_sem, hc, hc']
set_option maxRecDepth 100000 in
set_option maxHeartbeats 4000000 in
theorem topen_any {w : World} {lo hi c : Nat} {A : Option Addr} {b : List Nat} (hv : Bs w lo hi (.slice A b.length c) b) (hhi : hi ≤ w.heap.size) (hb : ∀ x ∈ b, x < 256) (hl : b.length ≤ 1000000000) :
    Calls Tryz.prog 7 #[.slice A b.length c] w (TOpenAns w b) := by
 obtain ⟨w1, hw1⟩ : ∃ w1, w1 = (w.alloc (.cells #[.pointer none] 24)).alloc (.cells #[.int .i64 0] 25) := ⟨_, rfl⟩
 have HX1 : Hid (Ext w w1) := by rw [hw1]; exact zEt (ext_alloc _ _) (ext_alloc _ _)
 have HA1 : Hid (Boxed w1 w.heap.size 24 (.pointer none)) := by rw [hw1]; exact ext_heap (ext_alloc _ _) (heap_at _ _ rfl)
 have HB1 : Hid (Boxed w1 (w.heap.size + 1) 25 (.int .i64 0)) := by rw [hw1]; exact heap_at _ _ (by simp)
 have HT := zHd (topened_any (hv.below HX1.out hhi) (zNt hhi HX1.out.size) hb hl)
 have HZ1 : Hid (w1.heap.size = w.heap.size + 2) := by rw [hw1]; simp [Hid]
 have hmf := mkf
 clear hv hhi hb hl
 go_enter_defers Tryz.func7, Tryz.ntmps7
 go_wp2_with fail
 rw [← hw1]
 clear hw1
 refine HT.out.mono ?_
 rintro x w2 ⟨hx2, (⟨C, L, g, hm, hc, hf, htb, hgd, rfl, hgl, hat⟩ | ⟨rfl, hno⟩)⟩
 · have HX2 := zHd hx2
   have HIS := zHd (And.intro hm (And.intro hc (And.intro hf (And.intro htb hgd))))
   have HG := zHd hat
   have HGL := zHd hgl
   have ha : Boxed w2 w.heap.size 24 (.pointer none) := ext_heap hx2 HA1.out
   have hb : Boxed w2 (w.heap.size + 1) 25 (.int .i64 0) := ext_heap hx2 HB1.out
   have HA2 := zHd ha
   have q0 := ha.cell
   have q1 := ha.frozen
   have hb2 : Boxed (w2.setCell ⟨w.heap.size, 0, none⟩ (.pointer (some ⟨g, 0, none⟩))) (w.heap.size + 1) 25 (.int .i64 0) := (Below.heap_setCell _ _ _ _ (by show w.heap.size + 1 ≠ w.heap.size; omega)).trans hb
   have q2 := hb2.cell
   have q3 := hb2.frozen
   have HB3 := zHd hb2
   clear hx2 hm hc hf htb hgd hgl hat ha hb hb2
   go_wp2_with fail
   obtain ⟨w3, hw3⟩ : ∃ w3, w3 = (w2.setCell ⟨w.heap.size, 0, none⟩ (.pointer (some ⟨g, 0, none⟩))).setCell ⟨w.heap.size + 1, 0, none⟩ (.int .i64 0) := ⟨_, rfl⟩
   rw [← hw3]
   have ha3 : Boxed w3 w.heap.size 24 (.pointer (some ⟨g, 0, none⟩)) := by rw [hw3]; exact (Below.heap_setCell _ _ _ _ (by show w.heap.size ≠ w.heap.size + 1; omega)).trans (HA2.out.set _)
   have hb3 : Boxed w3 (w.heap.size + 1) 25 (.int .i64 0) := by rw [hw3]; exact HB3.out.set _
   have hc3 : Chg (fun i => i = w.heap.size ∨ i = w.heap.size + 1) w2 w3 := by rw [hw3]; exact (Chg.setCell _ _ _ (.inl rfl)).trans (Chg.setCell _ _ _ (.inr rfl))
   have hx : Ext w w3 := Below.trans (zEt HX1.out HX2.out) (hc3.below (fun i h => by omega) (zEt HX1.out HX2.out).size)
   refine leaves_cons (f := 34) (args := #[.pointer (some ⟨w.heap.size, 0, none⟩), .pointer (some ⟨w.heap.size + 1, 0, none⟩)]) (by simp) (by simp [go_sem]) ?_
   refine (tcatch_idle _ _ _).mono ?_
   rintro e u' w4 ⟨rfl, rfl, rfl⟩
   refine ⟨_, results_topen _ _ _ _ _ _ rfl rfl ha3.cell hb3.cell, hx, .inl ⟨C, L, g, HIS.out.1, HIS.out.2.1, HIS.out.2.2.1, HIS.out.2.2.2.1, HIS.out.2.2.2.2, rfl, zNt HX1.out.size HGL.out, ?_⟩⟩
   rw [hw3]
   exact ((HG.out.set HGL.out (by show w.heap.size < w1.heap.size; have := HZ1.out; omega) _).set HGL.out (by show w.heap.size + 1 < w1.heap.size; have := HZ1.out; omega) _).low HX1.out.size
 · have HX2 := zHd hx2
   have HNO := zHd hno
   have ha : Boxed w2 w.heap.size 24 (.pointer none) := ext_heap hx2 HA1.out
   have hb : Boxed w2 (w.heap.size + 1) 25 (.int .i64 0) := ext_heap hx2 HB1.out
   refine leaves_cons (f := 34) (args := #[.pointer (some ⟨w.heap.size, 0, none⟩), .pointer (some ⟨w.heap.size + 1, 0, none⟩)]) (by simp) (by simp [go_sem]) ?_
   refine (tcatch_panicking _ _ _ _ _ _ [] _ ha hb (by omega)).mono ?_
   rintro e u' w4 ⟨rfl, rfl, hw4⟩
   have ha3 : Boxed w4 w.heap.size 24 (.pointer none) := by rw [hw4]; exact (Below.heap_setCell _ _ _ _ (by show w.heap.size ≠ w.heap.size + 1; omega)).trans (ha.set _)
   have hb3 : Boxed w4 (w.heap.size + 1) 25 (.int .i64 10) := by
    rw [hw4]
    have h1 : Boxed (w2.setCell ⟨w.heap.size, 0, none⟩ (.pointer none)) (w.heap.size + 1) 25 (.int .i64 0) := (Below.heap_setCell _ _ _ _ (by show w.heap.size + 1 ≠ w.heap.size; omega)).trans hb
    exact h1.set _
   have hc3 : Chg (fun i => i = w.heap.size ∨ i = w.heap.size + 1) w2 w4 := by rw [hw4]; exact (Chg.setCell _ _ _ (.inl rfl)).trans (Chg.setCell _ _ _ (.inr rfl))
   have hx : Ext w w4 := Below.trans (zEt HX1.out HX2.out) (hc3.below (fun i h => by omega) (zEt HX1.out HX2.out).size)
   exact ⟨_, results_topen _ _ _ _ _ _ rfl rfl ha3.cell hb3.cell, hx, .inr ⟨HNO.out, rfl⟩⟩
end Go.Proofs.YtkdidghfcfcpfaaGreat
namespace Go.Proofs.YtkdidghfcfcpfaaGreat.Bl
open Go.ChangeShapes Go.WideShapes Go.ChangeAt Go.RowKit
theorem zeros5 (w : World) : IArr (w.alloc (.cells #[.int .i64 0, .int .i64 0, .int .i64 0, .int .i64 0, .int .i64 0] 131)) w.heap.size 131 [0, 0, 0, 0, 0] := heap_alloc_new _ _
theorem and_u8 {x y : Nat} (h : x < 256) (k : y < 256) : bits .and .u8 (x : Int) (y : Int) = ((x &&& y : Nat) : Int) := by
 have hx : x &&& y < 2 ^ 8 := Nat.and_lt_two_pow _ (by omega)
 have h1 : (BitVec.ofInt 8 (x : Int)).toNat = x := by
  rw [BitVec.ofInt_natCast, BitVec.toNat_ofNat]; exact Nat.mod_eq_of_lt (by omega)
 have h2 : (BitVec.ofInt 8 (y : Int)).toNat = y := by
  rw [BitVec.ofInt_natCast, BitVec.toNat_ofNat]; exact Nat.mod_eq_of_lt (by omega)
 show IntKind.u8.wrap ((BitVec.ofInt 8 (x : Int) &&& BitVec.ofInt 8 (y : Int)).toNat : Int) = _
 rw [BitVec.toNat_and, h1, h2]
 simp only [IntKind.wrap, IntKind.signed, IntKind.bits]
 simp
 omega
theorem mask_and {x : Nat} (h : x < 256) (j : Nat) : (((x &&& 2 ^ (j % 8) : Nat) : Int) != 0) = (x / 2 ^ (j % 8) % 2 == 1) := by
 have h2 := byte_and x h (j % 8) (Nat.mod_lt _ (by decide))
 have e : (((x &&& 2 ^ (j % 8) : Nat) : Int) != 0) = !(x &&& 2 ^ (j % 8) == 0) := by
  cases h3 : (x &&& 2 ^ (j % 8) == 0) with
  | true => rw [beq_iff_eq] at h3; rw [h3]; rfl
  | false =>
   have : x &&& 2 ^ (j % 8) ≠ 0 := by intro h4; rw [h4] at h3; cases h3
   simp
   omega
 rw [e, h2, Bool.not_not]
theorem bit_at {F : List Nat} {j : Nat} (h : j / 8 < F.length) : bitOf F j = (F[j / 8] / 2 ^ (j % 8) % 2 == 1) := by
 unfold bitOf
 rw [List.getD_eq_getElem?_getD, List.getElem?_eq_getElem h]
 rfl
theorem hasin_any (A : Option Addr) (n c : Nat) (w : World) : Calls Tryz.prog 90 #[.slice A n c] w fun e w' =>
    e = .returned (.func (.func 113) #[] #[.pointer (some ⟨w.heap.size, 0, none⟩)]) ∧ w' = w.alloc (.cells #[.slice A n c] 22) := by
 go_enter Tryz.func90, Tryz.ntmps90
 go_wp2_with fail
 go_ret
 exact ⟨rfl, rfl⟩
set_option maxRecDepth 100000 in
set_option maxHeartbeats 4000000 in
theorem hasone_any {w : World} {lo hi b c : Nat} {A : Option Addr} {F : List Nat} {j : Nat} (hc : w.cell? ⟨b, 0, none⟩ = some (.slice A F.length c)) (hu : Bs w lo hi (.slice A F.length c) F) (hF : ∀ x ∈ F, x < 256) (hj : j < 8 * F.length) (hl : F.length ≤ 131072) :
    Calls Tryz.prog 113 #[.int .i64 (j : Int), .pointer (some ⟨b, 0, none⟩)] w fun e w' => e = .returned (.bool (bitOf F j)) ∧ Ext w w' := by
 obtain ⟨q, hq⟩ : ∃ q, q = j / 8 := ⟨_, rfl⟩
 have hqn : q < F.length := by omega
 obtain ⟨x, hx⟩ : ∃ x, x = F[q] := ⟨_, rfl⟩
 have HX8 : Hid (x < 256) := by rw [hx]; exact hF _ (List.getElem_mem _)
 have HBT : Hid (bitOf F j = (x / 2 ^ (j % 8) % 2 == 1)) := by subst hq; rw [hx]; exact bit_at hqn
 have HMA := zHd (mask_and HX8.out j)
 obtain ⟨A', c', he, _, _, _, hby⟩ := hu
 injection he with e1 _ e3
 subst e1 e3
 obtain ⟨g, o, rfl, _, _, c0⟩ := hby.at_ hqn
 rw [← hx] at c0
 have HJ8 : Hid ((j : Int) / 8 = (q : Int)) := by rw [hq]; unfold Hid; omega
 have HWQ : Hid (IntKind.i64.wrap (q : Int) = (q : Int)) := IntWalk.i64_in _ (by omega)
 obtain ⟨M, hM⟩ : ∃ M, M = 2 ^ (j % 8) := ⟨_, rfl⟩
 have HAN := zHd (and_u8 HX8.out (show M < 256 by rw [hM]; exact pow8 j))
 have HMK := zHd (fun W => mask_any j (by omega) W)
 rw [← hM] at HMK HMA HBT
 obtain ⟨z, hz⟩ : ∃ z, z = (x / M % 2 == 1) := ⟨_, rfl⟩
 rw [← hz] at HMA HBT
 have hqi : (q : Int) < (F.length : Int) := by omega
 have hji : (j : Int) ≤ 1048576 := by omega
 clear hq hx hM hz hby hF hj hl
 go_enter Tryz.func113, Tryz.ntmps113
 go_upto_region 1 with (fail)
 refine flow (by kernel_rfl) [Is (.slice (some ⟨g, o, none⟩) F.length c), Is (.int .i64 (j : Int)), Is (.int .i64 (q : Int)), Is (.pointer (some ⟨g, o + q, none⟩)), Is (.int .u8 (x : Int)), Is (.int .i64 (j : Int)), Is (.int .u8 (M : Int)), Is (.int .u8 ((x &&& M : Nat) : Int)), Is (.bool z), Is (.bool z)] (by kernel_rfl) (by kernel_rfl) ?mono (fun f1 => ?obl) ?fin
 case mono =>
  simp only [List.forall_mem_cons, List.not_mem_nil, false_imp_iff, implies_true, and_true]
  and_intros <;> exact .is _
 case fin =>
  intro g1 u hu hg
  simp only [puts, Act.put, zq]
  have h9 : g1 9 = _ := hg 9 (by decide)
  rw [h9]
  clear hg
  go_wp2_with fail
  go_ret
  exact ⟨by rw [HBT.out]; rfl, zEt (Ext.drew w) hu⟩
 case obl =>
  refine ⟨fun u hu hd => ?_, fun u hu hd => ?_, fun u hu hd => ?_, fun u hu hd => ?_, fun u hu hd => ?_, fun u hu hd => ?_, fun u hu hd => ?_, fun u hu hd => ?_, fun u hu hd => ?_, fun u hu hd => ?_, trivial⟩
  all_goals try simp only [Act.put, zq]
  · have hu2 := zEt (Ext.drew w) hu
    have q0 := ext_cell hu2 hc
    go_simp
    exact zEr
  · go_simp
    exact zEr
  · have e1 : f1 1 = _ := hd 1 (by kernel_rfl)
    have q1 := HJ8.out
    have q2 := HWQ.out
    go_simp
    exact zEr
  · have e0 : f1 0 = _ := hd 0 (by kernel_rfl)
    have e2 : f1 2 = _ := hd 2 (by kernel_rfl)
    go_simp
    exact zEr
  · have e3 : f1 3 = _ := hd 3 (by kernel_rfl)
    have hu2 := zEt (Ext.drew w) hu
    have q0 := ext_cell hu2 c0
    go_simp
    exact zEr
  · go_simp
    exact zEr
  · have e5 : f1 5 = _ := hd 5 (by kernel_rfl)
    go_simp
    refine (HMK.out u).mono ?_
    rintro y w9 ⟨rfl, rfl⟩
    exact ⟨_, rfl, Ext.refl _, rfl⟩
  · have e4 : f1 4 = _ := hd 4 (by kernel_rfl)
    have e6 : f1 6 = _ := hd 6 (by kernel_rfl)
    have q1 := HAN.out
    go_simp
    exact zEr
  · have e7 : f1 7 = _ := hd 7 (by kernel_rfl)
    have q1 := HMA.out
    go_simp
    exact zEr
  · have e8 : f1 8 = _ := hd 8 (by kernel_rfl)
    go_simp
    exact zEr
set_option maxRecDepth 100000 in
set_option maxHeartbeats 4000000 in
theorem may_any {u v : Value} {lo hi lo2 hi2 : Nat} {F l : List Nat} {w : World} (hu : Bs w lo hi u F) (hhi : hi ≤ w.heap.size) (hF : ∀ x ∈ F, x < 256) (hv : Bs w lo2 hi2 v l) (hhi2 : hi2 ≤ w.heap.size) (hl : ∀ x ∈ l, x < 256) :
    Calls Tryz.prog 55 #[u, v] w fun e w' => e = .returned (.bool (!okF F.length || mayB F l)) ∧ Ext w w' := by
 have HU := zHd hu
 have HV := zHd hv
 have HF := zHd hF
 have HL := zHd hl
 obtain ⟨A, c, rfl, q1, q2, _, _⟩ := hu
 have HC := zHd (check_any (w := w) (A := A) (n := F.length) (c := c) (by unfold maxLen at q2; omega))
 clear q1 q2 hv hF hl
 cases hok : okF F.length with
 | false =>
  have e4 : chk F.length = 4 := by unfold chk; rw [hok]; rfl
  rw [e4] at HC
  clear hok e4
  go_enter Tryz.func55, Tryz.ntmps55
  go_wp2_with fail
  refine Calls.mono HC.out ?_
  rintro e w2 ⟨rfl, rfl⟩
  go_wp2_with fail
  go_ret
  exact ⟨rfl, Ext.refl _⟩
 | true =>
  have e4 : chk F.length = 0 := by unfold chk; rw [hok]; rfl
  obtain ⟨n0, _, n1⟩ := okF_iff.1 hok
  rw [e4] at HC
  clear hok e4
  have HN0 : Hid (0 < F.length) := Nat.pos_of_ne_zero n0
  have HN1 := zHd n1
  clear n0 n1
  go_enter Tryz.func55, Tryz.ntmps55
  go_wp2_with fail
  refine Calls.mono HC.out ?_
  rintro e w2 ⟨rfl, rfl⟩
  go_wp2_with fail
  have hwl : wrap64 ((F.length : Int) * 8) = ((8 * F.length : Nat) : Int) := by unfold wrap64; have := HN1.out; omega
  have hl8 : (F.length : Int) * 8 = ((8 * F.length : Nat) : Int) := by omega
  have HWL := zHd hl8
  have hli : (F.length : Int) ≤ 131072 := by have := HN1.out; omega
  clear hwl hl8
  refine (hasin_any A F.length c w).mono ?_
  rintro e w1 ⟨rfl, hw1⟩
  have HX1 : Hid (Ext w w1) := by rw [hw1]; exact ext_alloc _ _
  have HB1 : Hid (w1.cell? ⟨w.heap.size, 0, none⟩ = some (.slice A F.length c)) := by rw [hw1]; exact cell_of (heap_at _ _ rfl) rfl
  have HP := zHd (places_any v lo2 hi2 l (8 * F.length) w1 (HV.out.below HX1.out hhi2) (zNt hhi2 HX1.out.size) HL.out (by have := HN0.out; omega) (by have := HN1.out; omega))
  clear hw1
  go_wp2_with fail
  rw [HWL.out]
  refine Calls.mono HP.out ?_
  rintro e w2 ⟨rfl, hb⟩
  have HX2 : Hid (Ext w1 w2) := hb
  clear hb
  go_wp2_with fail
  go_loopw [18] (fun i wr => ∃ k : Nat, k ≤ 5 ∧ i = .int .i64 (k : Int) ∧ Hid (∀ j ∈ (kbs l (8 * F.length)).take k, bitOf F j = true) ∧ Hid (Ext w1 wr)) (fun i _ => 5 - (intOf i).toNat)
  case atStart => exact ⟨0, by omega, rfl, zHd (by simp), HX2⟩
  case round =>
   obtain ⟨k, hk, rfl, HAL, HXK⟩ := hrel
   by_cases hlt : k < 5
   · obtain ⟨j, hj⟩ : ∃ j, j = kb l (8 * F.length) k := ⟨_, rfl⟩
     have hkj : (kbs l (8 * F.length))[k]'(by rw [kbs_length]; exact hlt) = j := by rw [kbs_get, hj]
     have HMEM : Hid (j ∈ kbs l (8 * F.length)) := by rw [← hkj]; exact List.getElem_mem _
     have HTK : Hid ((kbs l (8 * F.length)).take (k + 1) = (kbs l (8 * F.length)).take k ++ [j]) := by rw [List.take_succ_eq_append_getElem (by rw [kbs_length]; exact hlt), hkj]; exact rfl
     have hix := irow_index (kbs_length l (8 * F.length)) hlt
     rw [hkj] at hix
     have HW : Hid (Ext w wr) := zEt HX1.out HXK.out
     have HONE := zHd (hasone_any (j := j) (ext_cell HXK.out HB1.out) (HU.out.below HW.out hhi) HF.out (by rw [hj]; exact kb_lt (by have := HN0.out; omega)) HN1.out)
     obtain ⟨z, hz⟩ : ∃ z, z = bitOf F j := ⟨_, rfl⟩
     rw [← hz] at HONE
     have HZ := zHd hz
     clear hj hkj hz
     go_wp2_with fail
     refine Calls.mono HONE.out ?_
     rintro e w5 ⟨rfl, hb⟩
     have HX5 : Hid (Ext w1 w5) := zEt HXK.out hb
     clear hb hix
     cases z with
     | false =>
      have HFL : Hid (mayB F l = false) := by
       unfold mayB Hid
       rw [List.all_eq_false]
       exact ⟨j, HMEM.out, by rw [← HZ.out]; decide⟩
      go_wp2_with fail
      go_ret
      exact ⟨by rw [HFL.out]; rfl, zEt HX1.out HX5.out⟩
     | true =>
      go_wp2_with fail
      go_roundw
      case rel =>
       refine ⟨k + 1, by omega, by go_num, zHd (fun i hi => ?_), HX5⟩
       rw [HTK.out] at hi
       rcases List.mem_append.1 hi with h | h
       · exact HAL.out i h
       · rw [List.mem_singleton] at h; rw [h]; exact HZ.out.symm
      case measure => simp [intOf]; omega
   · obtain rfl : k = 5 := by omega
     have HTR : Hid (mayB F l = true) := by
      unfold mayB Hid
      rw [List.all_eq_true]
      intro j hj
      exact HAL.out j (by rw [List.take_of_length_le (by rw [kbs_length]; exact zNr _)]; exact hj)
     go_wp2_with fail
     go_ret
     exact ⟨by rw [HTR.out]; rfl, zEt HX1.out HXK.out⟩
end Go.Proofs.YtkdidghfcfcpfaaGreat.Bl
namespace Go.Proofs.YtkdidghfcfcpfaaGreat
open Go.ChangeShapes Go.WideShapes Go.ChangeAt Go.RowKit
def endsV (tt : List Nat) (en : Bool) (k : List Nat) : Bool := en && decide (cmpK tt k ≤ 0)
def hasV (fr tt : List Nat) (en : Bool) (k : List Nat) : Bool := decide (cmpK fr k ≤ 0) && !endsV tt en k
structure TV (w : World) (g : Nat) (C : List (List Ent)) (L : List Ent) (fr tt : List Nat) (en : Bool) : Prop where
 may : MayT L
 cuts : Cuts C
 flat : C.flatten = L
 at_ : ∃ (fA : Option Addr) (fc : Nat) (tA : Option Addr) (tc : Nat), TAt w 0 g C L (.slice fA fr.length fc) (.slice tA tt.length tc) en ∧ Bs w 0 w.heap.size (.slice fA fr.length fc) fr ∧ Bs w 0 w.heap.size (.slice tA tt.length tc) tt
 bf : ∀ x ∈ fr, x < 256
 bt : ∀ x ∈ tt, x < 256
 good : ∀ e ∈ L, (∀ x ∈ e.key, x < 256) ∧ ∀ x ∈ e.val, x < 256
theorem TV.ext {w w' : World} {g : Nat} {C : List (List Ent)} {L : List Ent} {fr tt : List Nat} {en : Bool} (h : TV w g C L fr tt en) (hx : Ext w w') : TV w' g C L fr tt en := by
 obtain ⟨fA, fc, tA, tc, h1, h2, h3⟩ := h.at_
 exact ⟨h.may, h.cuts, h.flat, ⟨fA, fc, tA, tc, h1.ext hx, bs_next h2 hx, bs_next h3 hx⟩, h.bf, h.bt, h.good⟩
theorem TV.whole {w : World} {lo g : Nat} {C : List (List Ent)} {L : List Ent} (hm : MayT L) (hc : Cuts C) (hf : C.flatten = L) (hb : ∀ e ∈ L, (∀ x ∈ e.key, x < 256) ∧ ∀ x ∈ e.val, x < 256) (h : TAt w lo g C L (.slice none 0 0) (.slice none 0 0) false) : TV w g C L [] [] false :=
 ⟨hm, hc, hf, ⟨none, 0, none, 0, h.low (Nat.zero_le _), Bs.nil _ _ _, Bs.nil _ _ _⟩, (fun x hx => by cases hx), (fun x hx => by cases hx), hb⟩
theorem TV.some_ {w : World} {g : Nat} {C : List (List Ent)} {L : List Ent} {fr tt : List Nat} {en : Bool} (h : TV w g C L fr tt en) : 1 ≤ C.length ∧ C.length ≤ 4096 := by
 refine ⟨?_, (few h.may h.cuts h.flat).c⟩
 rcases C with _ | ⟨p, C⟩
 · have := h.may.1; rw [← h.flat] at this; simp at this
 · simp
set_option maxRecDepth 100000 in
theorem tnone_any {w : World} {g : Nat} {C : List (List Ent)} {L : List Ent} {fr tt : List Nat} {en : Bool} (h : TV w g C L fr tt en) :
    Calls Tryz.prog 41 #[.pointer (some ⟨g, 0, none⟩)] w fun x w' => x = .returned (.bool false) ∧ w' = w := by
 obtain ⟨fA, fc, tA, tc, ⟨bv_, fv_, PA, pc, P, h1, _, _, _, _, h6⟩, _, _⟩ := h.at_
 have hl := congrArg List.length h6
 rw [List.length_map, pls_length] at hl
 unfold tbcells at h1
 have c1 := cell_of h1 (k := 1) rfl
 have dz : ((P.length : Int) == 0) = false := by rw [beq_eq_false_iff_ne]; have := h.some_.1; omega
 have dz2 : (P.length == 0) = false := by rw [beq_eq_false_iff_ne]; have := h.some_.1; omega
 have hz : ¬ P = [] := fun e => by rw [e] at hl; have := h.some_.1; simp at hl; omega
 clear h h1 h6 hl
 go_enter Tryz.func41, Tryz.ntmps41
 go_wp2_with fail
 go_ret
 exact ⟨rfl, rfl⟩
set_option maxRecDepth 100000 in
theorem tblocks_any {w : World} {g : Nat} {C : List (List Ent)} {L : List Ent} {fr tt : List Nat} {en : Bool} (h : TV w g C L fr tt en) :
    Calls Tryz.prog 13 #[.pointer (some ⟨g, 0, none⟩)] w fun x w' => x = .returned (.int .i64 (C.length : Int)) ∧ w' = w := by
 have HN := zHd (tnone_any h)
 obtain ⟨fA, fc, tA, tc, ⟨bv_, fv_, PA, pc, P, h1, _, _, _, _, h6⟩, _, _⟩ := h.at_
 have hl := congrArg List.length h6
 rw [List.length_map, pls_length] at hl
 unfold tbcells at h1
 have c1 := cell_of h1 (k := 1) rfl
 rw [hl] at c1
 clear h h1 h6 hl
 go_enter Tryz.func13, Tryz.ntmps13
 go_wp2_with fail
 refine HN.out.mono ?_
 rintro x w1 ⟨rfl, rfl⟩
 go_wp2_with fail
 go_ret
 exact ⟨rfl, rfl⟩
set_option maxRecDepth 100000 in
theorem tbytes_any {w : World} {g : Nat} {C : List (List Ent)} {L : List Ent} {fr tt : List Nat} {en : Bool} (h : TV w g C L fr tt en) :
    Calls Tryz.prog 15 #[.pointer (some ⟨g, 0, none⟩)] w (NewBy w (tb C L)) := by
 have HN := zHd (tnone_any h)
 have hf := few h.may h.cuts h.flat
 obtain ⟨fA, fc, tA, tc, ⟨bv_, fv_, PA, pc, P, h1, h2, _, _, _, _⟩, _, _⟩ := h.at_
 unfold tbcells at h1
 have c0 := cell_of h1 (k := 0) rfl
 have HC := zHd (clone_any _ _ _ _ _ h2 (zNr _) (by rw [tb_len]; have := hf.a; omega))
 obtain ⟨A, c, rfl, _⟩ := h2
 clear h h1 hf
 go_enter Tryz.func15, Tryz.ntmps15
 go_wp2_with fail
 refine HN.out.mono ?_
 rintro x w1 ⟨rfl, rfl⟩
 go_wp2_with fail
 refine HC.out.mono ?_
 rintro x w1 ⟨v, rfl, ho, hb⟩
 have HF := zHd (And.intro ho hb)
 clear ho hb
 go_wp2_with fail
 go_ret
 exact ⟨v, rfl, HF.out.1, HF.out.2⟩
set_option maxHeartbeats 1000000 in
theorem tends_any {w : World} {lo hi lo2 hi2 fc tc kc fn : Nat} {fA tA kA : Option Addr} {tt key : List Nat} {en : Bool} (ht : Bs w lo hi (.slice tA tt.length tc) tt) (hhi : hi ≤ w.heap.size) (bt : ∀ x ∈ tt, x < 256) (hk : Bs w lo2 hi2 (.slice kA key.length kc) key) (hhi2 : hi2 ≤ w.heap.size) (bk : ∀ x ∈ key, x < 256) :
    Calls Tryz.prog 45 #[.agg #[.slice fA fn fc, .slice tA tt.length tc, .bool en], .slice kA key.length kc] w fun x w' => x = .returned (.bool (endsV tt en key)) ∧ Ext w w' := by
 obtain ⟨w1, hw1⟩ : ∃ w1, w1 = w.alloc (.cells #[.slice fA fn fc, .slice tA tt.length tc, .bool en] 85) := ⟨_, rfl⟩
 have HX1 : Hid (Ext w w1) := by rw [hw1]; exact ext_alloc _ _
 have HB1 : Hid (w1.heap[w.heap.size]? = some (.cells #[.slice fA fn fc, .slice tA tt.length tc, .bool en] 85 (0, 0))) := by rw [hw1]; exact heap_at _ _ rfl
 have HK := zHd (keys_any (ht.below HX1.out hhi) (hk.below HX1.out hhi2) bt bk)
 have c1 := cell_of HB1.out (k := 1) rfl
 have c2 := cell_of HB1.out (k := 2) rfl
 clear ht hhi bt hk hhi2 bk
 cases en with
 | false =>
  go_enter Tryz.func45, Tryz.ntmps45
  go_upto_region 1 with (fail)
  rw [← hw1]
  clear hw1
  go_wp2_with fail
  go_ret
  exact ⟨rfl, HX1.out⟩
 | true =>
  obtain ⟨z, hz⟩ : ∃ z, z = cmpK tt key := ⟨_, rfl⟩
  have he : endsV tt true key = decide (z ≤ 0) := by unfold endsV; rw [hz]; rfl
  rw [he]
  rw [← hz] at HK
  obtain ⟨y, hy⟩ : ∃ y, y = decide (z ≤ 0) := ⟨_, rfl⟩
  have hy2 := hy.symm
  rw [hy2]
  clear hz he hy
  go_enter Tryz.func45, Tryz.ntmps45
  go_upto_region 1 with (fail)
  rw [← hw1]
  clear hw1
  go_wp2_with fail
  refine HK.out.mono ?_
  rintro x w2 ⟨rfl, rfl⟩
  go_wp2_with fail
  go_ret
  exact ⟨rfl, HX1.out⟩
set_option maxHeartbeats 1000000 in
theorem thas_any {w : World} {lo hi lo2 hi2 lo3 hi3 fc tc kc : Nat} {fA tA kA : Option Addr} {fr tt key : List Nat} {en : Bool} (hf : Bs w lo3 hi3 (.slice fA fr.length fc) fr) (hhi3 : hi3 ≤ w.heap.size) (bf : ∀ x ∈ fr, x < 256) (ht : Bs w lo hi (.slice tA tt.length tc) tt) (hhi : hi ≤ w.heap.size) (bt : ∀ x ∈ tt, x < 256) (hk : Bs w lo2 hi2 (.slice kA key.length kc) key) (hhi2 : hi2 ≤ w.heap.size) (bk : ∀ x ∈ key, x < 256) :
    Calls Tryz.prog 54 #[.agg #[.slice fA fr.length fc, .slice tA tt.length tc, .bool en], .slice kA key.length kc] w fun x w' => x = .returned (.bool (hasV fr tt en key)) ∧ Ext w w' := by
 obtain ⟨w1, hw1⟩ : ∃ w1, w1 = w.alloc (.cells #[.slice fA fr.length fc, .slice tA tt.length tc, .bool en] 85) := ⟨_, rfl⟩
 have HX1 : Hid (Ext w w1) := by rw [hw1]; exact ext_alloc _ _
 have HB1 : Hid (w1.heap[w.heap.size]? = some (.cells #[.slice fA fr.length fc, .slice tA tt.length tc, .bool en] 85 (0, 0))) := by rw [hw1]; exact heap_at _ _ rfl
 have HK := zHd (keys_any (hf.below HX1.out hhi3) (hk.below HX1.out hhi2) bf bk)
 have HE := zHd (tends_any (fA := fA) (fn := fr.length) (fc := fc) (en := en) (ht.below HX1.out hhi) (zNt hhi HX1.out.size) bt (hk.below HX1.out hhi2) (zNt hhi2 HX1.out.size) bk)
 have c0 := cell_of HB1.out (k := 0) rfl
 have c1 := cell_of HB1.out (k := 1) rfl
 have c2 := cell_of HB1.out (k := 2) rfl
 obtain ⟨z, hz⟩ : ∃ z, z = cmpK fr key := ⟨_, rfl⟩
 obtain ⟨q, hq⟩ : ∃ q, q = endsV tt en key := ⟨_, rfl⟩
 have he : hasV fr tt en key = (decide (z ≤ 0) && !q) := by unfold hasV; rw [hz, hq]
 rw [he]
 rw [← hz] at HK
 rw [← hq] at HE
 clear hz hq he hf hhi3 bf ht hhi bt hk hhi2 bk
 by_cases hle : z ≤ 0
 · have d : decide (z ≤ 0) = true := decide_eq_true hle
   rw [d]
   go_enter Tryz.func54, Tryz.ntmps54
   go_upto_region 1 with (fail)
   rw [← hw1]
   clear hw1
   go_wp2_with fail
   refine HK.out.mono ?_
   rintro x w2 ⟨rfl, rfl⟩
   go_wp2_with fail
   refine HE.out.mono ?_
   rintro x w3 ⟨rfl, hx3⟩
   have HX3 := zHd (zEt HX1.out hx3)
   clear hx3
   go_wp2_with fail
   go_ret
   exact ⟨by cases q <;> rfl, HX3.out⟩
 · have d : decide (z ≤ 0) = false := decide_eq_false hle
   rw [d]
   go_enter Tryz.func54, Tryz.ntmps54
   go_upto_region 1 with (fail)
   rw [← hw1]
   clear hw1
   go_wp2_with fail
   refine HK.out.mono ?_
   rintro x w2 ⟨rfl, rfl⟩
   go_wp2_with fail
   go_ret
   exact ⟨rfl, HX1.out⟩
set_option maxRecDepth 100000 in
set_option maxHeartbeats 2000000 in
theorem tmay_any {w : World} {g : Nat} {C : List (List Ent)} {L : List Ent} {fr tt : List Nat} {en : Bool} {lo hi kc : Nat} {kA : Option Addr} {key : List Nat} (h : TV w g C L fr tt en) (hk : Bs w lo hi (.slice kA key.length kc) key) (hhi : hi ≤ w.heap.size) (bk : ∀ x ∈ key, x < 256) :
    Calls Tryz.prog 23 #[.pointer (some ⟨g, 0, none⟩), .slice kA key.length kc] w fun x w' => x = .returned (.bool (hasV fr tt en key && Bl.mayB (Bl.mk (keysT L)) key)) ∧ Ext w w' := by
 have HN := zHd (tnone_any h)
 have hFl : ∀ x ∈ Bl.mk (keysT L), x < 256 := Bl.mk_lt _
 have hok : Bl.okF (Bl.mk (keysT L)).length = true := by rw [Bl.mk_length]; exact Bl.okF_iff.2 ⟨by have := Bl.bsize_pos (keysT L).length; omega, Bl.bsize_mod _, zNt (Bl.bsize_le (zNt (keysTo_len L L.length) (by have := h.may.2.1; omega))) (by omega)⟩
 obtain ⟨fA, fc, tA, tc, ⟨bv_, fv_, PA, pc, P, h1, _, h3, _, _, _⟩, hbf, hbt⟩ := h.at_
 have HH := zHd (thas_any (en := en) hbf (zNr _) h.bf hbt (zNr _) h.bt hk hhi bk)
 have HM : Hid (∀ w', Ext w w' → Calls Tryz.prog 55 #[fv_, .slice kA key.length kc] w' fun e w'' => e = .returned (.bool (!Bl.okF (Bl.mk (keysT L)).length || Bl.mayB (Bl.mk (keysT L)) key)) ∧ Ext w' w'') := fun w' hx => Bl.may_any (h3.below hx (zNr _)) hx.size hFl (hk.below hx hhi) (zNt hhi hx.size) bk
 rw [hok] at HM
 obtain ⟨A, c, rfl, _⟩ := h3
 unfold tbcells at h1
 have c2 := cell_of h1 (k := 2) rfl
 have c3 := cell_of h1 (k := 3) rfl
 have c4 := cell_of h1 (k := 4) rfl
 have c5 := cell_of h1 (k := 5) rfl
 have HB := zHd h1
 obtain ⟨q, hq⟩ : ∃ q, q = hasV fr tt en key := ⟨_, rfl⟩
 obtain ⟨m, hm⟩ : ∃ m, m = Bl.mayB (Bl.mk (keysT L)) key := ⟨_, rfl⟩
 rw [← hq] at HH ⊢
 rw [← hm] at HM ⊢
 clear h h1 hbf hbt hk hhi bk hFl hok hq hm
 go_enter Tryz.func23, Tryz.ntmps23
 go_wp2_with fail
 refine HN.out.mono ?_
 rintro x w1 ⟨rfl, rfl⟩
 go_wp2_with fail
 refine HH.out.mono ?_
 rintro x w2 ⟨rfl, hx2⟩
 have HX2 := zHd hx2
 have d2 := cell_of (ext_heap hx2 HB.out) (k := 2) rfl
 have HM2 := zHd (HM.out w2 hx2)
 clear hx2 c2 c3 c4 c5
 cases q with
 | false =>
  go_wp2_with fail
  go_ret
  exact ⟨rfl, HX2.out⟩
 | true =>
  go_wp2_with fail
  refine HM2.out.mono ?_
  rintro x w3 ⟨rfl, hx3⟩
  have HX3 := zHd (zEt HX2.out hx3)
  clear hx3
  go_wp2_with fail
  go_ret
  exact ⟨by cases m <;> rfl, HX3.out⟩
theorem rtword_any (x : Nat) (hx : x < 4294967296) (w : World) : Calls Tryz.prog 65 #[.int .u32 (x : Int)] w fun e w' => ∃ A c, e = .returned (.slice A 4 c) ∧ Bs w' w.heap.size w'.heap.size (.slice A 4 c) (be4 x) ∧ Ext w w' := by
 have HX := zHd hx
 have HB := zHd (bs_be4 w x)
 clear hx
 go_enter Tryz.func65, Tryz.ntmps65
 go_wp2_with fail
 refine bodyPost_ret (results_tmp rfl _ _ _) rfl ?_
 exact ⟨_, _, rfl, HB.out.wide (zNr _) (by simp), ext_alloc _ _⟩
set_option maxRecDepth 100000 in
set_option maxHeartbeats 4000000 in
theorem rtmay_any {w : World} {lo hi c : Nat} {A : Option Addr} {L : List (Ent × Hd)} (h : Es w lo hi A L) (hhi : hi ≤ w.heap.size) (hlen : L.length ≤ 1000000) (hln : ∀ p ∈ L, p.1.key.length + p.1.val.length < 100000) :
    Calls Tryz.prog 18 #[.slice A L.length c] w fun x w' => ∃ z : Bool, (z = true ↔ MayT (L.map Prod.fst)) ∧ x = .returned (.bool z) ∧ Ext w w' := by
 have HMB : Hid (MayT (L.map Prod.fst) ↔ 1 ≤ L.length ∧ L.length ≤ 4096 ∧ Rise (L.map Prod.fst) ∧ (L.all fun p => p.1.may) = true) := by
  unfold MayT Hid
  rw [List.length_map, List.all_eq_true]
  refine ⟨fun ⟨h1, h2, h3, h4⟩ => ⟨h1, h2, h3, fun p hp => h4 _ (List.mem_map_of_mem hp)⟩, fun ⟨h1, h2, h3, h4⟩ => ⟨h1, h2, h3, fun e he => ?_⟩⟩
  obtain ⟨p, hp, rfl⟩ := List.mem_map.1 he
  exact h4 p hp
 have HR := zHd (rrises_any (c := c) h hhi hlen hln)
 clear h hhi hlen hln
 obtain ⟨n, hn⟩ : ∃ n, n = L.length := ⟨_, rfl⟩
 rw [← hn] at HMB HR ⊢
 clear hn
 by_cases h1 : 1 ≤ n
 · have d1 : decide ((1 : Int) ≤ (n : Int)) = true := by rw [decide_eq_true_eq]; omega
   have d1n : decide (1 ≤ n) = true := by rw [decide_eq_true_eq]; exact h1
   by_cases h2 : n ≤ 4096
   · have d2 : decide ((n : Int) ≤ 4096) = true := by rw [decide_eq_true_eq]; omega
     have d2n : decide (n ≤ 4096) = true := by rw [decide_eq_true_eq]; exact h2
     have H12 := zHd (And.intro h1 h2)
     clear h1 h2
     go_enter Tryz.func18, Tryz.ntmps18
     go_wp2_with fail
     refine HR.out.mono ?_
     rintro x w2 ⟨z, hz, rfl, hx⟩
     have HX := zHd hx
     have HZ := zHd hz
     clear hx hz
     go_wp2_with fail
     refine bodyPost_ret (results_tmp rfl _ _ _) rfl ?_
     exact ⟨z, ⟨fun h => HMB.out.2 ⟨H12.out.1, H12.out.2, HZ.out.1 h⟩, fun h => HZ.out.2 (HMB.out.1 h).2.2⟩, rfl, HX.out⟩
   · have d2 : decide ((n : Int) ≤ 4096) = false := by rw [decide_eq_false_iff_not]; omega
     have d2n : decide (n ≤ 4096) = false := by rw [decide_eq_false_iff_not]; exact h2
     have H2 := zHd h2
     clear h1 h2
     go_enter Tryz.func18, Tryz.ntmps18
     go_wp2_with fail
     refine bodyPost_ret (results_tmp rfl _ _ _) rfl ?_
     exact ⟨false, ⟨fun h => (by cases h), fun h => absurd (HMB.out.1 h).2.1 H2.out⟩, rfl, Ext.refl _⟩
 · have d1 : decide ((1 : Int) ≤ (n : Int)) = false := by rw [decide_eq_false_iff_not]; omega
   have d1n : decide (1 ≤ n) = false := by rw [decide_eq_false_iff_not]; exact h1
   have H1 := zHd h1
   clear h1
   go_enter Tryz.func18, Tryz.ntmps18
   go_wp2_with fail
   refine bodyPost_ret (results_tmp rfl _ _ _) rfl ?_
   exact ⟨false, ⟨fun h => (by cases h), fun h => absurd (HMB.out.1 h).1 H1.out⟩, rfl, Ext.refl _⟩
end Go.Proofs.YtkdidghfcfcpfaaGreat
