/- The document's own answers: words, lengths. -/
import Derived.Test.YtkaammdekalgnaaMput
import Derived.Test.YtkaammdekalgnaaMcref
import Derived.BigQuiet
namespace Go.Proofs.Ytkaammdekalgnaa
open Go.ChangeShapes Go.WideShapes Go.ChangeAt Go.RowKit

theorem own_lit (w : World) (l : List Nat) (hl : l.length ≤ 100) : Own w.heap.size l (.slice (some ⟨w.heap.size, 0, none⟩) l.length l.length) (w.alloc (.cells (bv l).toArray 5)) := by
  refine ⟨by simp [bv], .inr ⟨w.heap.size, l.length, _, rfl, Nat.le_refl _, heap_alloc_new w _, Nat.le_refl _, by unfold maxLen; omega, by simp [bv], ?_⟩⟩
  rw [List.toList_toArray, List.take_of_length_le (by simp [bv])]
theorem rword_any (n : Nat) (hn : n < 4294967296) (w : World) : Calls Try.prog 25 #[.int .u32 (n : Int)] w (NewBy w (be4 n)) := by
  have HN := Lib.hid hn
  have HO := Lib.hid (own_lit w (be4 n) (by simp [be4_length]))
  clear hn
  go_enter Try.func25, Try.ntmps25
  go_wp2_with fail
  go_ret
  exact ⟨_, rfl, HO.out, below_new _ _⟩

theorem rmay_any (n : Int) (w : World) : Calls Try.prog 28 #[.int .i64 n] w fun e w' => e = .returned (.bool (decide (1 ≤ n) && decide (n ≤ 1048576))) ∧ w = w' := by
  by_cases h : 1 ≤ n
  · have hd : decide (1 ≤ n) = true := by simp [h]
    obtain ⟨z, hz⟩ : ∃ z, decide (n ≤ 1048576) = z := ⟨_, rfl⟩
    rw [hd, hz]
    clear h
    go_enter Try.func28, Try.ntmps28
    go_wp2_with fail
    go_ret
    exact ⟨by simp [← hz], rfl⟩
  · have hd : decide (1 ≤ n) = false := by simp [h]
    rw [hd]
    clear h
    go_enter Try.func28, Try.ntmps28
    go_wp2_with fail
    go_ret
    exact ⟨rfl, rfl⟩

set_option maxHeartbeats 1000000 in
theorem rlength_any (v : Value) (lo hi : Nat) (l : List Nat) (w : World) (hv : Bs w lo hi v l) (hl : ∀ c ∈ l, c < 256) (h4 : 4 ≤ l.length) :
    Calls Try.prog 27 #[v] w fun e w' => e = .returned (.int .i64 (num4 (l.take 4) : Nat)) ∧ Below w.heap.size w w' := by
  obtain ⟨A, c, rfl, q1, q2, q3, hby⟩ := hv
  obtain ⟨b0, o0, x0, x1, x2, x3, rfl, hT, c0, c1, c2, c3⟩ := hby.four h4
  have hx : ∀ x ∈ [x0, x1, x2, x3], x < 256 := fun x hx => hl x (List.mem_of_mem_take (by rw [hT]; exact hx))
  have hb0 := hx x0 (by simp)
  have hb1 := hx x1 (by simp)
  have hb2 := hx x2 (by simp)
  have hb3 := hx x3 (by simp)
  rw [hT]
  have i0 : (0 : Int) < (l.length : Int) := by omega
  have i1 : (1 : Int) < (l.length : Int) := by omega
  have i2 : (2 : Int) < (l.length : Int) := by omega
  have i3 : (3 : Int) < (l.length : Int) := by omega
  clear hl hx hT q1 q2 q3
  go_enter Try.func27, Try.ntmps27
  go_wp2_with fail
  go_quiet (fail)
  go_wp2_with fail
  go_ret
  refine ⟨?_, ⟨rfl, rfl, rfl, Nat.le_refl _, fun _ _ => rfl⟩⟩
  have e : ((num4 [x0, x1, x2, x3] : Nat) : Int) = (x0 : Int) * 16777216 + (x1 : Int) * 65536 + (x2 : Int) * 256 + (x3 : Int) := by simp only [num4, List.foldl]; omega
  rw [e]
  rfl

/-- A slice of bytes that is owned. -/
theorem Own.bs {w : World} {B : Nat} {l : List Nat} {v : Value} (h : Own B l v w) : Bs w B w.heap.size v l := Bs.of_own h

/-- 'append(s, x...)' of bytes onto bytes of the call's own. -/
theorem wpList_addbytes {ops : Array Oper} {rest : List Oper} {o : Oper} {a : Act} {Q : Exit → Act → World → Prop} {wr : World} (hgd : o.guard = none) (s x : Operand)
    (ho : o.op = .call { callee := .builtin .append, args := #[s, x], argTypes := #[22, 22] }) (B : Nat) (v : Value) (l : List Nat) (hs : a.eval s = v) (hown : Own B l v wr)
    (lo hi : Nat) (u : Value) (r : List Nat) (hx : a.eval x = u) (hu : Bs wr lo hi u r) (hlen : l.length + r.length ≤ 1099511627776) (hB : B ≤ wr.heap.size)
    (h : ∀ A' c' w', Own B (l ++ r) (.slice A' (l ++ r).length c') w' → (∀ w0, Below B w0 wr → Below B w0 w') → wpList Try.prog ops Q rest (a.put o.dst (.slice A' (l ++ r).length c')) w') :
    wpList Try.prog ops Q (o :: rest) a wr := by
  obtain ⟨i0, hi0, hz0, hz1, hz2⟩ := info_parts t5info
  obtain ⟨A, c, rfl, q1, q2, q3, hby⟩ := hu
  refine wpList_addall hgd s x 22 ho B 5 i0 (.int .u8 0) 1 Try.underlying22 hi0 hz0 hz1 hz2 rfl v l.length (bv l) hs hown lo hi A r.length c (bv r) hx q3 (bv_length r) hby (bv_one r) (by unfold maxLen; omega) (by omega) hB ?_
  intro v' w' h1 h2
  have h3 : Own B (l ++ r) v' w' := by unfold Own; rw [List.length_append, bv_append]; exact h1
  obtain ⟨A', c', rfl, _, _, _, _⟩ := Sl.of_own h3
  exact h A' c' w' h3 h2
theorem Own.nil (B : Nat) (w : World) : Own B [] (.slice none 0 0) w := World.ownsRow_nil _ _ _ _
theorem Own.below {B : Nat} {l : List Nat} {v : Value} {w w' : World} (h : Own B l v w) (hb : Ext w w') : Own B l v w' := own_below h hb (Nat.le_refl _)

set_option maxRecDepth 100000 in
set_option maxHeartbeats 4000000 in
/-- The frame around a payload. -/
theorem rput_any {w : World} {lo hi : Nat} {v : Value} {p : List Nat} (hv : Bs w lo hi v p) (hhi : hi ≤ w.heap.size) (hp : ∀ x ∈ p, x < 256) (hlen : p.length ≤ 1048576) :
    Calls Try.prog 13 #[v] w (NewBy w (frame p)) := by
  have HV := Lib.hid hv
  have HP := Lib.hid hp
  have HLEN := Lib.hid hlen
  obtain ⟨A, c, rfl, q1, q2, q3, _⟩ := hv
  have hconv : (p.length : Int) % 4294967296 = (p.length : Int) := by omega
  have HCR : Hid (crc (be4 p.length ++ p) < 4294967296) := crc_lt fun x hx => by rcases List.mem_append.1 hx with hx | hx; exact be4_lt _ x hx; exact hp x hx
  have hx : ∃ n4, n4 = be4 p.length := ⟨_, rfl⟩
  obtain ⟨n4, hn4⟩ := hx
  have HN4 : Hid (n4.length = 4) := by rw [hn4]; exact be4_length _
  have HN256 : Hid (∀ x ∈ n4, x < 256) := by rw [hn4]; exact be4_lt _
  have HW := Lib.hid (rword_any p.length (by omega) w)
  rw [← hn4] at HW HCR
  have HFR : Hid (frame p = (n4 ++ be4 (crc (n4 ++ p))) ++ p) := by rw [hn4]; rfl
  clear q1 q2 q3 hp hn4 hlen
  go_enter Try.func13, Try.ntmps13
  go_wp2_with fail
  refine HW.out.mono ?_
  rintro e w1 ⟨v1, rfl, hown1, hb1⟩
  have HB1 := Lib.hid hb1
  have HO1 : Hid (Own w.heap.size n4 v1 w1) := hown1
  obtain ⟨A1, c1, rfl, g1, g2, g3, g4⟩ := Sl.of_own hown1
  clear hb1 hown1 g1 g2 g3 g4
  go_wp2_with (at_builtin; refine wpList_addbytes rfl (.const (.slice none 0 0)) (.tmp 9) rfl w1.heap.size _ [] rfl (Own.nil _ w1) w.heap.size w1.heap.size _ n4 rfl HO1.out.bs ?l1 (Nat.le_refl _) ?_)
  case l1 => have := HN4.out; simp; omega
  intro A2 c2 w2 hown2 hb2
  have HO2 : Hid (Own w1.heap.size n4 (.slice A2 n4.length c2) w2) := hown2
  have HX2 : Hid (Ext w1 w2) := hb2 w1 (Below.refl _ _)
  clear hown2 hb2
  go_wp2_with (at_builtin; refine wpList_addbytes rfl (.tmp 10) (.tmp 11) rfl w1.heap.size _ n4 rfl HO2.out lo hi _ p rfl ((HV.out.below HB1.out hhi).below HX2.out (Nat.le_trans hhi HB1.out.size)) ?l2 HX2.out.size ?_)
  case l2 => have := HN4.out; have := HLEN.out; omega
  intro A3 c3 w3 hown3 hb3
  have HX3 : Hid (Ext w1 w3) := hb3 w1 HX2.out
  have HO3 := Lib.hid hown3
  clear hown3 hb3
  go_wp2_with fail
  refine (rsum_any _ _ _ (n4 ++ p) w3 HO3.out.bs (fun x hx => by rcases List.mem_append.1 hx with hx | hx; exact HN256.out x hx; exact HP.out x hx)).mono ?_
  rintro e w4 ⟨rfl, rfl⟩
  go_wp2_with fail
  refine (rword_any _ HCR.out w3).mono ?_
  rintro e w4 ⟨v4, rfl, hown4, hb4⟩
  obtain ⟨A4, c4, rfl, _, _, _, _⟩ := Sl.of_own hown4
  have HX4 : Hid (Ext w3 w4) := hb4
  have HO4 : Hid (Own w3.heap.size (be4 (crc (n4 ++ p))) (.slice A4 (be4 (crc (n4 ++ p))).length c4) w4) := hown4
  have HX14 : Hid (Ext w1 w4) := Ext.trans HX3.out HX4.out
  have HO14 : Hid (Own w.heap.size n4 (.slice A1 n4.length c1) w4) := HO1.out.below HX14.out
  have HB4 : Hid (Below w.heap.size w w4) := Ext.trans HB1.out HX14.out
  clear hown4 hb4
  go_wp2_with (at_builtin; refine wpList_addbytes rfl (.tmp 14) (.tmp 16) rfl w.heap.size _ n4 rfl HO14.out _ _ _ _ rfl HO4.out.bs ?l3 HB4.out.size ?_)
  case l3 => have := HN4.out; rw [be4_length]; omega
  intro A5 c5 w5 hown5 hb5
  have HO5 := Lib.hid hown5
  have HB5 := Lib.hid (hb5 w HB4.out)
  clear hown5 hb5
  go_wp2_with (at_builtin; refine wpList_addbytes rfl (.tmp 17) (.tmp 18) rfl w.heap.size _ _ rfl HO5.out lo hi _ p rfl (HV.out.below HB5.out hhi) ?l4 HB5.out.size ?_)
  case l4 => have := HN4.out; have := HLEN.out; rw [List.length_append, be4_length]; omega
  intro A6 c6 w6 hown6 hb6
  have HO6 := Lib.hid hown6
  have HB6 := Lib.hid (hb6 w HB5.out)
  clear hown6 hb6
  go_wp2
  go_ret
  exact ⟨_, rfl, by rw [HFR.out, List.append_assoc]; exact HO6.out, HB6.out⟩
end Go.Proofs.Ytkaammdekalgnaa
