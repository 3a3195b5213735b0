/- Krnum Krwrite Irread Itakes, joined. -/
import Derived.Test.YtbafmfdlbicadaaMb12
import Derived.Test.YtbafmfdlbicadaaMb6
import Derived.Maps.AppendAt

/- The reference's number: what four bytes say. -/
namespace Go.Proofs.Ytbafmfdlbicadaa
open Go.ChangeShapes Go.WideShapes Go.ChangeAt Go.RowKit

theorem sum_four {a b c d : Nat} (ha : a < 256) (hb : b < 256) (hc : c < 256) (_hd : d < 256) : IntKind.i64.wrap ((a : Int) * 16777216) = ((a * 16777216 : Nat) : Int) ∧ IntKind.i64.wrap ((b : Int) * 65536) = ((b * 65536 : Nat) : Int) ∧ IntKind.i64.wrap ((c : Int) * 256) = ((c * 256 : Nat) : Int) := by
  refine ⟨?_, ?_, ?_⟩ <;> rw [IntKind.wrap_i64] <;> omega
theorem conv_byte {a : Nat} (ha : a < 256) : IntKind.i64.wrap (a : Int) = (a : Int) := by rw [IntKind.wrap_i64]; omega
theorem sum_two {a b : Nat} (ha : a < 8589934592) (hb : b < 8589934592) : IntKind.i64.wrap ((a : Int) + (b : Int)) = ((a + b : Nat) : Int) := by rw [IntKind.wrap_i64]; omega
theorem shl_c (a : Nat) (k m : Nat) (h : 256 * m < 9223372036854775808) (ha : a < 256) (hk : m = 2 ^ k) : IntKind.i64.wrap ((a : Int) * (m : Int)) = ((a * m : Nat) : Int) := by
  rw [IntKind.wrap_i64]
  have h2 : a * m ≤ 256 * m := Nat.mul_le_mul_right _ (by omega)
  rw [← Int.natCast_mul]
  omega

set_option maxRecDepth 100000 in
set_option maxHeartbeats 4000000 in
theorem rnum8_any {w : World} {lo hi : Nat} {A : Option Addr} {cc : Nat} {t : List Nat} (h : Bs w lo hi (.slice A t.length cc) t) (h4 : t.length = 4) (hb : ∀ x ∈ t, x < 256) :
    Calls Try.prog 41 #[.slice A t.length cc] w fun e w' => e = .returned (.int .i64 (num4 t : Int)) ∧ Ext w w' := by
  obtain ⟨a, b, c, d, rfl⟩ := list4 h4
  obtain ⟨A', c', e1, _, _, _, hby⟩ := h
  injection e1 with e1 e2 e3
  subst e1 e3
  obtain ⟨bl, o, rfl, _, _, ca⟩ := hby.at_ (i := 0) (by simp)
  obtain ⟨b1, o1, e1, _, _, cb⟩ := hby.at_ (i := 1) (by simp)
  obtain ⟨b2, o2, e2, _, _, cc2⟩ := hby.at_ (i := 2) (by simp)
  obtain ⟨b3, o3, e3, _, _, cd⟩ := hby.at_ (i := 3) (by simp)
  obtain ⟨rfl, rfl⟩ : bl = b1 ∧ o = o1 := ⟨congrArg Addr.block (Option.some.inj e1), congrArg Addr.off (Option.some.inj e1)⟩
  obtain ⟨rfl, rfl⟩ : bl = b2 ∧ o = o2 := ⟨congrArg Addr.block (Option.some.inj e2), congrArg Addr.off (Option.some.inj e2)⟩
  obtain ⟨rfl, rfl⟩ : bl = b3 ∧ o = o3 := ⟨congrArg Addr.block (Option.some.inj e3), congrArg Addr.off (Option.some.inj e3)⟩
  simp only [List.getElem_cons_zero, List.getElem_cons_succ] at ca cb cc2 cd
  simp only [Nat.add_zero] at ca
  have ha := hb a (by simp)
  have hb' := hb b (by simp)
  have hc := hb c (by simp)
  have hd := hb d (by simp)
  have HB := Lib.hid (And.intro ha (And.intro hb' (And.intro hc hd)))
  have HS := Lib.hid (sum_four ha hb' hc hd)
  have HN : Hid (num4 [a, b, c, d] = a * 16777216 + b * 65536 + c * 256 + d) := by unfold Hid; simp only [num4, List.foldl]; omega
  have hlen : [a, b, c, d].length = 4 := rfl
  rw [hlen, HN.out]
  clear e1 e3 hby hb ha hb' hc hd
  obtain ⟨p, hp⟩ : ∃ p, p = a * 16777216 := ⟨_, rfl⟩
  obtain ⟨q, hq⟩ : ∃ q, q = b * 65536 := ⟨_, rfl⟩
  obtain ⟨r, hr⟩ : ∃ r, r = c * 256 := ⟨_, rfl⟩
  have HP : Hid (p < 4294967296 ∧ q < 16777216 ∧ r < 65536 ∧ d < 256) := by have := HB.out; unfold Hid; omega
  rw [← hp, ← hq, ← hr] at HS ⊢
  obtain ⟨s1, hs1⟩ : ∃ s, s = p + q := ⟨_, rfl⟩
  obtain ⟨s2, hs2⟩ : ∃ s, s = s1 + r := ⟨_, rfl⟩
  obtain ⟨s3, hs3⟩ : ∃ s, s = s2 + d := ⟨_, rfl⟩
  have HT1 : Hid (IntKind.i64.wrap ((p : Int) + (q : Int)) = (s1 : Int)) := by rw [hs1]; have := HP.out; exact sum_two (by omega) (by omega)
  have HT2 : Hid (IntKind.i64.wrap ((s1 : Int) + (r : Int)) = (s2 : Int)) := by rw [hs2]; have := HP.out; exact sum_two (by omega) (by omega)
  have HT3 : Hid (IntKind.i64.wrap ((s2 : Int) + (d : Int)) = (s3 : Int)) := by rw [hs3]; have := HP.out; exact sum_two (by omega) (by omega)
  have he : p + q + r + d = s3 := by rw [hs3, hs2, hs1]
  rw [he]
  clear hp hq hr hs1 hs2 hs3 he HN
  go_enter Try.func41, Try.ntmps41
  go_upto_region 1 with (fail)
  refine flow (by kernel_rfl) [Is (.slice (some ⟨bl, o, none⟩) 4 cc), Is (.pointer (some ⟨bl, o + 0, none⟩)), Is (.int .u8 (a : Int)), Is (.int .i64 (a : Int)), Is (.int .i64 (p : Int)), Is (.slice (some ⟨bl, o, none⟩) 4 cc), Is (.pointer (some ⟨bl, o + 1, none⟩)), Is (.int .u8 (b : Int)), Is (.int .i64 (b : Int)), Is (.int .i64 (q : Int)), Is (.int .i64 (s1 : Int)), Is (.slice (some ⟨bl, o, none⟩) 4 cc), Is (.pointer (some ⟨bl, o + 2, none⟩)), Is (.int .u8 (c : Int)), Is (.int .i64 (c : Int)), Is (.int .i64 (r : Int)), Is (.int .i64 (s2 : Int)), Is (.slice (some ⟨bl, o, none⟩) 4 cc), Is (.pointer (some ⟨bl, o + 3, none⟩)), Is (.int .u8 (d : Int)), Is (.int .i64 (d : Int)), Is (.int .i64 (s3 : Int)), Is (.int .i64 (s3 : Int))] (by kernel_rfl) (by kernel_rfl) ?mono (fun f1 => ?obl) ?fin
  case mono =>
    simp only [List.forall_mem_cons, List.not_mem_nil, false_imp_iff, implies_true, and_true]
    exact ⟨.is _, .is _, .is _, .is _, .is _, .is _, .is _, .is _, .is _, .is _, .is _, .is _, .is _, .is _, .is _, .is _, .is _, .is _, .is _, .is _, .is _, .is _, .is _⟩
  case fin =>
    intro g1 u hu hg
    simp only [puts, Act.put, List.setIfInBounds_toArray, List.set_cons_zero, List.set_cons_succ]
    have e22 : g1 22 = .int .i64 (s3 : Int) := hg 22 (by decide)
    have HXU : Hid (Ext w u) := Ext.trans (Ext.drew w) hu
    rw [e22]
    clear hg hu e22
    go_wp2_with fail
    go_ret
    exact ⟨rfl, HXU.out⟩
  case obl =>
    refine ⟨fun u hu hd => ?_, ?_⟩
    · go_simp
      exact ⟨Ext.refl _, rfl⟩
    refine ⟨fun u hu hd => ?_, ?_⟩
    · simp only [Act.put, List.setIfInBounds_toArray, List.set_cons_zero, List.set_cons_succ]
      have e0 : f1 0 = .slice (some ⟨bl, o, none⟩) 4 cc := hd 0 (by kernel_rfl)
      go_simp
      exact ⟨Ext.refl _, rfl⟩
    refine ⟨fun u hu hd => ?_, ?_⟩
    · simp only [Act.put, List.setIfInBounds_toArray, List.set_cons_zero, List.set_cons_succ]
      have e1 : f1 1 = .pointer (some ⟨bl, o + 0, none⟩) := hd 1 (by kernel_rfl)
      have hu2 := Ext.trans (Ext.drew w) hu
      have q0 := ext_cell hu2 ca
      go_simp
      exact ⟨Ext.refl _, rfl⟩
    refine ⟨fun u hu hd => ?_, ?_⟩
    · simp only [Act.put, List.setIfInBounds_toArray, List.set_cons_zero, List.set_cons_succ]
      have e2 : f1 2 = .int .u8 (a : Int) := hd 2 (by kernel_rfl)
      have hx := conv_byte HB.out.1
      go_simp
      first | exact ⟨Ext.refl _, rfl⟩ | (rw [hx]; exact ⟨Ext.refl _, rfl⟩) | exact ⟨Ext.refl _, by rw [hx]⟩ | (rw [hx]; rfl) | rfl
    refine ⟨fun u hu hd => ?_, ?_⟩
    · simp only [Act.put, List.setIfInBounds_toArray, List.set_cons_zero, List.set_cons_succ]
      have e3 : f1 3 = .int .i64 (a : Int) := hd 3 (by kernel_rfl)
      have hx := HS.out.1
      go_simp
      first | exact ⟨Ext.refl _, rfl⟩ | (rw [hx]; exact ⟨Ext.refl _, rfl⟩) | exact ⟨Ext.refl _, by rw [hx]⟩ | (rw [hx]; rfl) | rfl
    refine ⟨fun u hu hd => ?_, ?_⟩
    · simp only [Act.put, List.setIfInBounds_toArray, List.set_cons_zero, List.set_cons_succ]
      go_simp
      exact ⟨Ext.refl _, rfl⟩
    refine ⟨fun u hu hd => ?_, ?_⟩
    · simp only [Act.put, List.setIfInBounds_toArray, List.set_cons_zero, List.set_cons_succ]
      have e5 : f1 5 = .slice (some ⟨bl, o, none⟩) 4 cc := hd 5 (by kernel_rfl)
      go_simp
      exact ⟨Ext.refl _, rfl⟩
    refine ⟨fun u hu hd => ?_, ?_⟩
    · simp only [Act.put, List.setIfInBounds_toArray, List.set_cons_zero, List.set_cons_succ]
      have e6 : f1 6 = .pointer (some ⟨bl, o + 1, none⟩) := hd 6 (by kernel_rfl)
      have hu2 := Ext.trans (Ext.drew w) hu
      have q0 := ext_cell hu2 cb
      go_simp
      exact ⟨Ext.refl _, rfl⟩
    refine ⟨fun u hu hd => ?_, ?_⟩
    · simp only [Act.put, List.setIfInBounds_toArray, List.set_cons_zero, List.set_cons_succ]
      have e7 : f1 7 = .int .u8 (b : Int) := hd 7 (by kernel_rfl)
      have hx := conv_byte HB.out.2.1
      go_simp
      first | exact ⟨Ext.refl _, rfl⟩ | (rw [hx]; exact ⟨Ext.refl _, rfl⟩) | exact ⟨Ext.refl _, by rw [hx]⟩ | (rw [hx]; rfl) | rfl
    refine ⟨fun u hu hd => ?_, ?_⟩
    · simp only [Act.put, List.setIfInBounds_toArray, List.set_cons_zero, List.set_cons_succ]
      have e8 : f1 8 = .int .i64 (b : Int) := hd 8 (by kernel_rfl)
      have hx := HS.out.2.1
      go_simp
      first | exact ⟨Ext.refl _, rfl⟩ | (rw [hx]; exact ⟨Ext.refl _, rfl⟩) | exact ⟨Ext.refl _, by rw [hx]⟩ | (rw [hx]; rfl) | rfl
    refine ⟨fun u hu hd => ?_, ?_⟩
    · simp only [Act.put, List.setIfInBounds_toArray, List.set_cons_zero, List.set_cons_succ]
      have e4 : f1 4 = .int .i64 (p : Int) := hd 4 (by kernel_rfl)
      have e9 : f1 9 = .int .i64 (q : Int) := hd 9 (by kernel_rfl)
      have hx := HT1.out
      go_simp
      first | exact ⟨Ext.refl _, rfl⟩ | (rw [hx]; exact ⟨Ext.refl _, rfl⟩) | exact ⟨Ext.refl _, by rw [hx]⟩ | (rw [hx]; rfl) | rfl
    refine ⟨fun u hu hd => ?_, ?_⟩
    · simp only [Act.put, List.setIfInBounds_toArray, List.set_cons_zero, List.set_cons_succ]
      go_simp
      exact ⟨Ext.refl _, rfl⟩
    refine ⟨fun u hu hd => ?_, ?_⟩
    · simp only [Act.put, List.setIfInBounds_toArray, List.set_cons_zero, List.set_cons_succ]
      have e11 : f1 11 = .slice (some ⟨bl, o, none⟩) 4 cc := hd 11 (by kernel_rfl)
      go_simp
      exact ⟨Ext.refl _, rfl⟩
    refine ⟨fun u hu hd => ?_, ?_⟩
    · simp only [Act.put, List.setIfInBounds_toArray, List.set_cons_zero, List.set_cons_succ]
      have e12 : f1 12 = .pointer (some ⟨bl, o + 2, none⟩) := hd 12 (by kernel_rfl)
      have hu2 := Ext.trans (Ext.drew w) hu
      have q0 := ext_cell hu2 cc2
      go_simp
      exact ⟨Ext.refl _, rfl⟩
    refine ⟨fun u hu hd => ?_, ?_⟩
    · simp only [Act.put, List.setIfInBounds_toArray, List.set_cons_zero, List.set_cons_succ]
      have e13 : f1 13 = .int .u8 (c : Int) := hd 13 (by kernel_rfl)
      have hx := conv_byte HB.out.2.2.1
      go_simp
      first | exact ⟨Ext.refl _, rfl⟩ | (rw [hx]; exact ⟨Ext.refl _, rfl⟩) | exact ⟨Ext.refl _, by rw [hx]⟩ | (rw [hx]; rfl) | rfl
    refine ⟨fun u hu hd => ?_, ?_⟩
    · simp only [Act.put, List.setIfInBounds_toArray, List.set_cons_zero, List.set_cons_succ]
      have e14 : f1 14 = .int .i64 (c : Int) := hd 14 (by kernel_rfl)
      have hx := HS.out.2.2
      go_simp
      first | exact ⟨Ext.refl _, rfl⟩ | (rw [hx]; exact ⟨Ext.refl _, rfl⟩) | exact ⟨Ext.refl _, by rw [hx]⟩ | (rw [hx]; rfl) | rfl
    refine ⟨fun u hu hd => ?_, ?_⟩
    · simp only [Act.put, List.setIfInBounds_toArray, List.set_cons_zero, List.set_cons_succ]
      have e10 : f1 10 = .int .i64 (s1 : Int) := hd 10 (by kernel_rfl)
      have e15 : f1 15 = .int .i64 (r : Int) := hd 15 (by kernel_rfl)
      have hx := HT2.out
      go_simp
      first | exact ⟨Ext.refl _, rfl⟩ | (rw [hx]; exact ⟨Ext.refl _, rfl⟩) | exact ⟨Ext.refl _, by rw [hx]⟩ | (rw [hx]; rfl) | rfl
    refine ⟨fun u hu hd => ?_, ?_⟩
    · simp only [Act.put, List.setIfInBounds_toArray, List.set_cons_zero, List.set_cons_succ]
      go_simp
      exact ⟨Ext.refl _, rfl⟩
    refine ⟨fun u hu hd => ?_, ?_⟩
    · simp only [Act.put, List.setIfInBounds_toArray, List.set_cons_zero, List.set_cons_succ]
      have e17 : f1 17 = .slice (some ⟨bl, o, none⟩) 4 cc := hd 17 (by kernel_rfl)
      go_simp
      exact ⟨Ext.refl _, rfl⟩
    refine ⟨fun u hu hd => ?_, ?_⟩
    · simp only [Act.put, List.setIfInBounds_toArray, List.set_cons_zero, List.set_cons_succ]
      have e18 : f1 18 = .pointer (some ⟨bl, o + 3, none⟩) := hd 18 (by kernel_rfl)
      have hu2 := Ext.trans (Ext.drew w) hu
      have q0 := ext_cell hu2 cd
      go_simp
      exact ⟨Ext.refl _, rfl⟩
    refine ⟨fun u hu hd => ?_, ?_⟩
    · simp only [Act.put, List.setIfInBounds_toArray, List.set_cons_zero, List.set_cons_succ]
      have e19 : f1 19 = .int .u8 (d : Int) := hd 19 (by kernel_rfl)
      have hx := conv_byte HB.out.2.2.2
      go_simp
      first | exact ⟨Ext.refl _, rfl⟩ | (rw [hx]; exact ⟨Ext.refl _, rfl⟩) | exact ⟨Ext.refl _, by rw [hx]⟩ | (rw [hx]; rfl) | rfl
    refine ⟨fun u hu hd => ?_, ?_⟩
    · simp only [Act.put, List.setIfInBounds_toArray, List.set_cons_zero, List.set_cons_succ]
      have e16 : f1 16 = .int .i64 (s2 : Int) := hd 16 (by kernel_rfl)
      have e20 : f1 20 = .int .i64 (d : Int) := hd 20 (by kernel_rfl)
      have hx := HT3.out
      go_simp
      first | exact ⟨Ext.refl _, rfl⟩ | (rw [hx]; exact ⟨Ext.refl _, rfl⟩) | exact ⟨Ext.refl _, by rw [hx]⟩ | (rw [hx]; rfl) | rfl
    refine ⟨fun u hu hd => ?_, ?_⟩
    · simp only [Act.put, List.setIfInBounds_toArray, List.set_cons_zero, List.set_cons_succ]
      have e21 : f1 21 = .int .i64 (s3 : Int) := hd 21 (by kernel_rfl)
      go_simp
      exact ⟨Ext.refl _, rfl⟩
    trivial
end Go.Proofs.Ytbafmfdlbicadaa

/- The reference's Write. -/
namespace Go.Proofs.Ytbafmfdlbicadaa
open Go.ChangeShapes Go.WideShapes Go.ChangeAt Go.RowKit

/-- What is written so far. -/
structure WSt (w : World) (T at_ : List Nat) (BA : Option Addr) (bc : Nat) (RA : Option Addr) (rc : Nat) (u : World) : Prop where
  b : Own w.heap.size T (.slice BA T.length bc) u
  r : OwnI w.heap.size at_ (.slice RA at_.length rc) u
  x : Ext w u
theorem WSt.ext {w u u' : World} {T at_ : List Nat} {BA RA : Option Addr} {bc rc : Nat} (h : WSt w T at_ BA bc RA rc u) (hx : Ext u u') : WSt w T at_ BA bc RA rc u' :=
  ⟨h.b.below hx, h.r.wall fun g hg => hx.block g (row_lt h.r g hg).2, Ext.trans h.x hx⟩
theorem wst_add {ops : Array Oper} {rest : List Oper} {o : Oper} {a : Act} {Q : Exit → Act → World → Prop} {u : World} (hgd : o.guard = none) (s x : Operand)
    (ho : o.op = .call { callee := .builtin .append, args := #[s, x], argTypes := #[22, 22] }) {w : World} {T at_ : List Nat} {BA RA : Option Addr} {bc rc : Nat} (hst : WSt w T at_ BA bc RA rc u) (hs : a.eval s = .slice BA T.length bc)
    (lo hi : Nat) (y : Value) (r : List Nat) (hx : a.eval x = y) (hy : Bs u lo hi y r) (hr : 0 < r.length) (hlen : T.length + r.length ≤ 1099511627776) (T' : List Nat) (hT : T' = T ++ r)
    (h : ∀ A' c' w', WSt w T' at_ A' c' RA rc w' → wpList Try.prog ops Q rest (a.put o.dst (.slice A' T'.length c')) w') :
    wpList Try.prog ops Q (o :: rest) a u := by
  subst hT
  refine wpList_addrow hgd s x ho w.heap.size _ T hs hst.b lo hi y r hx hy hr hlen hst.x.size fun A' c' w' hO hg => h A' c' w' ⟨hO, ?_, ?_⟩
  · exact hst.r.wall fun g hg' => hg.block g (row_lt hst.r g hg').2 (fun e => rows_apart hst.b hst.r (by decide) e.symm hg')
  · exact Below.grown hst.x hg hst.x.size (fun k hk => (row_lt hst.b k hk).1)
theorem wst_int {ops : Array Oper} {rest : List Oper} {o : Oper} {a : Act} {Q : Exit → Act → World → Prop} {u : World} (hgd : o.guard = none) (s x : Operand)
    (ho : o.op = .call { callee := .builtin .append, args := #[s, x], argTypes := #[35, 35] }) {w : World} {T at_ : List Nat} {BA RA : Option Addr} {bc rc : Nat} (hst : WSt w T at_ BA bc RA rc u) (hs : a.eval s = .slice RA at_.length rc)
    (n gb : Nat) (hx : a.eval x = .slice (some ⟨gb, 0, none⟩) 1 1) (hblk : u.heap[gb]? = some (.cells #[.int .i64 (n : Int)] 3 (0, 0))) (hlen : at_.length ≤ 1000000000000) (at2 : List Nat) (hT : at2 = at_ ++ [n])
    (h : ∀ A' c' w', WSt w T at2 BA bc A' c' w' → wpList Try.prog ops Q rest (a.put o.dst (.slice A' at2.length c')) w') :
    wpList Try.prog ops Q (o :: rest) a u := by
  subst hT
  refine wpList_pushint hgd s x ho w.heap.size _ at_ hs hst.r n gb hx hblk hlen hst.x.size fun A' c' w' hO hg => ?_
  have e : at_.length + 1 = (at_ ++ [n]).length := by simp
  rw [e] at hO ⊢
  refine h A' c' w' ⟨?_, hO, ?_⟩
  · exact hst.b.wall fun g hg' => hg.block g (row_lt hst.b g hg').2 (fun e => rows_apart hst.r hst.b (by decide) e.symm hg')
  · exact Below.grown hst.x hg hst.x.size (fun k hk => (row_lt hst.r k hk).1)
theorem NewBy.out {w : World} {l : List Nat} {e : Ending} {w' : World} (h : NewBy w l e w') : ∃ A c, e = .returned (.slice A l.length c) ∧ Bs w' 0 w'.heap.size (.slice A l.length c) l ∧ Ext w w' := by
  obtain ⟨v, rfl, ho, hb⟩ := h
  have ho' : Own w.heap.size l v w' := ho
  obtain ⟨A, c, rfl⟩ := ho'.slice
  exact ⟨A, c, rfl, ho'.bs, hb⟩
theorem bytesForm_pos (l : List Nat) : 0 < (bytesForm l).length := by
  unfold bytesForm; rw [List.length_append]; have := form_pos l.length; omega
/-- What Write answers. -/
def RWriteAns (w : World) (Ls : List Ent) (x : Ending) (w' : World) : Prop :=
  ∃ A c RA rc, x = .returned (.tuple #[.slice A (wr Ls).length c, .slice RA (ats Ls Ls.length).length rc]) ∧ WSt w (wr Ls) (ats Ls Ls.length) A c RA rc w'

set_option maxRecDepth 100000 in
set_option maxHeartbeats 16000000 in
theorem rwrite_any {w : World} {lo hi c : Nat} {A : Option Addr} {L : List (Ent × Hd)} (h : Es w lo hi A L) (hhi : hi ≤ w.heap.size) (hm : MayB (L.map Prod.fst)) :
    Calls Try.prog 20 #[.slice A L.length c] w (RWriteAns w (L.map Prod.fst)) := by
  have HE := Lib.hid h
  have HHI := Lib.hid hhi
  have HM := Lib.hid hm
  have HLM : Hid (1 ≤ L.length ∧ L.length ≤ 1024) := by have h1 := hm.1; have h2 := hm.2.1; rw [List.length_map] at h1 h2; exact ⟨h1, h2⟩
  have HMM : Hid (∀ p ∈ L, p.1.may = true) := fun p hp => hm.2.2.2 _ (List.mem_map_of_mem hp)
  obtain ⟨Ls, hLs⟩ : ∃ Ls, Ls = L.map Prod.fst := ⟨_, rfl⟩
  have HLS := Lib.hid hLs
  have HLL : Hid (Ls.length = L.length) := by rw [hLs]; exact List.length_map ..
  rw [← hLs] at HM ⊢
  obtain ⟨b, o, rfl⟩ := h.base (by have := HLM.out; omega)
  clear h hhi hm hLs
  go_enter Try.func20, Try.ntmps20
  go_wp2_with fail
  go_loopw [4, 5, 6, 7] (fun bv rv iv_ _ wr => ∃ (i : Nat) (BA RA : Option Addr) (bc rc : Nat), i ≤ L.length ∧ iv_ = .int .i64 (i : Int) ∧ bv = .slice BA (upto Ls i).length bc ∧ rv = .slice RA (ats Ls i).length rc ∧ Hid (WSt w (upto Ls i) (ats Ls i) BA bc RA rc wr))
    (fun _ _ x _ _ => L.length - (intOf x).toNat)
  case atStart => exact ⟨0, none, none, 0, 0, Nat.zero_le _, rfl, rfl, rfl, World.ownsRow_nil _ _ _ _, OwnI.nil _ _, Ext.refl _⟩
  case round =>
    obtain ⟨i, BA, RA, bc, rc, hi, rfl, rfl, rfl, HST⟩ := hrel
    by_cases hlt : i < L.length
    · have d : decide ((i : Int) < (L.length : Int)) = true := by rw [decide_eq_true_eq]; exact Int.ofNat_lt.2 hlt
      have dn : decide (i < L.length) = true := by rw [decide_eq_true_eq]; exact hlt
      obtain ⟨p, hp⟩ : ∃ p, L[i]? = some p := ⟨_, List.getElem?_eq_getElem hlt⟩
      have HP := Lib.hid hp
      have HLT := Lib.hid hlt
      have hmay := HMM.out p (List.mem_of_getElem? hp)
      have HU := Lib.hid (Ent.may_u64 hmay)
      have HMAY := Lib.hid (mayN_iff.1 hmay)
      have HUL : Hid ((upto Ls i).length ≤ 70000000) := by
        have h1 := upto_le HM.out.2.2.2 i
        have := HLM.out
        unfold Hid; omega
      have HPI : Hid (pieceOf Ls i = kform (ahOf Ls i) p.1) := piece_at (by rw [HLS.out, List.getElem?_map, hp]; rfl)
      have n1 : (0 : Int) ≤ (i : Int) := Int.natCast_nonneg _
      have n2 : (i : Int) < (L.length : Int) := Int.ofNat_lt.2 hlt
      obtain ⟨qn, hqn, hqt⟩ : ∃ n : Nat, p.1.seq = (n : Int) ∧ p.1.seq.toNat = n := ⟨p.1.seq.toNat, by have := HMAY.out; omega, rfl⟩
      obtain ⟨kn, hkn, hkt⟩ : ∃ n : Nat, p.1.kind = (n : Int) ∧ p.1.kind.toNat = n := ⟨p.1.kind.toNat, by have := HMAY.out; omega, rfl⟩
      have HQN := Lib.hid hqn
      have HKN := Lib.hid hkn
      have HQT := Lib.hid hqt
      have HKT := Lib.hid hkt
      have HUQ : Hid (U64 qn) := by have := HU.out.2.1; rw [hqt] at this; exact this
      have HUK : Hid (U64 kn) := by have := HU.out.2.2.1; rw [hkt] at this; exact this
      clear hlt hi hp hmay hqn hkn hqt hkt
      obtain ⟨T0, hT0⟩ : ∃ T0, T0 = upto Ls i := ⟨_, rfl⟩
      obtain ⟨a0, ha0⟩ : ∃ a0, a0 = ats Ls i := ⟨_, rfl⟩
      have HT0 := Lib.hid hT0
      have HA0 := Lib.hid ha0
      rw [← hT0, ← ha0] at HST ⊢
      rw [← hT0] at HUL
      clear hT0 ha0
      by_cases h4 : i % 4 = 0
      · have d4n : ((i : Int) % 4 == 0) = true := by rw [beq_iff_eq]; omega
        have HSV : Hid (0 = shr (ahOf Ls i) p.1.key) := by unfold ahOf; rw [if_pos h4, shr_nil]; exact rfl
        obtain ⟨at2, hat2⟩ : ∃ at2, at2 = a0 ++ [T0.length] := ⟨_, rfl⟩
        have HAT1 := Lib.hid hat2
        have HAT2 : Hid (ats Ls (i + 1) = at2) := by rw [hat2, HA0.out, HT0.out]; exact ats_hit Ls h4
        have HAL : Hid (a0.length ≤ 2000) := by have h1 := ats_len Ls i; have := HLM.out; have := HLT.out; rw [HA0.out]; unfold Hid; omega
        clear h4 hat2
        go_upto_region 7 with (fail)
        go_wp2_with (at_builtin; refine wst_int rfl (.tmp 18) (.tmp 21) rfl (HST.out.ext (ext_alloc _ _)) rfl T0.length wr.heap.size rfl (heap_at _ _ rfl) (by have := HAL.out; omega) at2 HAT1.out ?_)
        intro R2 rc2 wr2 hst2
        have HST2 := Lib.hid hst2
        clear hst2 d4n
        have hs64 : U64 0 := ⟨by omega⟩
        have HS64 := Lib.hid hs64
        clear hs64
        have HFL : Hid ((form 0).length ≤ 10 ∧ (bytesForm (p.1.key.drop 0)).length ≤ 60 ∧ (form qn).length ≤ 10 ∧ (form kn).length ≤ 10 ∧ (bytesForm p.1.val).length ≤ 65600) := by
          have h1 := HMAY.out
          refine ⟨form_len64 HS64.out, ?_, form_len64 HUQ.out, form_len64 HUK.out, ?_⟩
          · have h2 := (bytesForm_len (l := p.1.key.drop 0) ⟨by rw [List.length_drop]; omega⟩).1
            rw [List.length_drop] at h2; omega
          · have h2 := (bytesForm_len HU.out.2.2.2).1; omega
        go_wp2_with fail
        refine (rnumber_any 0 HS64.out _).mono ?_
        intro x v2 hN
        obtain ⟨NA2, nc2, rfl, hbs, hx⟩ := hN.out
        have HBS2 := Lib.hid hbs
        have HSX2 := Lib.hid (HST2.out.ext hx)
        clear hN hbs hx
        obtain ⟨T2, hT2⟩ : ∃ T, T = T0 ++ form 0 := ⟨_, rfl⟩
        have HT2 := Lib.hid hT2
        have HTL2 : Hid (T2.length = T0.length + (form 0).length) := by rw [hT2]; exact List.length_append ..
        clear hT2
        go_wp2_with (at_builtin; refine wst_add rfl (.tmp 35) (.tmp 38) rfl HSX2.out rfl _ _ _ (form 0) rfl HBS2.out (form_pos _) (by have := HUL.out; have := HFL.out; omega) T2 HT2.out ?_)
        intro B2 c2x u2 hst
        have HST3 := Lib.hid hst
        clear hst
        obtain ⟨d0, d1, d2, d3⟩ := (HE.out.below HST3.out.x HHI.out).get HP.out
        obtain ⟨A2, hA2, hA2n, hrun⟩ := tail_run p.2.kA p.1.key.length p.2.kc 0 (Nat.zero_le _) (by obtain ⟨_, _, e1, h1, _⟩ := (HE.out.each p (List.mem_of_getElem? HP.out)).k; injection e1 with _ _ e3; rw [e3]; exact h1)
        have hrun' : ∀ w, (Instr.slice 22 (.slice p.2.kA p.1.key.length p.2.kc) (some (.int .i64 (0 : Int))) none none).run Try.prog w = .ok (.slice A2 (p.1.key.length - 0) (p.2.kc - 0)) w := hrun
        have HKB : Hid (∀ u, Ext w u → Bs u lo hi (.slice A2 (p.1.key.length - 0) (p.2.kc - 0)) (p.1.key.drop 0)) := fun u hu => by
          obtain ⟨A', c', e1, h1, h2, h3, h4⟩ := ((HE.out.below hu HHI.out).each p (List.mem_of_getElem? HP.out)).k
          injection e1 with e1 e2 e3
          subst e1 e3
          exact ⟨A2, _, by rw [List.length_drop], by rw [List.length_drop]; omega, by omega, fun h => by have := h3 (hA2n h); omega, hA2 p.1.key rfl _ _ _ h4⟩
        clear hA2 hA2n hrun
        go_wp2_with fail
        refine (rbytes_any _ lo hi (p.1.key.drop 0) _ (HKB.out _ HST3.out.x) (Nat.le_trans HHI.out HST3.out.x.size) (by have := HMAY.out; rw [List.length_drop]; omega)).mono ?_
        intro x v3 hN
        obtain ⟨NA3, nc3, rfl, hbs, hx⟩ := hN.out
        have HBS3 := Lib.hid hbs
        have HSX3 := Lib.hid (HST3.out.ext hx)
        clear hN hbs hx
        clear hrun' d0 d1 d2 d3
        obtain ⟨T3, hT3⟩ : ∃ T, T = T2 ++ bytesForm (p.1.key.drop 0) := ⟨_, rfl⟩
        have HT3 := Lib.hid hT3
        have HTL3 : Hid (T3.length = T2.length + (bytesForm (p.1.key.drop 0)).length) := by rw [hT3]; exact List.length_append ..
        clear hT3
        go_wp2_with (at_builtin; refine wst_add rfl (.tmp 40) (.tmp 48) rfl HSX3.out rfl _ _ _ (bytesForm (p.1.key.drop 0)) rfl HBS3.out (bytesForm_pos _) (by have := HUL.out; have := HFL.out; have := HTL2.out; omega) T3 HT3.out ?_)
        intro B3 c3x u3 hst
        have HST4 := Lib.hid hst
        clear hst
        obtain ⟨d0, d1, d2, d3⟩ := (HE.out.below HST4.out.x HHI.out).get HP.out
        rw [HQN.out] at d1
        have hq : IntKind.u64.wrap (qn : Int) = (qn : Int) := by have := HMAY.out; have := HQT.out; rw [IntKind.wrap_u64]; omega
        go_wp2_with fail
        refine (rnumber_any qn HUQ.out _).mono ?_
        intro x v4 hN
        obtain ⟨NA4, nc4, rfl, hbs, hx⟩ := hN.out
        have HBS4 := Lib.hid hbs
        have HSX4 := Lib.hid (HST4.out.ext hx)
        clear hN hbs hx
        clear hq d0 d1 d2 d3
        obtain ⟨T4, hT4⟩ : ∃ T, T = T3 ++ form qn := ⟨_, rfl⟩
        have HT4 := Lib.hid hT4
        have HTL4 : Hid (T4.length = T3.length + (form qn).length) := by rw [hT4]; exact List.length_append ..
        clear hT4
        go_wp2_with (at_builtin; refine wst_add rfl (.tmp 50) (.tmp 57) rfl HSX4.out rfl _ _ _ (form qn) rfl HBS4.out (form_pos _) (by have := HUL.out; have := HFL.out; have := HTL2.out; have := HTL3.out; omega) T4 HT4.out ?_)
        intro B4 c4x u4 hst
        have HST5 := Lib.hid hst
        clear hst
        obtain ⟨d0, d1, d2, d3⟩ := (HE.out.below HST5.out.x HHI.out).get HP.out
        rw [HKN.out] at d2
        have hq : IntKind.u64.wrap (kn : Int) = (kn : Int) := by have := HMAY.out; have := HKT.out; rw [IntKind.wrap_u64]; omega
        go_wp2_with fail
        refine (rnumber_any kn HUK.out _).mono ?_
        intro x v5 hN
        obtain ⟨NA5, nc5, rfl, hbs, hx⟩ := hN.out
        have HBS5 := Lib.hid hbs
        have HSX5 := Lib.hid (HST5.out.ext hx)
        clear hN hbs hx
        clear hq d0 d1 d2 d3
        obtain ⟨T5, hT5⟩ : ∃ T, T = T4 ++ form kn := ⟨_, rfl⟩
        have HT5 := Lib.hid hT5
        have HTL5 : Hid (T5.length = T4.length + (form kn).length) := by rw [hT5]; exact List.length_append ..
        clear hT5
        go_wp2_with (at_builtin; refine wst_add rfl (.tmp 59) (.tmp 66) rfl HSX5.out rfl _ _ _ (form kn) rfl HBS5.out (form_pos _) (by have := HUL.out; have := HFL.out; have := HTL2.out; have := HTL3.out; have := HTL4.out; omega) T5 HT5.out ?_)
        intro B5 c5x u5 hst
        have HST6 := Lib.hid hst
        clear hst
        obtain ⟨d0, d1, d2, d3⟩ := (HE.out.below HST6.out.x HHI.out).get HP.out
        have HKF : Hid (∀ V, V = (if p.1.kind = 1 then bytesForm p.1.val else []) → upto Ls (i + 1) = T5 ++ V) := fun V hV => by
          rw [upto_succ, HPI.out, HT5.out, HT4.out, HT3.out, HT2.out, HT0.out, hV]
          unfold kform
          rw [HQT.out, HKT.out]
          rw [← HSV.out]
          simp only [List.append_assoc]
        by_cases hk1 : p.1.kind = 1
        · have dk : (p.1.kind == 1) = true := by rw [hk1]; rfl
          have HK1 := Lib.hid hk1
          clear hk1
          go_wp2_with fail
          refine (rbytes_any _ lo hi p.1.val _ ((HE.out.below HST6.out.x HHI.out).each p (List.mem_of_getElem? HP.out)).v (Nat.le_trans HHI.out HST6.out.x.size) (by have := HMAY.out; omega)).mono ?_
          intro x v6 hN
          obtain ⟨NA6, nc6, rfl, hbs, hx⟩ := hN.out
          have HBS6 := Lib.hid hbs
          have HSX6 := Lib.hid (HST6.out.ext hx)
          clear hN hbs hx
          clear dk d0 d1 d2 d3
          obtain ⟨T6, hT6⟩ : ∃ T, T = T5 ++ bytesForm p.1.val := ⟨_, rfl⟩
          have HT6 := Lib.hid hT6
          have HTL6 : Hid (T6.length = T5.length + (bytesForm p.1.val).length) := by rw [hT6]; exact List.length_append ..
          clear hT6
          go_wp2_with (at_builtin; refine wst_add rfl (.tmp 74) (.tmp 80) rfl HSX6.out rfl _ _ _ (bytesForm p.1.val) rfl HBS6.out (bytesForm_pos _) (by have := HUL.out; have := HFL.out; have := HTL2.out; have := HTL3.out; have := HTL4.out; have := HTL5.out; omega) T6 HT6.out ?_)
          intro B6 c6x u6 hst
          have HST7 := Lib.hid hst
          clear hst
          go_wp2_with fail
          go_roundw
          case rel =>
            have e1 : upto Ls (i + 1) = T6 := by rw [HT6.out]; exact HKF.out _ (by rw [if_pos HK1.out])
            exact ⟨i + 1, _, _, _, _, HLT.out, by rw [wrap_succ (by have := HLT.out; have := HLM.out; omega)], by rw [e1], by rw [HAT2.out], by rw [e1, HAT2.out]; exact HST7⟩
          case measure =>
            rw [wrap_succ (by have := HLT.out; have := HLM.out; omega)]
            have := HLT.out
            simp [intOf]; omega
        · have dk : (p.1.kind == 1) = false := by simpa using hk1
          have HK1 := Lib.hid hk1
          clear hk1
          go_wp2_with fail
          go_roundw
          case rel =>
            have e1 : upto Ls (i + 1) = T5 := by have := HKF.out [] (by rw [if_neg HK1.out]); rw [List.append_nil] at this; exact this
            exact ⟨i + 1, _, _, _, _, HLT.out, by rw [wrap_succ (by have := HLT.out; have := HLM.out; omega)], by rw [e1], by rw [HAT2.out], by rw [e1, HAT2.out]; exact HST6⟩
          case measure =>
            rw [wrap_succ (by have := HLT.out; have := HLM.out; omega)]
            have := HLT.out
            simp [intOf]; omega
      · have d4n : ((i : Int) % 4 == 0) = false := by rw [beq_eq_false_iff_ne]; omega
        obtain ⟨m, him⟩ : ∃ m, m + 1 = i := ⟨i - 1, by omega⟩
        have HIM := Lib.hid him
        obtain ⟨at2, hat2⟩ : ∃ at2, at2 = a0 := ⟨_, rfl⟩
        have HAT2 : Hid (ats Ls (i + 1) = at2) := by rw [hat2, HA0.out]; exact ats_miss Ls h4
        rw [← hat2] at HST ⊢
        have hml : m < L.length := by have := HLT.out; omega
        obtain ⟨q, hq⟩ : ∃ q, L[m]? = some q := ⟨_, List.getElem?_eq_getElem hml⟩
        have HQ := Lib.hid hq
        obtain ⟨s, hs⟩ : ∃ s, s = shr q.1.key p.1.key := ⟨_, rfl⟩
        have HSV : Hid (s = shr (ahOf Ls i) p.1.key) := by
          have e : ahOf Ls i = q.1.key := by
            unfold ahOf
            rw [if_neg h4, HLS.out, List.getElem?_map]
            have e2 : i - 1 = m := by omega
            rw [e2, hq]; rfl
          rw [e]; exact hs
        have HSL : Hid (s ≤ p.1.key.length ∧ s ≤ 32) := by have h1 := shr_le_r q.1.key p.1.key; have := HMAY.out; rw [← hs] at h1; exact ⟨h1, by omega⟩
        have HSH : Hid (∀ u, Ext wr u → Calls Try.prog 12 #[.slice q.2.kA q.1.key.length q.2.kc, .slice p.2.kA p.1.key.length p.2.kc] u fun e w' => e = .returned (.int .i64 (s : Int)) ∧ Ext u w') := fun u hu => by
          have hE := HE.out.below (Ext.trans HST.out.x hu) HHI.out
          have hle := Nat.le_trans HHI.out (Ext.trans HST.out.x hu).size
          have := HMAY.out
          have h2 := mayN_iff.1 (HMM.out q (List.mem_of_getElem? HQ.out))
          rw [hs]
          exact rshared_any (hE.each q (List.mem_of_getElem? HQ.out)).k (hE.each p (List.mem_of_getElem? HP.out)).k hle hle (by omega) (by omega)
        obtain ⟨c0, c1, c2, c3⟩ := (HE.out.below HST.out.x HHI.out).get hq
        obtain ⟨d0, d1, d2, d3⟩ := (HE.out.below HST.out.x HHI.out).get HP.out
        have hw : IntKind.i64.wrap ((i : Int) - 1) = (m : Int) := by have := HLT.out; have := HLM.out; rw [IntKind.wrap_i64]; omega
        have HW := Lib.hid hw
        have m1 : (0 : Int) ≤ (m : Int) := Int.natCast_nonneg _
        have m2 : (m : Int) < (L.length : Int) := Int.ofNat_lt.2 hml
        clear h4 hat2 him hml hq hs hw
        go_upto_region 9 with (fail)
        refine flow (by kernel_rfl) [Is (.slice (some ⟨b, o, none⟩) L.length c), Is (.int .i64 (i : Int)), Is (.int .i64 (m : Int)), Is (.pointer (some ⟨b, o + m * 4, none⟩)), Is (.pointer (some ⟨b, o + m * 4, none⟩)), Is (.slice q.2.kA q.1.key.length q.2.kc), Is (.slice (some ⟨b, o, none⟩) L.length c), Is (.int .i64 (i : Int)), Is (.pointer (some ⟨b, o + i * 4, none⟩)), Is (.pointer (some ⟨b, o + i * 4, none⟩)), Is (.slice p.2.kA p.1.key.length p.2.kc), Is (.int .i64 (s : Int)), Is (.int .i64 (s : Int))] (by kernel_rfl) (by kernel_rfl) ?mono (fun f1 => ?obl) ?fin
        case mono =>
          simp only [List.forall_mem_cons, List.not_mem_nil, false_imp_iff, implies_true, and_true]
          exact ⟨.is _, .is _, .is _, .is _, .is _, .is _, .is _, .is _, .is _, .is _, .is _, .is _, .is _⟩
        case fin =>
          intro g1 u hu hg
          simp only [puts, Act.put, List.setIfInBounds_toArray, List.set_cons_zero, List.set_cons_succ]
          have e11 : g1 11 = .int .i64 (s : Int) := hg 11 (by decide)
          have e12 : g1 12 = .int .i64 (s : Int) := hg 12 (by decide)
          rw [e12]
          have HST2 := Lib.hid (HST.out.ext (Ext.trans (Ext.drew wr) hu))
          clear hg hu e11 e12 c0 c1 c2 c3 d0 d1 d2 d3 d4n
          have hs64 : U64 s := ⟨by have := HSL.out; omega⟩
          have HS64 := Lib.hid hs64
          clear hs64
          have HFL : Hid ((form s).length ≤ 10 ∧ (bytesForm (p.1.key.drop s)).length ≤ 60 ∧ (form qn).length ≤ 10 ∧ (form kn).length ≤ 10 ∧ (bytesForm p.1.val).length ≤ 65600) := by
            have h1 := HMAY.out
            refine ⟨form_len64 HS64.out, ?_, form_len64 HUQ.out, form_len64 HUK.out, ?_⟩
            · have h2 := (bytesForm_len (l := p.1.key.drop s) ⟨by rw [List.length_drop]; omega⟩).1
              rw [List.length_drop] at h2; omega
            · have h2 := (bytesForm_len HU.out.2.2.2).1; omega
          have hqs : IntKind.u64.wrap (s : Int) = (s : Int) := by have := HSL.out; rw [IntKind.wrap_u64]; omega
          go_wp2_with fail
          refine (rnumber_any s HS64.out _).mono ?_
          intro x v2 hN
          obtain ⟨NA2, nc2, rfl, hbs, hx⟩ := hN.out
          have HBS2 := Lib.hid hbs
          have HSX2 := Lib.hid (HST2.out.ext hx)
          clear hN hbs hx
          clear hqs
          obtain ⟨T2, hT2⟩ : ∃ T, T = T0 ++ form s := ⟨_, rfl⟩
          have HT2 := Lib.hid hT2
          have HTL2 : Hid (T2.length = T0.length + (form s).length) := by rw [hT2]; exact List.length_append ..
          clear hT2
          go_wp2_with (at_builtin; refine wst_add rfl (.tmp 35) (.tmp 38) rfl HSX2.out rfl _ _ _ (form s) rfl HBS2.out (form_pos _) (by have := HUL.out; have := HFL.out; omega) T2 HT2.out ?_)
          intro B2 c2x u2 hst
          have HST3 := Lib.hid hst
          clear hst
          obtain ⟨d0, d1, d2, d3⟩ := (HE.out.below HST3.out.x HHI.out).get HP.out
          obtain ⟨A2, hA2, hA2n, hrun⟩ := tail_run p.2.kA p.1.key.length p.2.kc s HSL.out.1 (by obtain ⟨_, _, e1, h1, _⟩ := (HE.out.each p (List.mem_of_getElem? HP.out)).k; injection e1 with _ _ e3; rw [e3]; exact h1)
          have hrun' : ∀ w, (Instr.slice 22 (.slice p.2.kA p.1.key.length p.2.kc) (some (.int .i64 (s : Int))) none none).run Try.prog w = .ok (.slice A2 (p.1.key.length - s) (p.2.kc - s)) w := hrun
          have HKB : Hid (∀ u, Ext w u → Bs u lo hi (.slice A2 (p.1.key.length - s) (p.2.kc - s)) (p.1.key.drop s)) := fun u hu => by
            obtain ⟨A', c', e1, h1, h2, h3, h4⟩ := ((HE.out.below hu HHI.out).each p (List.mem_of_getElem? HP.out)).k
            injection e1 with e1 e2 e3
            subst e1 e3
            exact ⟨A2, _, by rw [List.length_drop], by rw [List.length_drop]; omega, by omega, fun h => by have := h3 (hA2n h); omega, hA2 p.1.key rfl _ _ _ h4⟩
          clear hA2 hA2n hrun
          go_wp2_with fail
          refine (rbytes_any _ lo hi (p.1.key.drop s) _ (HKB.out _ HST3.out.x) (Nat.le_trans HHI.out HST3.out.x.size) (by have := HMAY.out; rw [List.length_drop]; omega)).mono ?_
          intro x v3 hN
          obtain ⟨NA3, nc3, rfl, hbs, hx⟩ := hN.out
          have HBS3 := Lib.hid hbs
          have HSX3 := Lib.hid (HST3.out.ext hx)
          clear hN hbs hx
          clear hrun' d0 d1 d2 d3
          obtain ⟨T3, hT3⟩ : ∃ T, T = T2 ++ bytesForm (p.1.key.drop s) := ⟨_, rfl⟩
          have HT3 := Lib.hid hT3
          have HTL3 : Hid (T3.length = T2.length + (bytesForm (p.1.key.drop s)).length) := by rw [hT3]; exact List.length_append ..
          clear hT3
          go_wp2_with (at_builtin; refine wst_add rfl (.tmp 40) (.tmp 48) rfl HSX3.out rfl _ _ _ (bytesForm (p.1.key.drop s)) rfl HBS3.out (bytesForm_pos _) (by have := HUL.out; have := HFL.out; have := HTL2.out; omega) T3 HT3.out ?_)
          intro B3 c3x u3 hst
          have HST4 := Lib.hid hst
          clear hst
          obtain ⟨d0, d1, d2, d3⟩ := (HE.out.below HST4.out.x HHI.out).get HP.out
          rw [HQN.out] at d1
          have hq : IntKind.u64.wrap (qn : Int) = (qn : Int) := by have := HMAY.out; have := HQT.out; rw [IntKind.wrap_u64]; omega
          go_wp2_with fail
          refine (rnumber_any qn HUQ.out _).mono ?_
          intro x v4 hN
          obtain ⟨NA4, nc4, rfl, hbs, hx⟩ := hN.out
          have HBS4 := Lib.hid hbs
          have HSX4 := Lib.hid (HST4.out.ext hx)
          clear hN hbs hx
          clear hq d0 d1 d2 d3
          obtain ⟨T4, hT4⟩ : ∃ T, T = T3 ++ form qn := ⟨_, rfl⟩
          have HT4 := Lib.hid hT4
          have HTL4 : Hid (T4.length = T3.length + (form qn).length) := by rw [hT4]; exact List.length_append ..
          clear hT4
          go_wp2_with (at_builtin; refine wst_add rfl (.tmp 50) (.tmp 57) rfl HSX4.out rfl _ _ _ (form qn) rfl HBS4.out (form_pos _) (by have := HUL.out; have := HFL.out; have := HTL2.out; have := HTL3.out; omega) T4 HT4.out ?_)
          intro B4 c4x u4 hst
          have HST5 := Lib.hid hst
          clear hst
          obtain ⟨d0, d1, d2, d3⟩ := (HE.out.below HST5.out.x HHI.out).get HP.out
          rw [HKN.out] at d2
          have hq : IntKind.u64.wrap (kn : Int) = (kn : Int) := by have := HMAY.out; have := HKT.out; rw [IntKind.wrap_u64]; omega
          go_wp2_with fail
          refine (rnumber_any kn HUK.out _).mono ?_
          intro x v5 hN
          obtain ⟨NA5, nc5, rfl, hbs, hx⟩ := hN.out
          have HBS5 := Lib.hid hbs
          have HSX5 := Lib.hid (HST5.out.ext hx)
          clear hN hbs hx
          clear hq d0 d1 d2 d3
          obtain ⟨T5, hT5⟩ : ∃ T, T = T4 ++ form kn := ⟨_, rfl⟩
          have HT5 := Lib.hid hT5
          have HTL5 : Hid (T5.length = T4.length + (form kn).length) := by rw [hT5]; exact List.length_append ..
          clear hT5
          go_wp2_with (at_builtin; refine wst_add rfl (.tmp 59) (.tmp 66) rfl HSX5.out rfl _ _ _ (form kn) rfl HBS5.out (form_pos _) (by have := HUL.out; have := HFL.out; have := HTL2.out; have := HTL3.out; have := HTL4.out; omega) T5 HT5.out ?_)
          intro B5 c5x u5 hst
          have HST6 := Lib.hid hst
          clear hst
          obtain ⟨d0, d1, d2, d3⟩ := (HE.out.below HST6.out.x HHI.out).get HP.out
          have HKF : Hid (∀ V, V = (if p.1.kind = 1 then bytesForm p.1.val else []) → upto Ls (i + 1) = T5 ++ V) := fun V hV => by
            rw [upto_succ, HPI.out, HT5.out, HT4.out, HT3.out, HT2.out, HT0.out, hV]
            unfold kform
            rw [HQT.out, HKT.out]
            rw [← HSV.out]
            simp only [List.append_assoc]
          by_cases hk1 : p.1.kind = 1
          · have dk : (p.1.kind == 1) = true := by rw [hk1]; rfl
            have HK1 := Lib.hid hk1
            clear hk1
            go_wp2_with fail
            refine (rbytes_any _ lo hi p.1.val _ ((HE.out.below HST6.out.x HHI.out).each p (List.mem_of_getElem? HP.out)).v (Nat.le_trans HHI.out HST6.out.x.size) (by have := HMAY.out; omega)).mono ?_
            intro x v6 hN
            obtain ⟨NA6, nc6, rfl, hbs, hx⟩ := hN.out
            have HBS6 := Lib.hid hbs
            have HSX6 := Lib.hid (HST6.out.ext hx)
            clear hN hbs hx
            clear dk d0 d1 d2 d3
            obtain ⟨T6, hT6⟩ : ∃ T, T = T5 ++ bytesForm p.1.val := ⟨_, rfl⟩
            have HT6 := Lib.hid hT6
            have HTL6 : Hid (T6.length = T5.length + (bytesForm p.1.val).length) := by rw [hT6]; exact List.length_append ..
            clear hT6
            go_wp2_with (at_builtin; refine wst_add rfl (.tmp 74) (.tmp 80) rfl HSX6.out rfl _ _ _ (bytesForm p.1.val) rfl HBS6.out (bytesForm_pos _) (by have := HUL.out; have := HFL.out; have := HTL2.out; have := HTL3.out; have := HTL4.out; have := HTL5.out; omega) T6 HT6.out ?_)
            intro B6 c6x u6 hst
            have HST7 := Lib.hid hst
            clear hst
            go_wp2_with fail
            go_roundw
            case rel =>
              have e1 : upto Ls (i + 1) = T6 := by rw [HT6.out]; exact HKF.out _ (by rw [if_pos HK1.out])
              exact ⟨i + 1, _, _, _, _, HLT.out, by rw [wrap_succ (by have := HLT.out; have := HLM.out; omega)], by rw [e1], by rw [HAT2.out], by rw [e1, HAT2.out]; exact HST7⟩
            case measure =>
              rw [wrap_succ (by have := HLT.out; have := HLM.out; omega)]
              have := HLT.out
              simp [intOf]; omega
          · have dk : (p.1.kind == 1) = false := by simpa using hk1
            have HK1 := Lib.hid hk1
            clear hk1
            go_wp2_with fail
            go_roundw
            case rel =>
              have e1 : upto Ls (i + 1) = T5 := by have := HKF.out [] (by rw [if_neg HK1.out]); rw [List.append_nil] at this; exact this
              exact ⟨i + 1, _, _, _, _, HLT.out, by rw [wrap_succ (by have := HLT.out; have := HLM.out; omega)], by rw [e1], by rw [HAT2.out], by rw [e1, HAT2.out]; exact HST6⟩
            case measure =>
              rw [wrap_succ (by have := HLT.out; have := HLM.out; omega)]
              have := HLT.out
              simp [intOf]; omega
        case obl =>
          refine ⟨fun u hu hd => ?_, ?_⟩
          · go_simp
            exact ⟨Ext.refl _, rfl⟩
          refine ⟨fun u hu hd => ?_, ?_⟩
          · simp only [Act.put, List.setIfInBounds_toArray, List.set_cons_zero, List.set_cons_succ]
            go_simp
            exact ⟨Ext.refl _, rfl⟩
          refine ⟨fun u hu hd => ?_, ?_⟩
          · simp only [Act.put, List.setIfInBounds_toArray, List.set_cons_zero, List.set_cons_succ]
            have e1 : f1 1 = .int .i64 (i : Int) := hd 1 (by kernel_rfl)
            go_simp
            first | exact ⟨Ext.refl _, rfl⟩ | (rw [HW.out]; exact ⟨Ext.refl _, rfl⟩) | exact ⟨Ext.refl _, by rw [HW.out]⟩ | exact ⟨Ext.refl _, by rw [HW.out]; rfl⟩
          refine ⟨fun u hu hd => ?_, ?_⟩
          · simp only [Act.put, List.setIfInBounds_toArray, List.set_cons_zero, List.set_cons_succ]
            have e0 : f1 0 = .slice (some ⟨b, o, none⟩) L.length c := hd 0 (by kernel_rfl)
            have e2 : f1 2 = .int .i64 (m : Int) := hd 2 (by kernel_rfl)
            go_simp
            exact ⟨Ext.refl _, rfl⟩
          refine ⟨fun u hu hd => ?_, ?_⟩
          · simp only [Act.put, List.setIfInBounds_toArray, List.set_cons_zero, List.set_cons_succ]
            have e3 : f1 3 = .pointer (some ⟨b, o + m * 4, none⟩) := hd 3 (by kernel_rfl)
            go_simp
            exact ⟨Ext.refl _, rfl⟩
          refine ⟨fun u hu hd => ?_, ?_⟩
          · simp only [Act.put, List.setIfInBounds_toArray, List.set_cons_zero, List.set_cons_succ]
            have e4 : f1 4 = .pointer (some ⟨b, o + m * 4, none⟩) := hd 4 (by kernel_rfl)
            have hu2 := Ext.trans (Ext.drew wr) hu
            have q0 := ext_cell hu2 c0
            go_simp
            exact ⟨Ext.refl _, rfl⟩
          refine ⟨fun u hu hd => ?_, ?_⟩
          · simp only [Act.put, List.setIfInBounds_toArray, List.set_cons_zero, List.set_cons_succ]
            go_simp
            exact ⟨Ext.refl _, rfl⟩
          refine ⟨fun u hu hd => ?_, ?_⟩
          · simp only [Act.put, List.setIfInBounds_toArray, List.set_cons_zero, List.set_cons_succ]
            go_simp
            exact ⟨Ext.refl _, rfl⟩
          refine ⟨fun u hu hd => ?_, ?_⟩
          · simp only [Act.put, List.setIfInBounds_toArray, List.set_cons_zero, List.set_cons_succ]
            have e6 : f1 6 = .slice (some ⟨b, o, none⟩) L.length c := hd 6 (by kernel_rfl)
            have e7 : f1 7 = .int .i64 (i : Int) := hd 7 (by kernel_rfl)
            go_simp
            exact ⟨Ext.refl _, rfl⟩
          refine ⟨fun u hu hd => ?_, ?_⟩
          · simp only [Act.put, List.setIfInBounds_toArray, List.set_cons_zero, List.set_cons_succ]
            have e8 : f1 8 = .pointer (some ⟨b, o + i * 4, none⟩) := hd 8 (by kernel_rfl)
            go_simp
            exact ⟨Ext.refl _, rfl⟩
          refine ⟨fun u hu hd => ?_, ?_⟩
          · simp only [Act.put, List.setIfInBounds_toArray, List.set_cons_zero, List.set_cons_succ]
            have e9 : f1 9 = .pointer (some ⟨b, o + i * 4, none⟩) := hd 9 (by kernel_rfl)
            have hu2 := Ext.trans (Ext.drew wr) hu
            have q0 := ext_cell hu2 d0
            go_simp
            exact ⟨Ext.refl _, rfl⟩
          refine ⟨fun u hu hd => ?_, ?_⟩
          · simp only [Act.put, List.setIfInBounds_toArray, List.set_cons_zero, List.set_cons_succ]
            have e5 : f1 5 = .slice q.2.kA q.1.key.length q.2.kc := hd 5 (by kernel_rfl)
            have e10 : f1 10 = .slice p.2.kA p.1.key.length p.2.kc := hd 10 (by kernel_rfl)
            have hu2 := Ext.trans (Ext.drew wr) hu
            go_simp
            refine (HSH.out _ hu2).mono ?_
            rintro y w9 ⟨rfl, hx9⟩
            exact ⟨_, rfl, hx9, rfl⟩
          refine ⟨fun u hu hd => ?_, ?_⟩
          · simp only [Act.put, List.setIfInBounds_toArray, List.set_cons_zero, List.set_cons_succ]
            have e11 : f1 11 = .int .i64 (s : Int) := hd 11 (by kernel_rfl)
            go_simp
            exact ⟨Ext.refl _, rfl⟩
          trivial
    · have hir : i = L.length := by omega
      have d : decide ((i : Int) < (L.length : Int)) = false := by rw [decide_eq_false_iff_not]; exact fun h => hlt (Int.ofNat_lt.1 h)
      have dn : decide (i < L.length) = false := by rw [decide_eq_false_iff_not]; exact hlt
      have hil : i = Ls.length := by rw [HLL.out]; exact hir
      rw [hil] at HST ⊢
      obtain ⟨U, hU⟩ : ∃ U, U = upto Ls Ls.length := ⟨_, rfl⟩
      obtain ⟨R, hR⟩ : ∃ R, R = ats Ls Ls.length := ⟨_, rfl⟩
      have HLB : Hid (1 ≤ R.length ∧ R.length ≤ 1000 ∧ U.length ≤ 100000000) := by
        have h1 := ats_len Ls Ls.length
        have h2 := upto_le HM.out.2.2.2 Ls.length
        have h3 := HLL.out
        have h4 := HLM.out
        rw [hR, hU]
        unfold Hid; omega
      have HRB : Hid (∀ x ∈ R, x < 4294967296) := by rw [hR]; exact ats_lt HM.out.2.2.2 HM.out.2.1
      have HWR : Hid (_root_.Go.Proofs.Ytbafmfdlbicadaa.wr Ls = U ++ (R.flatMap be4 ++ be4 R.length)) := by rw [hR, hU]; exact rfl
      have HRR := Lib.hid hR
      have hdn : i = L.length := hir
      unfold RWriteAns
      rw [← hU, ← hR] at HST ⊢
      rw [HWR.out]
      clear hU hR hlt hi hil
      have hii : (Ls.length : Int) = (L.length : Int) := by rw [HLL.out]
      obtain ⟨rb, rfl⟩ : ∃ rb, RA = some ⟨rb, 0, none⟩ := by
        rcases HST.out.r.2 with ⟨h1, _⟩ | ⟨g, cap, cur, hv, _⟩
        · injection h1 with _ h2 _; have := HLB.out; omega
        · injection hv with h1 _ _; exact ⟨g, h1⟩
      rw [hir] at d dn
      have d2 : decide (((Ls.length : Nat) : Int) < (L.length : Int)) = false := by rw [hii]; simp
      have d2n : decide (Ls.length < L.length) = false := by rw [HLL.out]; simp
      clear hir hdn d dn hii
      go_wp2_with fail
      go_loopw [4, 8] (fun v x wr2 => ∃ (k : Nat) (BA : Option Addr) (bc : Nat), k ≤ R.length ∧ x = .int .i64 (k : Int) ∧ v = .slice BA (U ++ (R.take k).flatMap be4).length bc ∧ Hid (WSt w (U ++ (R.take k).flatMap be4) R BA bc (some ⟨rb, 0, none⟩) rc wr2))
        (fun _ x _ => R.length - (intOf x).toNat)
      case atStart => exact ⟨0, BA, bc, Nat.zero_le _, rfl, by simp, by simpa using HST⟩
      case round =>
        obtain ⟨k, BA, bc, hk, rfl, rfl, HST⟩ := hrel
        obtain ⟨T, hT⟩ : ∃ T, T = U ++ (R.take k).flatMap be4 := ⟨_, rfl⟩
        have HT := Lib.hid hT
        rw [← hT] at HST ⊢
        clear hT
        by_cases hlt : k < R.length
        · have d : decide ((k : Int) < (R.length : Int)) = true := by rw [decide_eq_true_eq]; exact Int.ofNat_lt.2 hlt
          have dn : decide (k < R.length) = true := by rw [decide_eq_true_eq]; exact hlt
          have HLT := Lib.hid hlt
          have n1 : (0 : Int) ≤ (k : Int) := by omega
          have n2 : (k : Int) < (R.length : Int) := Int.ofNat_lt.2 hlt
          obtain ⟨x, hx⟩ : ∃ x, R[k]? = some x := ⟨_, List.getElem?_eq_getElem hlt⟩
          have HXI := Lib.hid hx
          have HX32 := Lib.hid (HRB.out x (List.mem_of_getElem? hx))
          have c0 := HST.out.r.cells (g := rb) rfl k (.int .i64 (x : Int)) (by rw [iv, List.getElem?_map, hx]; rfl)
          rw [addr_add, Nat.zero_add] at c0
          obtain ⟨T2, hT2⟩ : ∃ T2, T2 = T ++ be4 x := ⟨_, rfl⟩
          have HT2 := Lib.hid hT2
          have HT3 : Hid (T2 = U ++ (R.take (k + 1)).flatMap be4) := by
            rw [hT2, HT.out, List.take_succ_eq_append_getElem HLT.out, List.flatMap_append, List.append_assoc]
            have e : R[k]'HLT.out = x := by have h1 := HXI.out; rw [List.getElem?_eq_getElem HLT.out] at h1; injection h1
            rw [e]; simp [Hid]
          have HTL : Hid (T.length ≤ 200000000) := by
            have h1 := HLB.out.2
            have h3 := HLT.out
            rw [HT.out, List.length_append, flat4_len, List.length_take]
            unfold Hid; omega
          clear hlt hx hk hT2
          go_wp2_with fail
          refine (rword_any x HX32.out _).mono ?_
          rintro y v5 ⟨NA, nc, rfl, hbs, hx⟩
          have HBS := Lib.hid hbs
          have HSX := Lib.hid (HST.out.ext hx)
          clear hbs hx c0
          go_wp2_with (at_builtin; refine wst_add rfl (.tmp 88) (.tmp 93) rfl HSX.out rfl _ _ _ (be4 x) rfl HBS.out (by rw [be4_length]; omega) (by have := HTL.out; rw [be4_length]; omega) T2 HT2.out ?_)
          intro B6 c6 u6 hst
          have HST6 := Lib.hid hst
          clear hst
          go_wp2_with fail
          go_roundw
          case rel => exact ⟨k + 1, B6, c6, HLT.out, by rw [wrap_succ (by have := HLT.out; have := HLB.out; omega)], by rw [HT3.out], by rw [← HT3.out]; exact HST6⟩
          case measure =>
            rw [wrap_succ (by have := HLT.out; have := HLB.out; omega)]
            have := HLT.out
            simp [intOf]; omega
        · have hir : k = R.length := by omega
          have d : decide ((k : Int) < (R.length : Int)) = false := by rw [decide_eq_false_iff_not]; exact fun h => hlt (Int.ofNat_lt.1 h)
          have dn : decide (k < R.length) = false := by rw [decide_eq_false_iff_not]; exact hlt
          have HTF : Hid (T = U ++ R.flatMap be4) := by rw [HT.out, hir, List.take_length]; exact rfl
          obtain ⟨T2, hT2⟩ : ∃ T2, T2 = T ++ be4 R.length := ⟨_, rfl⟩
          have HT2 := Lib.hid hT2
          have HTE : Hid (U ++ (R.flatMap be4 ++ be4 R.length) = T2) := by rw [hT2, HTF.out, List.append_assoc]; exact rfl
          have HTL : Hid (T.length ≤ 200000000) := by
            have h1 := HLB.out.2
            rw [HTF.out, List.length_append, flat4_len]
            unfold Hid; omega
          clear hlt hk hir hT2
          go_wp2_with fail
          refine (rword_any R.length (by have := HLB.out; omega) _).mono ?_
          rintro y v5 ⟨NA, nc, rfl, hbs, hx⟩
          have HBS := Lib.hid hbs
          have HSX := Lib.hid (HST.out.ext hx)
          clear hbs hx
          go_wp2_with (at_builtin; refine wst_add rfl (.tmp 95) (.tmp 98) rfl HSX.out rfl _ _ _ (be4 R.length) rfl HBS.out (by rw [be4_length]; omega) (by have := HTL.out; rw [be4_length]; omega) T2 HT2.out ?_)
          intro B6 c6 u6 hst
          have HST6 := Lib.hid hst
          clear hst
          go_wp2_with fail
          refine bodyPost_ret (results_tmp2 rfl _ _ _) rfl ?_
          unfold RWriteAns
          rw [HWR.out, HTE.out, ← HRR.out]
          exact ⟨B6, c6, _, _, rfl, HST6.out⟩
end Go.Proofs.Ytbafmfdlbicadaa

/- The reference's Read. -/
namespace Go.Proofs.Ytbafmfdlbicadaa
open Go.ChangeShapes Go.WideShapes Go.ChangeAt Go.RowKit

/-- What is read of the first three parts, where an entry stands. -/
theorem read_is3 {b kb r1 r2 r3 : List Nat} {n d : Nat} {k1 k2 k3 : Int} (h1 : OutText 32 b kb k1 r1) (h2 : OutNum r1 n k2 r2) (h3 : OutNum r2 d k3 r3) {e : Ent} (he : IsE b e) :
    e.key = kb ∧ e.seq = n ∧ e.kind = d ∧ k1 = 0 ∧ k2 = 0 ∧ k3 = 0 ∧ (e.kind = 1 → r3 = bytesForm e.val) ∧ (e.kind = 2 → r3 = []) := by
  obtain ⟨hm, rfl⟩ := he
  obtain ⟨u1, u2, u3, u4⟩ := Ent.may_u64 hm
  obtain ⟨a1, a2, a3, a4, a5⟩ := mayN_iff.1 hm
  unfold Ent.form at h1
  obtain ⟨rfl, rfl, rfl⟩ := h1.same (.inl ⟨rfl, by omega, u1, rfl⟩)
  obtain ⟨rfl, rfl, rfl⟩ := h2.same (.inl ⟨rfl, u2, rfl⟩)
  obtain ⟨rfl, rfl, rfl⟩ := h3.same (.inl ⟨rfl, u3, rfl⟩)
  refine ⟨rfl, by omega, by rcases a5 with ⟨a5, _⟩ | ⟨a5, _⟩ <;> omega, rfl, rfl, rfl, fun h => by rw [if_pos h], fun h => by rw [if_neg (by omega)]⟩
theorem OutText.zero {most : Int} {l bs rest : List Nat} (h : OutText most l bs 0 rest) : l = bytesForm bs ++ rest := by
  rcases h with ⟨_, _, _, h⟩ | ⟨h, _⟩
  · exact h
  · exact absurd rfl h
theorem OutNum.zero {l rest : List Nat} {n : Nat} (h : OutNum l n 0 rest) : l = form n ++ rest := by
  rcases h with ⟨_, h⟩ | ⟨h, _⟩
  · exact h.eq
  · cases h

theorem Em.setCell {w : World} {lo hi : Nat} {e : Ent} {h : Hd} (m : Em w lo hi e h) {p : Addr} (hp : p.block < lo ∨ hi ≤ p.block) (u : Value) : Em (w.setCell p u) lo hi e h := ⟨m.k.setCell hp u, m.v.setCell hp u, m.bk, m.bv, m.s1, m.s2, m.d1, m.d2⟩

/-- What the reference's Read answers. -/
def RReadAns (w : World) (b : List Nat) (x : Ending) (w' : World) : Prop :=
  Ext w w' ∧ ((∃ (e : Ent) (g : Hd), IsE b e ∧ x = .returned (.tuple #[e.at_ g, .int .i64 0]) ∧ Em w' 0 w'.heap.size e g) ∨ ((∀ e, ¬ IsE b e) ∧ x = .returned (.tuple #[noE, .int .i64 4])))

/-- What the reference's Read answers, in memory that it made. -/
def RReadNew (w : World) (b : List Nat) (x : Ending) (w' : World) : Prop :=
  Ext w w' ∧ ((∃ (e : Ent) (g : Hd), IsE b e ∧ x = .returned (.tuple #[e.at_ g, .int .i64 0]) ∧ Em w' w.heap.size w'.heap.size e g) ∨ ((∀ e, ¬ IsE b e) ∧ x = .returned (.tuple #[noE, .int .i64 4])))

theorem RBytes_slice {q lo hi : Nat} {l : List Nat} {w : World} (h : Qd w q lo hi l) (hl : l.length ≤ 1000000000000) {most : Int} (hm1 : 0 ≤ most) (hm2 : most ≤ 9223372036854775807) :
    Calls Try.prog 62 #[.pointer (some ⟨q, 0, none⟩), .int .i64 most] w fun e w' => ∃ (A : Option Addr) (c : Nat) (bs : List Nat) (k : Int) (rest : List Nat), OutText most l bs k rest ∧ Bs w' w.heap.size w'.heap.size (.slice A bs.length c) bs ∧ e = .returned (.tuple #[.slice A bs.length c, .int .i64 k]) ∧ Qd w' q lo hi rest ∧ w.grownBy w' (some q) := by
  refine (RBytes_out h hl hm1 hm2).mono ?_
  rintro e w' ⟨v, bs, k, rest, ho, hb, rfl, hq, hg⟩
  have hb' := hb
  obtain ⟨A, c, rfl, _⟩ := hb
  exact ⟨A, c, bs, k, rest, ho, hb', rfl, hq, hg⟩

end Go.Proofs.Ytbafmfdlbicadaa

/- Lists of entries: what ikey's Lists and the reference's answer. -/
namespace Go.Proofs.Ytbafmfdlbicadaa
open Go.ChangeShapes Go.WideShapes Go.ChangeAt Go.RowKit

/-- What Lists answers. -/
def ListsAns (w : World) (b : List Nat) (x : Ending) (w' : World) : Prop :=
  Ext w w' ∧ ((∃ (R : List (Ent × Hd)) (v : Value), IsL b (R.map Prod.fst) ∧ x = .returned (.tuple #[v, .int .i64 0]) ∧ Got w.heap.size v R w') ∨ ((∀ es, ¬ IsL b es) ∧ x = .returned (.tuple #[.slice none 0 0, .int .i64 4])))

theorem ErrEnts.no {b : List Nat} {n : Int} {es : List Ent} (h : ErrEnts 65536 b n) : ¬ IsL b es := by
  intro hl
  rcases h with (⟨_, h⟩ | ⟨_, _, h⟩ | ⟨_, _, m, rest, hb, hm⟩) | ⟨m, mid, hb, _, xs, rest, hlt, ha, hno⟩
  · omega
  · exact h _ _ hl.begins
  · have := (hl.begins.unique hb).1; have := hl.1; omega
  · exact ha.no hb hlt hno hl

/-! The reference's -/

/-- A row of entries; the row's block is apart from theirs. -/
structure Held (B : Nat) (v : Value) (R : List (Ent × Hd)) (w : World) : Prop where
  row : w.ownsRow B 46 4 v R.length (erow R)
  each : ∀ p ∈ R, ∃ lo hi, B ≤ lo ∧ hi ≤ w.heap.size ∧ Em w lo hi p.1 p.2 ∧ ∀ g, v.ownBlock = some g → g < lo ∨ hi ≤ g
theorem Held.nil (B : Nat) (w : World) : Held B (.slice none 0 0) [] w := ⟨World.ownsRow_nil _ _ _ _, fun p hp => by cases hp⟩
theorem Em.grown {w w' : World} {lo hi : Nat} {e : Ent} {g : Hd} {row : Option Nat} (m : Em w lo hi e g) (hg : w.grownBy w' row) (hB : hi ≤ w.heap.size) (hr : ∀ k, row = some k → k < lo ∨ hi ≤ k) : Em w' lo hi e g := ⟨m.k.grown hg hB hr, m.v.grown hg hB hr, m.bk, m.bv, m.s1, m.s2, m.d1, m.d2⟩
theorem Held.grown {B q : Nat} {v : Value} {R : List (Ent × Hd)} {w w' : World} (h : Held B v R w) (hg : w.grownBy w' (some q)) (hq : q < B) : Held B v R w' := by
  refine ⟨rowN_kept h.row fun g hgo => hg.block g (rowN_lt h.row g hgo).2.1 (fun e => by injection e with e; have := (rowN_lt h.row g hgo).1; omega), fun p hp => ?_⟩
  obtain ⟨lo, hi, h1, h2, h3, h4⟩ := h.each p hp
  exact ⟨lo, hi, h1, Nat.le_trans h2 hg.size, h3.grown hg h2 (fun k hk => by injection hk with hk; omega), h4⟩
theorem Held.below {B : Nat} {v : Value} {R : List (Ent × Hd)} {w w' : World} (h : Held B v R w) (hx : Ext w w') : Held B v R w' := by
  refine ⟨rowN_kept h.row fun g hgo => hx.block g (rowN_lt h.row g hgo).2.1, fun p hp => ?_⟩
  obtain ⟨lo, hi, h1, h2, h3, h4⟩ := h.each p hp
  exact ⟨lo, hi, h1, Nat.le_trans h2 hx.size, h3.below hx h2, h4⟩
theorem Held.es {B : Nat} {A : Option Addr} {c : Nat} {R : List (Ent × Hd)} {w : World} (h : Held B (.slice A R.length c) R w) : Es w 0 w.heap.size A R := by
  refine ⟨?_, fun p hp => ?_⟩
  · rcases h.row.2 with ⟨h1, h2⟩ | ⟨g, cap, cur, hv, hg, hh, r⟩
    · injection h1 with e1 e2 _
      have : R = [] := List.eq_nil_of_length_eq_zero e2
      subst this; exact Sl.nil _ _ _ _
    · injection hv with e1 _ _
      subst e1
      refine .inr ⟨g, 0, rfl, Nat.zero_le _, (Array.getElem?_eq_some_iff.1 hh).1, fun i u hu => ?_⟩
      have := h.row.cells (g := g) rfl i u hu
      rwa [addr_add] at this
  · obtain ⟨lo, hi, _, h2, h3, _⟩ := h.each p hp
    exact h3.wide (Nat.zero_le _) h2

theorem wpList_pushheld {ops : Array Oper} {rest : List Oper} {o : Oper} {a : Act} {Q : Exit → Act → World → Prop} {u : World} (hgd : o.guard = none) (s x : Operand)
    (ho : o.op = .call { callee := .builtin .append, args := #[s, x], argTypes := #[26, 26] }) (B : Nat) (v : Value) (R : List (Ent × Hd)) (hs : a.eval s = v) (hgot : Held B v R u)
    (p : Ent × Hd) (gb : Nat) (hx : a.eval x = .slice (some ⟨gb, 0, none⟩) 1 1) (hblk : u.heap[gb]? = some (.cells (ecells p).toArray 46 (0, 0)))
    (hp : ∃ lo hi, B ≤ lo ∧ hi ≤ u.heap.size ∧ Em u lo hi p.1 p.2 ∧ ∀ g, v.ownBlock = some g → g < lo ∨ hi ≤ g) (hlen : R.length ≤ 1000000000000) (hB : B ≤ u.heap.size)
    (h : ∀ A' c' w', Held B (.slice A' (R.length + 1) c') (R ++ [p]) w' → (∀ w0, Below B w0 u → Below B w0 w') → wpList Try.prog ops Q rest (a.put o.dst (.slice A' (R.length + 1) c')) w') :
    wpList Try.prog ops Q (o :: rest) a u := by
  obtain ⟨i0, hi0', ix0, ix1, ix2⟩ := info_parts einfo
  refine wpList_append_own_at _ hgd s x 26 ho B 46 i0 _ 4 64 Try.underlying26 hi0' ix0 ix1 ix2 rfl (by decide) v R.length (erow R) hs hgot.row ⟨gb, 0, none⟩ 1 1 (ecells p) hx rfl (fun j q hj => ?n1) (fun q hq => ?n2) ?n3 ?n4 hB (fun v' w5 ho hgr _ hat => ?rest)
  case n1 => rw [addr_add, Nat.zero_add]; exact cell_of hblk (by simpa using hj)
  case n2 => exact erow_one [p] q (by simpa [erow] using hq)
  case n3 => unfold maxLen; omega
  case n4 => omega
  case rest =>
    have hlt := rowN_lt hgot.row
    have hke : ∀ q : Ent × Hd, (∃ lo hi, B ≤ lo ∧ hi ≤ u.heap.size ∧ Em u lo hi q.1 q.2 ∧ ∀ g, v.ownBlock = some g → g < lo ∨ hi ≤ g) → ∃ lo hi, B ≤ lo ∧ hi ≤ w5.heap.size ∧ Em w5 lo hi q.1 q.2 ∧ ∀ g, v'.ownBlock = some g → g < lo ∨ hi ≤ g := by
      rintro q ⟨lo, hi, h1, h2, h3, h4⟩
      refine ⟨lo, hi, h1, Nat.le_trans h2 hgr.size, h3.grown hgr h2 h4, fun g hg => ?_⟩
      rcases hat with e | e
      · exact h4 g (e ▸ hg)
      · rw [e] at hg; injection hg with hg; omega
    have hgot' : Held B v' (R ++ [p]) w5 := by
      refine ⟨by rw [List.length_append, erow_append]; simpa [erow] using ho, fun q hq => ?_⟩
      rcases List.mem_append.1 hq with hq | hq
      · exact hke q (hgot.each q hq)
      · rw [List.mem_singleton] at hq; subst hq; exact hke q hp
    obtain ⟨A', c', rfl⟩ := rowN_slice ho
    exact h A' c' w5 hgot' (fun w0 hb => hb.grown hgr hB fun k hk => (hlt k hk).1)

theorem Ent.form_le {e : Ent} (h : e.may = true) : e.form.length ≤ 65620 := by
  obtain ⟨u1, u2, u3, u4⟩ := Ent.may_u64 h
  obtain ⟨h1, h2, h3, h4, h5⟩ := mayN_iff.1 h
  have a1 := (bytesForm_len u1).1
  have a2 := form_len64 u2
  have a3 := form_len64 u3
  have a4 := (bytesForm_len u4).1
  unfold Ent.form
  split <;> simp only [List.length_append, List.length_nil] <;> rcases h5 with ⟨h5, h6⟩ | ⟨h5, h6⟩ <;> omega

/-- What the reference's Lists answers. -/
def RListsAns (w : World) (b : List Nat) (x : Ending) (w' : World) : Prop :=
  Ext w w' ∧ ((∃ (R : List (Ent × Hd)) (A : Option Addr) (c : Nat), IsL b (R.map Prod.fst) ∧ x = .returned (.tuple #[.slice A R.length c, .int .i64 0]) ∧ Es w' 0 w'.heap.size A R) ∨ ((∀ es, ¬ IsL b es) ∧ x = .returned (.tuple #[.slice none 0 0, .int .i64 4])))

end Go.Proofs.Ytbafmfdlbicadaa
