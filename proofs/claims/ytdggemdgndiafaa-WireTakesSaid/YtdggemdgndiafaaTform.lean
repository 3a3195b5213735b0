/- form: of two numbers; a region that draws its order and appends, walked by a base below which nothing changes. -/
import Derived.Test.YtdggemdgndiafaaRsame
import Derived.Test.YtdggemdgndiafaaWmore
namespace Go.Proofs.Ytdggemdgndiafaa
open Go.ChangeShapes Go.WideShapes Go.ChangeAt Go.RowKit

section
variable {B : Nat} {P : Program} {ops : Array Oper} {Q : Exit → Act → World → Prop}

/-- Whatever comes up next, the world behind it is a later one, and so on. -/
def LaterB (B : Nat) (P : Program) (ops : Array Oper) (Q : Exit → Act → World → Prop) : Nat → Array Bool → Act → World → Prop
  | 0, seen, a, w => Region.ready .any ops seen = [] ∧ Q .normal a w
  | n + 1, seen, a, w => (Region.ready .any ops seen = [] → Q .normal a w) ∧
      ∀ i ∈ Region.ready .any ops seen, wpOp P ops Q i (fun b u => Below B w u ∧ LaterB B P ops Q n (seen.setIfInBounds i true) b u) a w

theorem LaterB.any : ∀ (n : Nat) (seen : Array Bool) (a : Act) (w : World), LaterB B P ops Q n seen a w → wpAny P .any ops Q n seen a w := by
  intro n
  induction n with
  | zero => intro seen a w h; exact h
  | succ n ih => intro seen a w h; exact ⟨h.1, fun i hi => wpOp_mono (fun b u hb => ih _ b u hb.2) (h.2 i hi)⟩

theorem yields_laterB {o : Oper} {v : Value} {a : Act} {w u : World} (h : YieldsIf P ops (Below B w) o v a) (hu : Below B w u) : YieldsIf P ops (Below B u) o v a := by
  rcases h with ⟨h1, h2⟩ | h
  · exact .inl ⟨h1, fun x hx => h2 x (hu.trans hx)⟩
  · exact .inr h

/-- A reading may be done first. -/
theorem LaterB.first {i : Nat} {oi : Oper} {v : Value} (hi : ops[i]? = some oi) (hsel : Region.noSelect ops = true) (hQ : ∀ c a w, Q (.panic c) (a.put oi.dst v) w → Q (.panic c) a w) :
    ∀ (n : Nat) (seen : Array Bool) (a : Act) (w : World), Region.free .any ops seen i = true → i ∈ Region.ready .any ops seen → YieldsIf P ops (Below B w) oi v a →
      (∀ j oj, ops[j]? = some oj → j ≠ i → seen.getD j true = false → (∀ e ∈ oj.after, Region.binds .any e = true → e.on ≠ i) → oi.apart ops oj = true) →
      LaterB B P ops Q n (seen.setIfInBounds i true) (a.put oi.dst v) w → LaterB B P ops Q (n + 1) seen a w := by
  intro n
  induction n with
  | zero =>
    intro seen a w _ hr hy _ H
    refine ⟨fun h => absurd hr (by rw [h]; simp), fun j hj => ?_⟩
    rcases Decidable.em (j = i) with e | e
    · subst e
      exact YieldsIf.wpOp hi hy (Below.refl B w) ⟨Below.refl B w, H⟩
    · have h1 := ready_mono hj e
      rw [H.1] at h1
      cases h1
  | succ n ih =>
    intro seen a w hf hr hy hap H
    refine ⟨fun h => absurd hr (by rw [h]; simp), fun j hj => ?_⟩
    rcases Decidable.em (j = i) with e | e
    · subst e
      exact YieldsIf.wpOp hi hy (Below.refl B w) ⟨Below.refl B w, H⟩
    · obtain ⟨hun, oj, hoj, hall⟩ := mem_ready.1 hj
      have hun' : seen.getD i false = false := by
        have h0 := (mem_ready.1 hr).1
        rcases Nat.lt_or_ge i seen.size with hlt | hge
        · simp [hlt] at h0 ⊢; exact h0
        · simp [Array.getElem?_eq_none hge]
      have hno : ∀ e ∈ oj.after, Region.binds .any e = true → e.on ≠ i := fun x hx hb heq => by
        have := hall x hx hb
        rw [heq, hun'] at this
        cases this
      have h2 := wpOp_putIf hoj (hap j oj hoj e hun hno) (fun cs b => Region.noSelect_spec hsel i oi cs b hi) (fun cs b => Region.noSelect_spec hsel j oj cs b hoj) hQ hy (H.2 j (ready_mono hj e))
      have hap' : ∀ k ok, ops[k]? = some ok → k ≠ i → (seen.setIfInBounds j true).getD k true = false → (∀ e ∈ ok.after, Region.binds .any e = true → e.on ≠ i) → oi.apart ops ok = true := by
        intro k ok hk hki hku hkn
        rcases Decidable.em (j = k) with ejk | ejk
        · subst ejk; exact hap j ok hk hki hun hkn
        · rw [getD_set_ne true ejk] at hku; exact hap k ok hk hki hku hkn
      have hr' := ready_mono hr (Ne.symm e)
      have hf' : Region.free .any ops (seen.setIfInBounds j true) i = true := by
        simp only [Region.free, hi, List.all_eq_true, List.mem_range] at hf ⊢
        intro k hk
        rcases Decidable.em (j = k) with ejk | ejk
        · subst ejk
          have : (seen.setIfInBounds j true).getD j true = true := by
            rcases Nat.lt_or_ge j seen.size with hlt | hge
            · simp [hlt]
            · simp [hge]
          simp [this]
        · rw [getD_set_ne true ejk]; exact hf k hk
      refine wpOp_mono (fun b u h3 => ⟨h3.2.1, ih _ b u hf' hr' (yields_laterB h3.1 h3.2.1) hap' ?_⟩) h2
      rw [Array.setIfInBounds_comm _ _ e]
      exact h3.2.2

theorem atB_start {id : Nat} {a : Act} {w : World} (hm : P.follows .mixedOrders = true) {n : Nat} (hn : ops.size = n) (h : LaterB B P ops Q n (Array.replicate n false) a w.drew) : (Code.region id ops true).wp P Q a w := by
  subst hn
  exact wp_region_any hm (LaterB.any _ _ _ _ h)

theorem atB_read (i : Nat) {n : Nat} {seen : Array Bool} {o : Oper} {v : Value} {a : Act} {w : World} (hl : ops.toList[i]? = some o) (hsel : Region.noSelect ops = true) (hf : Region.free .any ops seen i = true) (hr : (Region.ready .any ops seen).contains i = true)
    (hQ : ∀ c a w, Q (.panic c) (a.put o.dst v) w → Q (.panic c) a w) (hy : YieldsIf P ops (Below B w) o v a) (h : LaterB B P ops Q n (seen.setIfInBounds i true) (a.put o.dst v) w) : LaterB B P ops Q (n + 1) seen a w :=
  have ho : ops[i]? = some o := by rw [← Array.getElem?_toList]; exact hl
  LaterB.first ho hsel hQ n seen a w hf (by simpa using hr) hy (Region.free_spec ho hf) h

theorem atB_make (i : Nat) {n : Nat} {seen : Array Bool} {o : Oper} {a : Act} {w : World} (hl : ops.toList[i]? = some o) (hr : Region.ready .any ops seen = [i])
    (h : ∀ K : Act → World → Prop, (∀ b u, Below B w u → LaterB B P ops Q n (seen.setIfInBounds i true) b u → K b u) → if Region.wanted o (yielded ops a.tmps) = true then Oper.wp P o a w K Q else K (a.put o.dst undef) w) : LaterB B P ops Q (n + 1) seen a w := by
  have ho : ops[i]? = some o := by rw [← Array.getElem?_toList]; exact hl
  refine ⟨fun h0 => (by rw [hr] at h0; cases h0), fun j hj => ?_⟩
  rw [hr] at hj
  simp at hj
  subst hj
  have h1 := h (fun b u => Below B w u ∧ LaterB B P ops Q n (seen.setIfInBounds j true) b u) (fun b u hu hb => ⟨hu, hb⟩)
  unfold wpOp
  simp only [ho]
  split
  · rename_i hw; rw [if_pos hw] at h1; exact .inl h1
  · rename_i hw; rw [if_neg hw] at h1; exact h1

theorem atB_done {seen : Array Bool} {a : Act} {w : World} (hr : Region.ready .any ops seen = []) (h : Q .normal a w) : LaterB B P ops Q 0 seen a w := ⟨hr, h⟩
end

/-- Append as one step, its source not nil. -/
theorem wp_addsome {P : Program} {o : Oper} {a : Act} {K : Act → World → Prop} {Q : Exit → Act → World → Prop} {wr : World} (s x : Operand) (t : TypeId)
    (ho : o.op = .call { callee := .builtin .append, args := #[s, x], argTypes := #[t, t] })
    (B : Nat) (e : TypeId) (i : TypeInfo) (z : Value) (bytes : Nat) (ht : P.underlying t = some (.slice e)) (hi : P.info? e = some i) (hz : i.zero = some z)
    (hsize : i.size = 1) (hby : i.bytes = bytes) (hzs : z.cells.size = 1)
    (v : Value) (n : Nat) (xs : List Value) (hs : a.eval s = v) (hown : wr.ownsRow B e 1 v n xs)
    (lo hi' : Nat) (ad : Addr) (m c : Nat) (news : List Value) (hx : a.eval x = .slice (some ad) m c) (hm : news.length = m) (hsl : Sl wr lo hi' (some ad) news)
    (h1 : ∀ u ∈ news, u.oneCell' = true) (h63 : n + m ≤ maxLen) (hbytes : (n + m) * bytes ≤ 140737488355328) (hB : B ≤ wr.heap.size)
    (h : ∀ v' w', w'.ownsRow B e 1 v' (n + m) (xs ++ news) → (∀ w0, Below B w0 wr → Below B w0 w') → K (a.put o.dst v') w') : o.wp P a wr K Q := by
  subst hm
  refine wp_append_own _ s x t ho B e i z 1 bytes ht hi hz hsize hby hzs (by omega) v n xs hs hown ad news.length c news hx (by simp) (fun j q hj => ?_) h1 h63 hbytes hB
    (fun v' w' h2 h3 _ => h v' w' h2 fun w0 hb => hb.grown h3 hB (fun k hk => (hown.lt k hk).1))
  rcases hsl with rfl | ⟨b, o, he, _, _, hc⟩
  · simp at hj
  · injection he with he
    subst he
    rw [addr_add]
    exact hc j q hj
theorem form_ne (n : Nat) : form n ≠ [] := by
  obtain ⟨p, q, h, _⟩ := form_shape n
  rw [h]; simp
theorem form_some {w : World} {B : Nat} {v : Value} {n : Nat} (h : w.ownsRow B 5 1 v (form n).length (bv (form n))) : ∃ ad c, v = .slice (some ad) (form n).length c ∧ By w B w.heap.size (some ad) (form n) := by
  obtain ⟨A, c, rfl, _, _, h3, h4⟩ := Bs.of_own h
  cases A with
  | some ad => exact ⟨ad, c, rfl, h4⟩
  | none =>
    rcases h4 with h4 | ⟨b, o, he, _⟩
    · have h5 := congrArg List.length h4
      simp [bv] at h5
      exact absurd h5 (form_ne _)
    · cases he

set_option maxHeartbeats 2000000 in
theorem form_any (x y : Nat) (hx : U64 x) (hy : U64 y) (w : World) : Calls Try.prog 36 #[.agg #[.int .u64 (x : Int), .int .u64 (y : Int)]] w (NewBy w (form x ++ form y)) := by
  obtain ⟨i0, hi0, ix0, ix1, ix2⟩ := info_parts t5info
  have HI := Lib.hid hi0
  have HX := Lib.hid hx
  have HY := Lib.hid hy
  clear hi0 hx hy
  go_enter Try.func36, Try.ntmps36
  go_upto_region 1 with (fail)
  have HC : Hid (∀ u, Below (w.heap.size + 1) (w.alloc (.cells #[.int .u64 (x : Int), .int .u64 (y : Int)] 70)).drew u → u.cell? ⟨w.heap.size, 0, none⟩ = some (.int .u64 (x : Int)) ∧ u.cell? ⟨w.heap.size, 1, none⟩ = some (.int .u64 (y : Int))) := fun u hu =>
    ⟨(hu.cell (p := ⟨w.heap.size, 0, none⟩) (by simp)).trans (by rw [show (w.alloc (.cells #[.int .u64 (x : Int), .int .u64 (y : Int)] 70)).drew.cell? ⟨w.heap.size, 0, none⟩ = _ from World.cell?_alloc_at _ _ _ _ rfl]; rfl),
     (hu.cell (p := ⟨w.heap.size, 1, none⟩) (by simp)).trans (by rw [show (w.alloc (.cells #[.int .u64 (x : Int), .int .u64 (y : Int)] 70)).drew.cell? ⟨w.heap.size, 1, none⟩ = _ from World.cell?_alloc_at _ _ _ _ rfl]; rfl)⟩
  have HB1 : Hid (Below w.heap.size w (w.alloc (.cells #[.int .u64 (x : Int), .int .u64 (y : Int)] 70)).drew) := Lib.hid (((Below.refl _ _).alloc (Nat.le_refl _) _).drew)
  have HS1 : Hid ((w.alloc (.cells #[.int .u64 (x : Int), .int .u64 (y : Int)] 70)).drew.heap.size = w.heap.size + 1) := Lib.hid (by simp [World.drew])
  refine atB_start (B := w.heap.size + 1) (by kernel_rfl) (n := 8) rfl ?_
  generalize (w.alloc (.cells #[.int .u64 (x : Int), .int .u64 (y : Int)] 70)).drew = w1 at *
  (refine atB_read 0 (v := ?_) rfl (by kernel_rfl) (by kernel_rfl) (by kernel_rfl) (fun _ _ _ h => h) (.inl ⟨by rfl, fun u hu => ?_⟩) ?_; rotate_left; (focus (have q1 := HC.out u hu; go_simp; try with_reducible rfl)); simp only [Act.put, List.setIfInBounds_toArray, List.set_cons_zero, List.set_cons_succ])
  (refine atB_read 1 (v := ?_) rfl (by kernel_rfl) (by kernel_rfl) (by kernel_rfl) (fun _ _ _ h => h) (.inl ⟨by rfl, fun u hu => ?_⟩) ?_; rotate_left; (focus (have q1 := HC.out u hu; go_simp; try with_reducible rfl)); simp only [Act.put, List.setIfInBounds_toArray, List.set_cons_zero, List.set_cons_succ])
  (refine atB_read 3 (v := ?_) rfl (by kernel_rfl) (by kernel_rfl) (by kernel_rfl) (fun _ _ _ h => h) (.inl ⟨by rfl, fun u hu => ?_⟩) ?_; rotate_left; (focus (have q1 := HC.out u hu; go_simp; try with_reducible rfl)); simp only [Act.put, List.setIfInBounds_toArray, List.set_cons_zero, List.set_cons_succ])
  (refine atB_read 4 (v := ?_) rfl (by kernel_rfl) (by kernel_rfl) (by kernel_rfl) (fun _ _ _ h => h) (.inl ⟨by rfl, fun u hu => ?_⟩) ?_; rotate_left; (focus (have q1 := HC.out u hu; go_simp; try with_reducible rfl)); simp only [Act.put, List.setIfInBounds_toArray, List.set_cons_zero, List.set_cons_succ])
  refine atB_make 2 rfl (by kernel_rfl) (fun K hK => ?_)
  go_simp
  refine Calls.mono (number_any x HX.out _) ?_
  rintro e w2 ⟨v2, rfl, hown2, hb2⟩
  have HB2 := Lib.hid hb2
  have HO2 := Lib.hid hown2
  have HZ1 := HS1.out
  refine hK _ _ (HB2.out.mono (by omega)) ?_
  clear hK K hb2 hown2
  try simp only [Act.put, List.setIfInBounds_toArray, List.set_cons_zero, List.set_cons_succ]
  refine atB_make 5 rfl (by kernel_rfl) (fun K hK => ?_)
  go_simp
  refine Calls.mono (number_any y HY.out _) ?_
  rintro e w3 ⟨v3, rfl, hown3, hb3⟩
  have hz2 := HB2.out.size
  have hz3 := hb3.size
  have HB3 := Lib.hid hb3
  have HO3 := Lib.hid (own_below HO2.out hb3)
  obtain ⟨ad, c3, rfl, hby3⟩ := form_some hown3
  have HY3 := Lib.hid hby3
  refine hK _ _ (HB3.out.mono (by omega)) ?_
  clear hK K hb3 hown3 hby3
  try simp only [Act.put, List.setIfInBounds_toArray, List.set_cons_zero, List.set_cons_succ]
  refine atB_make 6 rfl (by kernel_rfl) (fun K hK => ?_)
  have hl1 := form_len64 HX.out
  have hl2 := form_len64 HY.out
  rw [if_pos (by rfl)]
  refine wp_addsome (.tmp 5) (.tmp 8) 23 rfl w1.heap.size 5 i0 (.int .u8 0) 1 Try.underlying23 HI.out ix0 ix1 ix2 rfl _ _ _ rfl HO3.out _ _ ad (form y).length c3 (bv (form y)) rfl (bv_length _) HY3.out (bv_one _) (by unfold maxLen; omega) (by omega) (by omega) ?_
  intro v4 w4 hown4 hb4
  have HB4 := Lib.hid (hb4 w1 (HB2.out.trans (HB3.out.mono hz2)))
  have HO4 : Hid (w4.ownsRow w1.heap.size 5 1 v4 (form x ++ form y).length (bv (form x ++ form y))) := Lib.hid (by rw [bv_append, List.length_append]; exact hown4)
  refine hK _ _ ((hb4 w3 (Below.refl _ _)).mono (by omega)) ?_
  clear hK K hb4 hown4
  try simp only [Act.put, List.setIfInBounds_toArray, List.set_cons_zero, List.set_cons_succ]
  (refine atB_read 7 (v := ?_) rfl (by kernel_rfl) (by kernel_rfl) (by kernel_rfl) (fun _ _ _ h => h) (.inl ⟨by rfl, fun u hu => ?_⟩) ?_; rotate_left; (focus (go_simp; try with_reducible rfl)); simp only [Act.put, List.setIfInBounds_toArray, List.set_cons_zero, List.set_cons_succ])
  refine atB_done (by kernel_rfl) ?_
  go_wp2_with fail
  go_ret
  exact ⟨v4, rfl, own_lower HO4.out (by omega), HB1.out.trans (HB4.out.mono (by omega))⟩
end Go.Proofs.Ytdggemdgndiafaa
