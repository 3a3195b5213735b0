/- What a crash leaves of a file. -/
import Derived.Test.YthcepihibnmgfaaDwrong
import Derived.WalkLawsBesides
namespace Go.Proofs.Ythcepihibnmgfaa
open Go.RowKit Go.Maps

theorem head_run (kl : IntKind) (A : Option Addr) (n c k : Nat) (hk : k ≤ n) (hc : n ≤ c) : ∃ A2, (∀ l : List Nat, l.length = n → ∀ (W : World) (lo hi : Nat), By W lo hi A l → By W lo hi A2 (l.take k)) ∧ (A2 = none → A = none) ∧
    ∀ w, (Instr.slice 35 (.slice A n c) none (some (.int kl (k : Int))) none).run Try.prog w = .ok (.slice A2 k c) w := by
  obtain ⟨i0, hi, _, hz1, _⟩ := info_parts t5info
  refine ⟨if c = 0 then A else A.map (·.add 0), fun l hl W lo hi' h => ?_, ?_, fun w => ?_⟩
  · have h2 := By.drop (k := 0) (cap := c) h (by omega) (by omega)
    unfold By
    rw [bv_take]
    exact Sl.take h2 k
  · split
    · exact id
    · cases A <;> simp
  · have he : Try.prog.underlying 35 = some (.slice (Try.prog.elem 35)) := by kernel_rfl
    have hs : (sizeOf (Try.prog.elem 35)).run Try.prog w = .ok 1 w := by
      have e : Try.prog.elem 35 = 5 := by kernel_rfl
      rw [e]
      simp [Go.sizeOf, typeInfo, hi, hz1]
    rw [run_slice_h w 35 A n c he kl (k : Int) (by omega) (by omega), hs]
    simp [Result.andThen, sliced]

/-- How many bytes are left. -/
def leftN (ks : List (ByteArray × Int)) (f : Fl) : Nat := f.lasts + (min (look ks f.name) ((f.data.length : Int) - (f.lasts : Int))).toNat
/-- What a crash leaves of a file. -/
def crashed (ks : List (ByteArray × Int)) (f : Fl) : Fl := ⟨f.name, f.data.take (leftN ks f), leftN ks f⟩
theorem leftN_le {ks : List (ByteArray × Int)} {f : Fl} (h : f.lasts ≤ f.data.length) : leftN ks f ≤ f.data.length := by unfold leftN; omega
theorem crashed_len {ks : List (ByteArray × Int)} {f : Fl} (h : f.lasts ≤ f.data.length) : (crashed ks f).data.length = leftN ks f := by
  show (f.data.take (leftN ks f)).length = _
  rw [List.length_take]; have := leftN_le (ks := ks) h; omega
theorem look_nonneg {ks : List (ByteArray × Int)} (h : anyNeg ks = false) (n : List UInt8) : 0 ≤ look ks n := by
  unfold look
  cases hq : ks.reverse.find? fun x => x.1.data.toList == n with
  | none => simp
  | some x =>
    have := List.any_eq_false.1 h x (by simpa using List.mem_of_find?_eq_some hq)
    simpa using this
theorem look_wf {ks : List (ByteArray × Int)} (h : ∀ x ∈ ks, -9223372036854775808 ≤ x.2 ∧ x.2 ≤ 9223372036854775807) (n : List UInt8) : look ks n ≤ 9223372036854775807 := by
  unfold look
  cases hq : ks.reverse.find? fun x => x.1.data.toList == n with
  | none => simp
  | some x => exact (h x (by simpa using List.mem_of_find?_eq_some hq)).2

theorem enters_crash2 : ∀ args w, (callFunc 50 args).run Try.prog w = .ok (.enter 50 args) w := enters_of Try.func50 (by kernel_rfl) rfl

set_option maxRecDepth 100000 in
set_option maxHeartbeats 2000000 in
theorem crash2_left {w : World} {S : Nat → Prop} {B bL mL n : Nat} {ks : List (ByteArray × Int)} (hks : ∀ x ∈ ks, x.1.size ≤ maxLen) (hwf : ∀ x ∈ ks, -9223372036854775808 ≤ x.2 ∧ x.2 ≤ 9223372036854775807) (hneg : anyNeg ks = false)
    (ho : w.ownsMap Try.prog 9 (plainElem Try.prog 3) mL n (loosed ks)) (h0 : w.cell? ⟨bL, 0, none⟩ = some (.map (some mL)))
    (A : World) (f : Fl) (v : Value) (hf : FileAt w S B f v) (hnm : f.name.length ≤ maxLen) (hfl : f.data.length ≤ 1048576) (hb : Below w.heap.size w A) :
    Calls Try.prog 50 (#[encStr f.name, v] ++ #[.pointer (some ⟨bL, 0, none⟩)]) A (LeftAns w.heap.size (crashed ks f) A) := by
  obtain ⟨A0, c, rfl, hbs⟩ := hf.bs
  have hlast := hf.lasts
  have HB := Lib.hid (hbs.below hb (Nat.le_refl _))
  have HS := Lib.hid hb.size
  have hx : Ext w A := hb
  obtain ⟨L, hL⟩ : ∃ L, L = f.data.length := ⟨_, rfl⟩
  obtain ⟨y, hy⟩ : ∃ y, y = f.lasts := ⟨_, rfl⟩
  obtain ⟨z, hz⟩ : ∃ z, z = look ks f.name := ⟨_, rfl⟩
  have hz0 : 0 ≤ z := by rw [hz]; exact look_nonneg hneg _
  have hz1 : z ≤ 9223372036854775807 := by rw [hz]; exact look_wf hwf _
  rw [← hL] at hlast hfl HB
  rw [← hy] at hlast
  have hkey : keyOf Try.prog 9 (encStr f.name) = some (.string f.name) := by
    have := WideMaps.keyOf_string_mk (P := Try.prog) (s := ⟨f.name.toArray⟩) Try.underlying9 (by simpa [ByteArray.size] using hnm)
    simpa [encStr] using this
  have hlook : ∀ W, Ext A W → (Instr.lookup 88 (.map (some mL)) (encStr f.name) false).run Try.prog W = .ok (.int .i64 z) W := fun W hW => by
    have hW2 := Ext.trans hx hW
    obtain ⟨cc, hrun, hat, _⟩ := (map_kept ho (hW2.block _ ho.lt)).lookup_int lawS lawI Try.underlying3 (zeroInt W) hkey
    rw [(loose_inv ks hks).at_] at hat
    have e : look ks f.name = cc := by injection hat with hat; injection hat
    rw [hrun, hz, e]
  have hcell := ext_cell hx h0
  have q0 := cell_new (cell_new hcell (.cells #[.slice A0 L c, .int .i64 (y : Int)] 96)) (.cells #[.slice none 0 0, .int .i64 0] 96)
  have q1 := hlook ((A.alloc (.cells #[.slice A0 L c, .int .i64 (y : Int)] 96)).alloc (.cells #[.slice none 0 0, .int .i64 0] 96)) ((ext_alloc _ _).trans (ext_alloc _ _))
  have HN : Hid (((y + (min z ((L : Int) - (y : Int))).toNat : Nat)) = leftN ks f) := by unfold Hid leftN; rw [← hz, ← hL, ← hy]
  obtain ⟨k, hk⟩ : ∃ k, k = y + (min z ((L : Int) - (y : Int))).toNat := ⟨_, rfl⟩
  have hkL : k ≤ L := by omega
  rw [← hk] at HN
  have hcl := crashed_len (ks := ks) (f := f) hf.lasts
  rw [← HN.out] at hcl
  have HBS := HB.out
  obtain ⟨A1, c1, e1, hlc, hcm, hnil, hby⟩ := HBS
  injection e1 with e1 e2 e3
  subst e1 e3
  obtain ⟨A2, hA2, hA2n, hrun⟩ := head_run .i64 A0 L c k hkL (by rw [← hL] at hlc; exact hlc)
  have HRES : Hid (LeftAns w.heap.size (crashed ks f) A = LeftAns w.heap.size ⟨f.name, f.data.take k, k⟩ A) := by unfold Hid crashed; rw [HN.out]
  have HLEN : Hid ((f.data.take k).length = k) := by unfold Hid; simp; omega
  have HBY : Hid (By A 0 w.heap.size A2 (f.data.take k)) := hA2 f.data hL.symm A 0 w.heap.size hby
  have HNIL : Hid (A2 = none → c = 0) := fun h => hnil (hA2n h)
  have HC : Hid (k ≤ c ∧ c ≤ maxLen) := ⟨by rw [← hL] at hlc; omega, hcm⟩
  rw [HRES.out, ← hL, ← hy]
  have hmn : (y : Int) + min z ((L : Int) - (y : Int)) = (k : Int) := by omega
  have HK := Lib.hid hk
  clear e2 hlook hcell hf hbs hx hL hy hz hkey ho h0 hks hwf hneg hnm hlc hcm hnil hby hA2 hA2n hk hcl hb HB
  rw [show (#[encStr f.name, Value.agg #[.slice A0 L c, .int .i64 (y : Int)]] ++ #[.pointer (some ⟨bL, 0, none⟩)] : Array Value) = #[encStr f.name, .agg #[.slice A0 L c, .int .i64 (y : Int)], .pointer (some ⟨bL, 0, none⟩)] from rfl]
  go_enter Try.func50, Try.ntmps50
  go_wp2
  refine bodyPost_ret (v := .agg #[.slice A2 k c, .int .i64 (k : Int)]) ?_ rfl ?_
  · simp [results, Try.results50, go_sem]
  · refine ⟨A2, c, ?_, ((Below.refl _ _).alloc (Nat.le_refl _) _).alloc (by simp) _, ?_⟩
    · show _ = Ending.returned (.agg #[.slice A2 (f.data.take k).length c, .int .i64 (k : Int)])
      rw [HLEN.out]
    · have hb : Bs A 0 w.heap.size (.slice A2 (f.data.take k).length c) (f.data.take k) := ⟨A2, c, rfl, by rw [HLEN.out]; exact HC.out.1, HC.out.2, HNIL.out, HBY.out⟩
      exact (hb.alloc HS.out _).alloc (by simp; exact Nat.le_succ_of_le HS.out) _
end Go.Proofs.Ythcepihibnmgfaa
