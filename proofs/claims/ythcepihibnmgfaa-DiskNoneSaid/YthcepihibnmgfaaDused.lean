/- How many bytes all files have: a sum over the map, in whatever order. -/
import Derived.Test.YthcepihibnmgfaaDlacks
import Derived.LoopN
namespace Go.Proofs.Ythcepihibnmgfaa
open Go.RowKit Go.Maps

/-- The bytes of those files that are still to come. -/
def rest (F : List Fl) (left : Lit → Bool) : Nat := tot (F.filter fun f => left (.string f.name))
theorem tot_cons (f : Fl) (F : List Fl) : tot (f :: F) = f.data.length + tot F := by simp [tot]
theorem rest_step {F : List Fl} (h : (F.map Fl.name).Nodup) {f : Fl} (hf : f ∈ F) {left : Lit → Bool} (hl : left (.string f.name) = true) (hk : (Lit.string f.name).sameKey (.string f.name) = true) :
    rest F left = f.data.length + rest F (fun z => left z && !z.sameKey (.string f.name)) := by
  unfold rest
  have p := del_perm h hf
  have e1 : tot (F.filter fun f => left (.string f.name)) = tot ((f :: del F f.name).filter fun f => left (.string f.name)) := tot_perm (p.filter _)
  rw [e1, List.filter_cons_of_pos (by simpa using hl), tot_cons]
  congr 1
  have e2 : tot (F.filter fun g => (left (.string g.name) && !(Lit.string g.name).sameKey (.string f.name))) = tot ((f :: del F f.name).filter fun g => (left (.string g.name) && !(Lit.string g.name).sameKey (.string f.name))) := tot_perm (p.filter _)
  rw [e2, List.filter_cons_of_neg (by simp [hk])]
  congr 1
  refine List.filter_congr fun g hg => ?_
  have hne : Lit.string g.name ≠ .string f.name := lit_ne (mem_del.1 hg).2
  simp [sameKey_ne hne]
theorem rest_none {F : List Fl} {left : Lit → Bool} (h : ∀ kl, left kl = false) : rest F left = 0 := by
  unfold rest
  rw [List.filter_eq_nil_iff.2 (fun f _ => by simp [h])]
  rfl
theorem rest_all {F : List Fl} {D : DataW Value} {V : List UInt8 → Value} (h : Con D F V) : rest F (Maps.has D) = tot F := by
  unfold rest
  rw [List.filter_eq_self.2 (fun f hf => (h.has _).2 ⟨f, hf, rfl⟩)]
theorem tot_mem {F : List Fl} {f : Fl} (h : f ∈ F) : f.data.length ≤ tot F := by
  induction F with
  | nil => cases h
  | cons g F ih =>
    rw [tot_cons]
    rcases List.mem_cons.1 h with rfl | h
    · omega
    · have := ih h; omega

/-- An entry that comes is a file. -/
theorem entry_file {F : List Fl} {D : DataW Value} {V : List UInt8 → Value} (hC : Con D F V) {x : List UInt8} {kl : Lit} {v : Value} {y : DataW Value × List MemPlace} (hkey : keyOf Try.prog 9 (encStr x) = some kl) (hv : rdf v = some y) (hat : ∀ zd, D.atKey kl zd = y.1) :
    ∃ f ∈ F, x = f.name ∧ V f.name = v ∧ kl = .string f.name := by
  obtain ⟨x', ex, rfl, _⟩ := Maps.keyOf_str Try.underlying9 hkey
  obtain rfl : x = x' := encStr_inj ex
  obtain ⟨f, hf, rfl⟩ := (hC.has _).1 (has_true_of_atKey hat)
  obtain ⟨_, _, _, _, _, rfl⟩ := rdf_inv hv
  have := (hC.at_ f hf .nil).symm.trans (hat .nil)
  exact ⟨f, hf, rfl, DataW.held.inj this, rfl⟩

set_option maxRecDepth 100000 in
set_option maxHeartbeats 2000000 in
theorem used_seen {w : World} {d m room : Nat} {S : Nat → Prop} {F : List Fl} {V : List UInt8 → Value} {D : DataW Value} (h : Seen w d m S F V D room) (hV : ∀ f ∈ F, ∃ A c x, V f.name = fv A f.data.length c x) (hT : tot F ≤ 1048576) :
    Calls Try.prog 56 #[.pointer (some ⟨d, 0, none⟩)] w fun e w' => e = .returned (.int .i64 (tot F : Int)) ∧ Below w.heap.size w w' := by
  have hc := h.c1
  have hown := h.own
  have HS := Lib.hid h
  have HV := Lib.hid hV
  have HT := Lib.hid hT
  have hlt := hown.lt
  clear h hV hT
  go_enter Try.func56, Try.ntmps56
  go_wp2_with (first
    | (at_range; refine wpList_range_own _ rfl _ 78 rfl 9 96 lawS Try.underlying78 _ m F.length D rfl hown ?_; intro w0 hrg0 hg0 hs0)
    | go_in)
  go_frame
  clear hs0 hlt
  have HRG0 := Lib.hid hrg0
  have HG0 := Lib.hid hg0
  clear hrg0 hg0
  go_loopw [3, 5] (fun t _ wr => ∃ (left : Lit → Bool) (cnt k : Nat), wr.ranges Try.prog 9 rdf m w.heap.size F.length D left cnt ∧ t = .int .i64 (k : Int) ∧ Hid (k + rest F left = tot F) ∧ Below w.heap.size w wr)
    (fun _ _ wr => wr.rangeLeft m w.heap.size)
  case atStart =>
    exact ⟨_, _, 0, HRG0.out, rfl, by unfold Hid; rw [rest_all HS.out.con]; omega, (Below.refl _ _).grown HG0.out (Nat.le_refl _) (fun k e => by cases e)⟩
  case round =>
    obtain ⟨left, cnt, k, hrg, rfl, hk, hB⟩ := hrel
    have HB := Lib.hid hB
    clear hB
    go_wp2_with (first
      | (at_next; refine wpList_next_ranges _ rfl _ rfl 9 lawS rdf encStr (fun q : Option Addr × Nat × Nat × Int => fv q.1 q.2.1 q.2.2.1 q.2.2.2) (fun key kl hk => by obtain ⟨x, hx, _⟩ := Maps.keyOf_str Try.underlying9 hk; exact ⟨x, hx⟩) (fun v y hv => by obtain ⟨A, n, c, x, e, _⟩ := rdf_inv hv; exact ⟨(A, n, c, x), e⟩) m w.heap.size F.length _ _ _ rfl hrg ?_ ?_)
      | go_in)
    · intro hc0 hl0
      have e : k = tot F := by have := hk.out; rw [rest_none hl0] at this; omega
      subst e
      clear hl0 hc0
      go_wp2
      go_ret
      exact ⟨rfl, HB.out⟩
    · intro x A n cc z kl yd yp w2 cnt2 hkey hlk hv hat hrg2 hlt hg2 hs2 hen
      obtain ⟨f, hf, rfl, hcv, hkl⟩ := entry_file HS.out.con hkey hv hat
      subst hkl
      obtain ⟨A', cc', z', hv2⟩ := HV.out f hf
      rw [hcv] at hv2
      have hn : n = f.data.length := by
        have h2 : fv A n cc z = fv A' f.data.length cc' z' := hv2
        unfold fv at h2
        simp at h2
        exact h2.1.2.1
      subst hn
      have HK : Hid (k + f.data.length + rest F (fun z => left z && !z.sameKey (.string f.name)) = tot F) := by
        have := hk.out
        rw [rest_step HS.out.con.nodup hf hlk (WideAt.sameKey_self (lawS.key hkey))] at this
        unfold Hid; omega
      have hle : k + f.data.length ≤ 1048576 := by have := HK.out; have := HT.out; omega
      have HRG := Lib.hid hrg2
      have HOLD := Lib.hid hrg
      have HLT := Lib.hid hlt
      have HB2 := Lib.hid (HB.out.grown hg2 HB.out.size (fun k e => by cases e; exact Nat.le_refl _))
      have hz2 := HB2.out.size
      unfold fv at hen
      clear hcv hv2 hat hlk hv hkey hrg hg2 hs2 hlt hrg2 hk
      have hen1 := hen
      go_wp2
      go_roundw
      case rel => exact ⟨_, cnt2, k + f.data.length, HRG.out.alloc _, by go_num, HK, HB2.out.alloc hz2 _⟩
      case measure => rw [(HRG.out.alloc _).left_eq, HOLD.out.left_eq]; exact HLT.out
end Go.Proofs.Ythcepihibnmgfaa
