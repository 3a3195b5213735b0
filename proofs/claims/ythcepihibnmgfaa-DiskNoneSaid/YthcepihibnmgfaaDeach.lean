/- Going over a disk's files by rising names. -/
import Derived.Test.YthcepihibnmgfaaDlay
import Derived.Test.YthcepihibnmgfaaDloop
import Derived.Test.YthcepihibnmgfaaDops
namespace Go.Proofs.Ythcepihibnmgfaa
open Go.RowKit Go.Maps Go.Sort Go.Shelf

/-- The names, rising. -/
def snames (F : List Fl) : List (List UInt8) := (F.map Fl.name).mergeSort (fun x y => decide (x ≤ y))
theorem snames_length (F : List Fl) : (snames F).length = F.length := by simp [snames]
theorem snames_mem {F : List Fl} {n : List UInt8} : n ∈ snames F ↔ ∃ f ∈ F, f.name = n := by simp [snames]

theorem keys_perm {w : World} {m n : Nat} {D : DataW Value} {F : List Fl} {V : List UInt8 → Value} (ho : w.ownsMap Try.prog 9 rdf m n D) (hC : Con D F V) : (F.map Fl.name).Perm (strKeys D) :=
  Collected.perm (left := fun _ => false) ⟨hC.nodup, fun x => by rw [hC.has]; simp⟩ ho lawS Try.underlying9 (fun _ => rfl)

/-- each makes a function over the disk. -/
theorem each_any (d : Option Addr) (w : World) : Calls Try.prog 61 #[.pointer d] w fun e w' =>
    e = .returned (.func (.func 68) #[] #[.pointer (some ⟨w.heap.size, 0, none⟩)]) ∧ w' = w.alloc (.cells #[.pointer d] 25) := by
  go_enter Try.func61, Try.ntmps61
  go_wp2
  go_ret
  exact ⟨rfl, rfl⟩

theorem row_cell {w : World} {B n c : Nat} {A : Option Addr} {t : TypeId} {xs : List Value} (h : w.ownsRow B t 1 (.slice A n c) n xs) {k : Nat} (hk : k < xs.length) : ∃ b, ∃ _ : Unit, A = some ⟨b, 0, none⟩ ∧ w.cell? ⟨b, k, none⟩ = some xs[k] := by
  rcases h.2 with ⟨e, h0⟩ | ⟨g, cap, cur, e, _, hh, hn, _, hc, ht⟩
  · have := h.1; omega
  · injection e with e1 e2 e3
    subst e1 e3
    refine ⟨g, (), rfl, ?_⟩
    rw [h.cellAt k (by have := h.1; omega), List.getElem?_eq_getElem hk]

set_option maxRecDepth 100000 in
set_option maxHeartbeats 4000000 in
theorem each_iter {w : World} {d m room bd : Nat} {S : Nat → Prop} {F : List Fl} {V : List UInt8 → Value} {D : DataW Value} (h : Seen w d m S F V D room) (hlo : 1024 ≤ room) (hcnt : F.length ≤ 128)
    (hsz : ∀ f ∈ F, f.name.length ≤ maxLen) (hbd : w.cell? ⟨bd, 0, none⟩ = some (.pointer (some ⟨d, 0, none⟩))) :
    Iter Try.prog 68 #[.pointer (some ⟨bd, 0, none⟩)] F.length (fun x : List UInt8 × Value => #[encStr x.1, x.2]) (fun _ k x _ => (snames F)[k]? = some x.1 ∧ x.2 = V x.1) (fun _ => True) w := by
  intro mm l J Jx W hx _ hJ hJx h0 hY
  have HS := Lib.hid (h.ext hx)
  have HJ := Lib.hid hJ
  have HJX := Lib.hid hJx
  have H0 := Lib.hid h0
  have HY := Lib.hid hY
  have HCNT := Lib.hid hcnt
  have HSZ := Lib.hid hsz
  have c1 := ext_cell hx hbd
  have c2 := (h.ext hx).c1
  have HN := Lib.hid (none_no (⟨room, hlo, (h.ext hx).c0⟩ : IsDisk W d))
  clear h hlo hbd hJ hJx h0 hY hcnt hx hsz
  have hf1 : Fence.wide.fn 52 := trivial
  have hf2 : Fence.wide.fn 69 := trivial
  have hf3 : Fence.wide.fn 71 := trivial
  have hf4 : Fence.wide.fn 70 := trivial
  refine (callsIn_wide (n := 6)).1 ?_
  refine callsIn_of_wp Try.func68 rfl trivial ?_ rfl
  simp only [Try.ntmps68, List.size_toArray, List.length_cons, List.length_nil, Nat.reduceAdd, Nat.reduceSub, Array.replicate_succ, Array.replicate_zero, List.push_toArray, List.append_toArray, List.nil_append, List.cons_append]
  gi_wp2_with (first
    | (gi_at_call 52; refine (callsIn_wide.2 HN.out).mono ?_; rintro e w' ⟨rfl, rfl⟩)
    | (gi_at_call 69; refine (callsIn_wide.2 (mapsClone 9 rdf m F.length D W HS.out.own)).mono ?_; rintro e w1 ⟨rfl, ho1, ho2, hb1⟩; have HO1 := Lib.hid ho1; have HB1 := Lib.hid hb1; clear ho1 ho2 hb1)
    | (gi_at_call 71; refine (mapsKeys _ _).mono ?_; rintro e w2 ⟨rfl, rfl⟩)
    | (gi_at_call 70; refine (sortedKeys W.heap.size F.length D rdf w1 HO1.out (by rw [HS.out.con.size]; have := HCNT.out; unfold maxLen; omega) (by rw [HS.out.con.size]; have := HCNT.out; omega)).mono ?_; rintro e w3 ⟨v, ss, rfl, hS, hrow, _, hb⟩; have HSS := Lib.hid hS; have HROW := Lib.hid hrow; have HB3 := Lib.hid hb; obtain ⟨A, c, rfl, q1, q2, q3, q4⟩ := Sl.of_own hrow; clear hS hrow hb q1 q2 q3 q4))
  have hsn : ss.mergeSort (fun x y => decide (x ≤ y)) = snames F := Go.mergeSort_of_perm (HSS.out.trans (keys_perm HO1.out HS.out.con).symm)
  have hln : ss.length = F.length := by rw [← snames_length F, ← hsn]; simp
  rw [hsn] at HROW
  rw [hln] at HROW ⊢
  have HB13 : Hid (Ext w1 w3) := (ext_alloc _ _).trans HB3.out
  have HX3 : Hid (Ext W w3) := Ext.trans HB1.out HB13.out
  have HLAST := Lib.hid (HROW.out.lt)
  have HO3 := Lib.hid (map_kept HO1.out (HB13.out.block _ HO1.out.lt))
  have HSN : Hid (∀ x ∈ snames F, x.length ≤ maxLen) := fun x hx => by obtain ⟨f, hf, rfl⟩ := snames_mem.1 hx; exact HSZ.out f hf
  have HJ0 := Lib.hid (H0.out w3 HX3.out)
  have hlen : (F.length : Int) ≤ 128 := by have := HCNT.out; omega
  clear c1 c2 hsn hln HB3
  gi_loopw [5, 17] (fun _ i wr => ∃ k : Nat, k ≤ F.length ∧ i = .int .i64 (k : Int) ∧ Hid (J w3.heap.size k wr) ∧ Hid (Step W.heap.size w3.heap.size w3 wr))
    (fun _ i _ => F.length - (intOf i).toNat)
  case atStart => exact ⟨0, Nat.zero_le _, rfl, HJ0, Step.refl _ _ _⟩
  case round =>
    obtain ⟨k, hk, rfl, HJK, HST⟩ := hrel
    by_cases hlt : k < F.length
    · have hks : k < (snames F).length := by rw [snames_length]; exact hlt
      obtain ⟨x, hx⟩ : ∃ x, x = (snames F)[k] := ⟨_, rfl⟩
      obtain ⟨bA, g, rfl, hcell⟩ := row_cell HROW.out (k := k) (by simpa using hks)
      rw [List.getElem_map, ← hx] at hcell
      have hge := HLAST.out bA rfl
      have hcell' : wr.cell? ⟨bA, k, none⟩ = some (encStr x) := (World.cell?_of_block (a := ⟨bA, k, none⟩) (HST.out.stay bA (by have := HB1.out.size; simp at hge; omega) hge.2)).trans hcell
      obtain ⟨v, hv⟩ : ∃ v, v = V x := ⟨_, rfl⟩
      have hmem : x ∈ snames F := by rw [hx]; exact List.getElem_mem hks
      obtain ⟨f, hf, hfx⟩ := snames_mem.1 hmem
      have hxl := HSN.out x hmem
      have hlook := (look_yes (w := wr) (map_kept HO3.out (HST.out.stay W.heap.size (Nat.le_refl _) (Nat.lt_of_lt_of_le HO1.out.lt HB13.out.size))) HS.out.con hf (s := ⟨x.toArray⟩) (by simpa [ByteArray.size] using hxl) (by simpa using hfx)).1
      rw [hfx, ← hv] at hlook
      have HRD := HY.out w3.heap.size k (x, v) wr HX3.out.size HST.out.size HJK.out hlt ⟨by rw [List.getElem?_eq_getElem hks, hx], hv⟩
      obtain ⟨fn, tmps, assign, body, hy, hR⟩ := HRD
      dsimp only at hy
      unfold encStr at hy hcell'
      have HR := Lib.hid (roundIn_any (m' := 5) hR)
      clear hR hge hcell hv hmem hfx hxl hx hks hf
      gi_wp2
      clear hlook hcell' hy
      refine RoundIn.mono HR.out ?_
      rintro e W3 ⟨hst, (⟨rfl, hj⟩ | ⟨rfl, hjx⟩)⟩
      · have HST3 := Lib.hid (HST.out.trans hst)
        have HJ3 := Lib.hid hj
        clear hst hj
        gi_wp2
        go_roundw
        case rel => exact ⟨k + 1, by omega, by go_num, HJ3, HST3⟩
        case measure => simp [intOf]; omega
      · have HX := Lib.hid hjx
        clear hst hjx
        gi_wp2
        refine bodyPost_ret (results_none rfl _ _ _) rfl ?_
        exact ⟨⟨_, rfl⟩, .inr HX.out⟩
    · obtain rfl : k = F.length := by omega
      gi_wp2
      go_end0
      exact ⟨⟨_, rfl⟩, .inl ⟨_, HX3.out.size, HJK.out⟩⟩
end Go.Proofs.Ythcepihibnmgfaa
