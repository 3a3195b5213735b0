/- All: going over the files, each with its bytes. -/
import Derived.Test.YthcepihibnmgfaaDcopy
import Derived.Test.YthcepihibnmgfaaDflowin
import Derived.Shelf.RegionOpen
namespace Go.Proofs.Ythcepihibnmgfaa
open Go.RowKit Go.Maps Go.Sort Go.Shelf
attribute [local go_sem] Oper.semAt_some

/-- All makes a function over the disk. -/
theorem all_any (d : Option Addr) (w : World) : Calls Try.prog 41 #[.pointer d] w fun e w' =>
    e = .returned (.func (.func 62) #[] #[.pointer (some ⟨w.heap.size, 0, none⟩)]) ∧ w' = w.alloc (.cells #[.pointer d] 25) := by
  go_enter Try.func41, Try.ntmps41
  go_wp2
  go_ret
  exact ⟨rfl, rfl⟩

/-- Of the k-th file: its name, and its bytes in a row that is new. -/
def AllOk (F : List Fl) (n₁ k : Nat) (x : List UInt8 × Value) (A : World) : Prop := (snames F)[k]? = some x.1 ∧ A.ownsRow n₁ 5 1 x.2 (cur F x.1).data.length (bv (cur F x.1).data)
/-- Between two rounds. -/
structure AllI (J : Nat → Nat → World → Prop) (b0 l : Nat) (n₁ k : Nat) (A : World) : Prop where
  j : J n₁ k A
  box : Boxed A b0 107 (.func (.yield l) #[] #[])
  le : n₁ ≤ A.heap.size

set_option maxRecDepth 100000 in
set_option maxHeartbeats 8000000 in
theorem all_iter {w : World} {d m room bd B : Nat} {S : Nat → Prop} {F : List Fl} {V : List UInt8 → Value} {D : DataW Value} (h : Seen w d m S F V D room) (hfi : ∀ f ∈ F, FileAt w S B f (V f.name)) (hlo : 1024 ≤ room) (hcnt : F.length ≤ 128)
    (hsz : ∀ f ∈ F, f.name.length ≤ maxLen) (htot : tot F ≤ 1048576) (hbd : w.cell? ⟨bd, 0, none⟩ = some (.pointer (some ⟨d, 0, none⟩))) :
    Iter Try.prog 62 #[.pointer (some ⟨bd, 0, none⟩)] F.length (fun x : List UInt8 × Value => #[encStr x.1, x.2]) (AllOk F) (fun A => ∀ k, S k → k < w.heap.size → A.heap[k]? = w.heap[k]?) w := by
  intro mm l J Jx W hx hC hJ hJx h0 hY
  have HSW := Lib.hid (h.ext hx)
  have HFI := Lib.hid hfi
  have HC := Lib.hid hC
  have HJ := Lib.hid hJ
  have HJX := Lib.hid hJx
  have H0 := Lib.hid h0
  have HY := Lib.hid hY
  have HLO := Lib.hid hlo
  have HCNT := Lib.hid hcnt
  have HSZ := Lib.hid hsz
  have HTOT := Lib.hid htot
  have HND := Lib.hid h.con.nodup
  have HWW := Lib.hid hx.size
  have c1 := ext_cell hx hbd
  have c1a := cell_new c1 (.cells #[.func (.yield l) #[] #[]] 107)
  clear h hfi hC hJ hJx h0 hY hlo hcnt hsz htot hbd hx
  have hf1 : Fence.wide.fn 61 := trivial
  have hf2 : Fence.wide.fn 51 := trivial
  refine (callsIn_wide (n := 6)).1 ?_
  refine callsIn_of_wp_marks Try.func62 rfl trivial ?_
  simp only [Try.ntmps62, List.size_toArray, List.length_cons, List.length_nil, Nat.reduceAdd, Nat.reduceSub, Array.replicate_succ, Array.replicate_zero, List.push_toArray, List.append_toArray, List.nil_append, List.cons_append]
  gi_wp2_with (gi_at_call 61; refine (callsIn_wide.2 (each_any _ _)).mono ?_; rintro e w' ⟨rfl, rfl⟩)
  obtain ⟨w1, hw1⟩ : ∃ w1, w1 = (W.alloc (.cells #[.func (.yield l) #[] #[]] 107)).alloc (.cells #[.pointer (some ⟨d, 0, none⟩)] 25) := ⟨_, rfl⟩
  rw [← hw1]
  have HX1 : Hid (Ext W w1) := by rw [hw1]; exact (ext_alloc _ _).trans (ext_alloc _ _)
  have HZ1 : Hid (w1.heap.size = W.heap.size + 2) := by rw [hw1]; simp [Hid]
  have HB0 : Hid (Boxed w1 W.heap.size 107 (.func (.yield l) #[] #[])) := by rw [hw1]; exact ext_heap (ext_alloc _ _) (heap_at _ _ rfl)
  have HB1 : Hid (w1.heap[W.heap.size + 1]? = some (.cells #[.pointer (some ⟨d, 0, none⟩)] 25)) := by rw [hw1]; exact heap_at _ _ (by simp)
  clear hw1
  have hchg : ∀ n₁ k A A', w1.heap.size ≤ n₁ → AllI J W.heap.size l n₁ k A → Chg (Btw w1.heap.size n₁) A A' → AllI J W.heap.size l n₁ k A' := fun n₁ k A A' hn hi hc =>
    ⟨HJ.out n₁ k A A' (Nat.le_trans HX1.out.size hn) hi.j (hc.mono fun i _ hb => ⟨Nat.le_trans HX1.out.size hb.1, hb.2⟩), boxed_chg hi.box hc (fun hb => by have := hb.1; have := HZ1.out; omega), Nat.le_trans hi.le hc.size⟩
  have HCHG := Lib.hid hchg
  clear hchg
  refine wpIn_over rfl enters_each (each_iter (HSW.out.ext HX1.out) HLO.out HCNT.out HSZ.out (cell_of HB1.out rfl)) (fun _ => rfl) (AllI J W.heap.size l) (fun c A => c = .ret ∧ Jx A) (fun _ _ _ _ => trivial) ?hI ?hIx ?h0 ?round ?done ?stop
  case hI => intro n₁ k A A' hn hi hc; exact HCHG.out _ _ _ _ (by omega) hi hc
  case hIx => rintro c A A' ⟨rfl, hj⟩ hc; exact ⟨rfl, HJX.out A A' hj (hc.mono fun i _ (hb : w1.heap.size ≤ i) => Nat.le_trans HX1.out.size hb)⟩
  case h0 => intro A hxA; exact ⟨H0.out A (Ext.trans HX1.out hxA), ext_heap hxA HB0.out, Nat.le_refl _⟩
  case round =>
    rintro l2 n₁ k ⟨x, vv⟩ A hl1 hl2 hn hnA hi hk ⟨hok, hvv⟩
    have hok' : (snames F)[k]? = some x := hok
    have hvv' : vv = V x := hvv
    subst hvv'
    have hmem : x ∈ snames F := List.mem_of_getElem? hok'
    obtain ⟨f, hf, hfx⟩ := snames_mem.1 hmem
    have hcur := cur_mem HND.out hf
    rw [hfx] at hcur
    have hkeep := HC.out n₁ k A hi.j
    have hfA := (HFI.out f hf).keep1 (w' := A) (S' := S) (fun b hb => hkeep b ((HFI.out f hf).blk_lt hb).2.1 ((HFI.out f hf).blk_lt hb).1) (fun _ hk => hk)
    rw [hfx] at hfA
    obtain ⟨A0, c0, hv, hbs⟩ := hfA.bs
    have hwlt : ∀ b, blk (V x) = some b → b < w.heap.size := fun b hb => by rw [← hfx] at hb; exact ((HFI.out f hf).blk_lt hb).1
    have HAGAIN : Hid (∀ A2, J n₁ k A2 → Bs A2 0 A2.heap.size (.slice A0 f.data.length c0) f.data) := by
      intro A2 hj
      have hkeep := HC.out n₁ k A2 hj
      have hfA := (HFI.out f hf).keep1 (w' := A2) (S' := S) (fun b hb => hkeep b ((HFI.out f hf).blk_lt hb).2.1 ((HFI.out f hf).blk_lt hb).1) (fun _ hk => hk)
      rw [hfx] at hfA
      obtain ⟨A0', c0', hv', hbs'⟩ := hfA.bs
      rw [hv] at hv'
      injection hv' with e1
      have e2 := congrArg (fun a => a[0]?) e1
      injection e2 with e2
      injection e2 with e2 e3 e4
      subst e2 e4
      exact hbs'
    rw [hv]
    have HBS := Lib.hid hbs
    have HI := Lib.hid hi
    have HN := Lib.hid hn
    have HL := Lib.hid (And.intro hl1 hl2)
    have HK := Lib.hid hk
    have HF := Lib.hid hf
    have HCUR := Lib.hid hcur
    have HOK := Lib.hid hok'
    clear hok hok' hvv hi hn hl1 hl2 hk hmem hcur hf hfx hnA hkeep hfA hbs hwlt hv
    gi_wp2
    refine ⟨?_, fun A2 hc => ?_⟩
    · exact Step.of_chg (Chg.alloc (S := fun _ => False) _ _) HI.out.le (fun _ _ _ h => h)
    have HBX : Hid (A2.heap[A.heap.size]? = some (.cells #[.slice A0 f.data.length c0, .int .i64 (f.lasts : Int)] 96 (0, 0))) := (hc.block _ (by simp) (by have := HI.out.le; have := HL.out.2; omega)).trans (heap_at _ _ rfl)
    have HI2 := Lib.hid (HCHG.out _ _ _ _ (by have := HN.out; omega) (HCHG.out _ _ _ _ (by have := HN.out; omega) HI.out (Chg.alloc A (.cells #[.slice A0 f.data.length c0, .int .i64 (f.lasts : Int)] 96))) (hc.mono fun i _ e => ⟨by have := HL.out.1; omega, by have := HL.out.2; omega⟩))
    have q0 := HI2.out.box.cell
    have q1 := cell_of (k := 0) HBX.out rfl
    have HBS2 : Hid (Bs A2 0 A2.heap.size (.slice A0 f.data.length c0) f.data) := HAGAIN.out A2 HI2.out.j
    have HSZ2 : Hid (A.heap.size ≤ A2.heap.size) := by have := hc.size; simp at this; exact Nat.le_trans (Nat.le_succ _) this
    have HL2 : Hid (n₁ ≤ A2.heap.size) := Nat.le_trans HI.out.le HSZ2.out
    have HLEN : Hid (f.data.length ≤ 1099511627776) := by have := tot_mem (F := F) HF.out; have := HTOT.out; unfold Hid; omega
    gi_wp2_with fail
    have HMIX : Try.prog.follows .mixedOrders = true := by kernel_rfl
    gi_region_with_o (first
     | (gi_at_call 51
        go_loud (
         refine CallsIn.mono (CallsIn.inRound l2 (callsIn_wide.2 (clone_any _ 0 A2.heap.size _ A2.drew HBS2.out (Nat.le_refl _) HLEN.out))) ?_
         rintro e A3 ⟨v, rfl, hown, hb⟩
         have HI3 := Lib.hid (HCHG.out n₁ k A2 A3 (by have := HN.out; omega) HI2.out ((Chg.drew A2).trans (Chg.of_ext hb)))
         have HRD := HY.out n₁ k (x, v) A3 (by have := HN.out; have := HZ1.out; omega) (Nat.le_trans HL2.out hb.size) HI3.out.j HK.out ⟨HOK.out, by show World.ownsRow A3 n₁ _ _ _ _ _; rw [HCUR.out]; exact ownsRow_base hown HL2.out⟩
         obtain ⟨fn, tmps, assign, body, hy, hR⟩ := HRD
         dsimp only at hy
         have HR := Lib.hid (roundIn_any (m' := 3) hR)
         have HB3 := Lib.hid hb
         have q3 := HI3.out.box.cell
         clear hR hown hb))
     | (refine RoundIn.mono (F := Fence.wide.inRound l2) (n := 3) HR.out ?_
        go_loud (
         rintro e A4 ⟨hst, hh⟩
         obtain ⟨g, rfl, hj⟩ : ∃ g : Bool, e = .returned (.bool g) ∧ Hid (match g with | true => J n₁ (k + 1) A4 | false => Jx A4) := by rcases hh with ⟨rfl, hj⟩ | ⟨rfl, hj⟩ <;> exact ⟨_, rfl, hj⟩
         have HST := Lib.hid hst
         clear hst hh)))
    all_goals cases g
    all_goals gi_wp2_with fail
    all_goals first
      | (have hst := HST.out
         have hs1 := HX1.out.size
         have hn := HN.out
         have hz := HZ1.out
         have hs23 : Step w1.heap.size n₁ A2 A3 := Step.of_chg (S := fun _ => False) ((Chg.drew A2).trans (Chg.of_ext HB3.out)) HL2.out (fun _ _ _ h => h)
         have hs34 : Step w1.heap.size n₁ A3 A4 := ⟨fun i h1 h2 => hst.stay i (by omega) h2, hst.os, hst.tape, hst.output, hst.size⟩
         have hle : n₁ ≤ A3.heap.size := HI3.out.le
         first
           | exact ⟨hs23.trans hs34, ⟨hj.out, (hst.stay W.heap.size (Nat.le_refl _) (by omega)).trans HI3.out.box, Nat.le_trans hle hst.size⟩⟩
           | exact ⟨hs23.trans hs34, rfl, hj.out⟩)
  case done =>
    rintro D' n₁ W' hDl hDn hn hi hD
    have HDL := Lib.hid (And.intro hDl hDn)
    have HI := Lib.hid hi
    have HN := Lib.hid hn
    have HDD := Lib.hid hD
    clear hDl hDn hn hi hD
    gi_wp2
    refine ⟨by simp, .inl ⟨_, _, rfl, run_takeDeferred HDD.out, ?_⟩⟩
    refine ⟨_, results_none rfl _ _ _, ⟨⟨_, rfl⟩, .inl ⟨n₁, by have := HN.out; have := HZ1.out; omega, ?_⟩⟩⟩
    exact HJ.out n₁ _ _ _ (by have := HN.out; have := HZ1.out; omega) HI.out.j ((putObj_chg W' D' _).mono fun i _ e => ⟨by have := HDL.out.1; have := HZ1.out; omega, by have := HDL.out.2; omega⟩)
  case stop =>
    rintro D' c W' hDl ⟨rfl, hjx⟩ hD
    have HDL := Lib.hid hDl
    have HJX2 := Lib.hid hjx
    have HDD := Lib.hid hD
    clear hDl hjx hD
    gi_wp2
    refine ⟨by simp, .inl ⟨_, _, rfl, run_takeDeferred HDD.out, ?_⟩⟩
    refine ⟨_, results_none rfl _ _ _, ⟨⟨_, rfl⟩, .inr ?_⟩⟩
    exact HJX.out _ _ HJX2.out ((putObj_chg W' D' _).mono fun i _ e => by have := HDL.out; have := HZ1.out; show W.heap.size ≤ i; omega)
end Go.Proofs.Ythcepihibnmgfaa
