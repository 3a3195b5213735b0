/- DiskNone: a disk that is none answers with what it is, and a disk that is one holds a file. -/
import Derived.Test.YthcepihibnmgfaaDnone
import Derived.Test.YthcepihibnmgfaaDnonec
import Derived.Test.YthcepihibnmgfaaDknown
namespace Go.Proofs.Ythcepihibnmgfaa.diskNone
open Go.RowKit Go.Maps Go.Sort Go.Shelf
attribute [local go_sem] Oper.semAt_some

theorem kept_one (w : World) : Kepts (w.alloc (.cells #[.string ⟨#[]⟩, .int .i64 0] 47)) (some ⟨w.heap.size, 0, none⟩) [(⟨#[]⟩, 0)] := by
  refine ⟨.inr ⟨w.heap.size, 0, rfl, by simp, fun i s z hi => ?_⟩, ?_, ?_, by simp⟩
  · match i, hi with
    | 0, hi => injection hi with hi; injection hi with h1 h2; subst h1 h2; exact ⟨cell_of (heap_at _ _ rfl) rfl, cell_of (heap_at _ _ rfl) rfl⟩
  · intro x hx; simp at hx; subst hx; show (0 : Nat) ≤ maxLen; exact Nat.zero_le _
  · intro x hx; simp at hx; subst hx; simp

/-- Where the law stands: a zero disk, and what is no disk. -/
structure St (w : World) (v : Value) (u : World) : Prop where
  below : Below w.heap.size w u
  no : NoDisk u v
  zero : u.cell? ⟨w.heap.size, 0, none⟩ = some (.int .i64 0)
theorem St.ext {w u u' : World} {v : Value} (h : St w v u) (hb : Below u.heap.size u u') : St w v u' :=
  ⟨h.below.trans (hb.mono h.below.size), h.no.ext hb, ext_cell hb h.zero⟩
theorem St.then_ {w u : World} {v : Value} {f : Nat} {a : Array Value} {E : Ending} (h : St w v u) (hc : Calls Try.prog f a u fun e u' => e = E ∧ Below u.heap.size u u') : Calls Try.prog f a u fun e u' => e = E ∧ St w v u' :=
  hc.mono fun _ _ ⟨h1, h2⟩ => ⟨h1, h.ext h2⟩
theorem crash_one {w u : World} {o : Option Addr} (h : St w (.pointer o) u) : Calls Try.prog 20 #[.pointer o, .slice (some ⟨u.heap.size, 0, none⟩) 1 1] (u.alloc (.cells #[.string ⟨#[]⟩, .int .i64 0] 47)) fun e u' => e = .returned (.tuple #[.pointer none, .int .i64 1]) ∧ St w (.pointer o) u' :=
  (h.ext (ext_alloc _ _)).then_ (crash_nil (ks := [(⟨#[]⟩, 0)]) (c := 1) (h.ext (ext_alloc _ _)).no (kept_one u))

set_option maxRecDepth 100000 in
set_option maxHeartbeats 8000000 in
theorem walk (w : World) : Calls Try.prog 10 #[] w fun e w' => e = .returned (.bool true) ∧ Below w.heap.size w w' := by
  refine (callsIn_wide (n := 6)).1 ?_
  refine callsIn_of_wp_marks Try.func10 rfl trivial ?_
  simp only [Try.ntmps10, List.size_toArray, List.length_nil, Nat.reduceSub, Array.replicate_succ, Array.replicate_zero, List.push_toArray, List.append_toArray, List.nil_append, List.cons_append]
  refine wpIn_wide.2 ?_
  go_wp2_with fail
  have HS0 : Hid (∀ v, NoDisk (w.alloc (.cells #[.int .i64 0, .map none] 80)) v → St w v (w.alloc (.cells #[.int .i64 0, .map none] 80))) := fun v hv => ⟨ext_alloc _ _, hv, cell_of (heap_at _ _ rfl) rfl⟩
  go_loopw [3] (fun i wr => (i = .int .i64 0 ∨ i = .int .i64 1 ∨ i = .int .i64 2) ∧ Hid (St w (.pointer none) wr)) (fun i _ => 2 - (intOf i).toNat)
  case atStart => exact ⟨.inl rfl, HS0.out _ (.inl rfl)⟩
  case round =>
    obtain ⟨hi, HS⟩ := hrel
    clear HS0
    have H0 : Hid (St w (.pointer none) wr ∧ St w (.pointer (some ⟨w.heap.size, 0, none⟩)) wr) := ⟨HS.out, HS.out.below, .inr ⟨_, rfl, HS.out.zero⟩, HS.out.zero⟩
    clear HS
    rcases hi with rfl | rfl | rfl
    · obtain ⟨HS, -⟩ := H0
      replace HS := Lib.hid HS
      go_wp2_with (go_at_call 15; refine (num_any _ _).mono ?_; rintro e w' ⟨rfl, rfl⟩)
      refine Calls.mono (HS.out.then_ (read_nil HS.out.no _)) ?_
      rintro e u ⟨rfl, hs⟩
      replace HS := Lib.hid hs
      clear hs
      go_wp2_with (go_at_call 15; refine (num_any _ _).mono ?_; rintro e w' ⟨rfl, rfl⟩)
      refine Calls.mono (HS.out.then_ (lasting_nil HS.out.no _)) ?_
      rintro e u ⟨rfl, hs⟩
      replace HS := Lib.hid hs
      clear hs
      go_wp2_with (go_at_call 15; refine (num_any _ _).mono ?_; rintro e w' ⟨rfl, rfl⟩)
      refine Calls.mono (crash_one HS.out) ?_
      rintro e u ⟨rfl, hs⟩
      replace HS := Lib.hid hs
      clear hs
      go_wp2_with (go_at_call 15; refine (num_any _ _).mono ?_; rintro e w' ⟨rfl, rfl⟩)
      refine Calls.mono (HS.out.then_ (append_nil HS.out.no _)) ?_
      rintro e u ⟨rfl, hs⟩
      replace HS := Lib.hid hs
      clear hs
      go_wp2_with (go_at_call 15; refine (num_any _ _).mono ?_; rintro e w' ⟨rfl, rfl⟩)
      refine Calls.mono (HS.out.then_ (sync_nil HS.out.no _)) ?_
      rintro e u ⟨rfl, hs⟩
      replace HS := Lib.hid hs
      clear hs
      go_wp2_with (go_at_call 15; refine (num_any _ _).mono ?_; rintro e w' ⟨rfl, rfl⟩)
      refine Calls.mono (HS.out.then_ (rename_nil HS.out.no _ _)) ?_
      rintro e u ⟨rfl, hs⟩
      replace HS := Lib.hid hs
      clear hs
      go_wp2_with (go_at_call 15; refine (num_any _ _).mono ?_; rintro e w' ⟨rfl, rfl⟩)
      refine Calls.mono (HS.out.then_ (remove_nil HS.out.no _)) ?_
      rintro e u ⟨rfl, hs⟩
      replace HS := Lib.hid hs
      clear hs
      go_wp2_with (go_at_call 15; refine (num_any _ _).mono ?_; rintro e w' ⟨rfl, rfl⟩)
      refine Calls.mono (used_nil HS.out.no) ?_
      rintro e u ⟨rfl, rfl⟩
      go_wp2_with (go_at_call 15; refine (num_any _ _).mono ?_; rintro e w' ⟨rfl, rfl⟩)
      refine Calls.mono (room_nil HS.out.no) ?_
      rintro e u ⟨rfl, rfl⟩
      go_wp2_with (go_at_call 15; refine (num_any _ _).mono ?_; rintro e w' ⟨rfl, rfl⟩)
      refine Calls.mono (HS.out.then_ (names_nil HS.out.no)) ?_
      rintro e u ⟨rfl, hs⟩
      replace HS := Lib.hid hs
      clear hs
      go_wp2_with (go_at_call 15; refine (num_any _ _).mono ?_; rintro e w' ⟨rfl, rfl⟩)
      refine Calls.mono (copy_nil HS.out.no) ?_
      rintro e u ⟨rfl, rfl⟩
      go_wp2_with (go_at_call 15; refine (num_any _ _).mono ?_; rintro e w' ⟨rfl, rfl⟩)
      refine Calls.mono (HS.out.then_ (over_nil HS.out.no)) ?_
      rintro e u ⟨rfl, hs⟩
      replace HS := Lib.hid hs
      clear hs
      go_wp2_with (go_at_call 15; refine (num_any _ _).mono ?_; rintro e w' ⟨rfl, rfl⟩)
      refine Calls.mono (same_nil HS.out.no) ?_
      rintro e u ⟨rfl, rfl⟩
      go_wp2_with (go_at_call 15; refine (num_any _ _).mono ?_; rintro e w' ⟨rfl, rfl⟩)
      go_roundw
      case rel => exact ⟨.inr (.inl rfl), HS.out⟩
      case measure => simp [intOf]
    · obtain ⟨-, HS⟩ := H0
      replace HS := Lib.hid HS
      go_wp2_with (go_at_call 15; refine (num_any _ _).mono ?_; rintro e w' ⟨rfl, rfl⟩)
      refine Calls.mono (HS.out.then_ (read_nil HS.out.no _)) ?_
      rintro e u ⟨rfl, hs⟩
      replace HS := Lib.hid hs
      clear hs
      go_wp2_with (go_at_call 15; refine (num_any _ _).mono ?_; rintro e w' ⟨rfl, rfl⟩)
      refine Calls.mono (HS.out.then_ (lasting_nil HS.out.no _)) ?_
      rintro e u ⟨rfl, hs⟩
      replace HS := Lib.hid hs
      clear hs
      go_wp2_with (go_at_call 15; refine (num_any _ _).mono ?_; rintro e w' ⟨rfl, rfl⟩)
      refine Calls.mono (crash_one HS.out) ?_
      rintro e u ⟨rfl, hs⟩
      replace HS := Lib.hid hs
      clear hs
      go_wp2_with (go_at_call 15; refine (num_any _ _).mono ?_; rintro e w' ⟨rfl, rfl⟩)
      refine Calls.mono (HS.out.then_ (append_nil HS.out.no _)) ?_
      rintro e u ⟨rfl, hs⟩
      replace HS := Lib.hid hs
      clear hs
      go_wp2_with (go_at_call 15; refine (num_any _ _).mono ?_; rintro e w' ⟨rfl, rfl⟩)
      refine Calls.mono (HS.out.then_ (sync_nil HS.out.no _)) ?_
      rintro e u ⟨rfl, hs⟩
      replace HS := Lib.hid hs
      clear hs
      go_wp2_with (go_at_call 15; refine (num_any _ _).mono ?_; rintro e w' ⟨rfl, rfl⟩)
      refine Calls.mono (HS.out.then_ (rename_nil HS.out.no _ _)) ?_
      rintro e u ⟨rfl, hs⟩
      replace HS := Lib.hid hs
      clear hs
      go_wp2_with (go_at_call 15; refine (num_any _ _).mono ?_; rintro e w' ⟨rfl, rfl⟩)
      refine Calls.mono (HS.out.then_ (remove_nil HS.out.no _)) ?_
      rintro e u ⟨rfl, hs⟩
      replace HS := Lib.hid hs
      clear hs
      go_wp2_with (go_at_call 15; refine (num_any _ _).mono ?_; rintro e w' ⟨rfl, rfl⟩)
      refine Calls.mono (used_nil HS.out.no) ?_
      rintro e u ⟨rfl, rfl⟩
      go_wp2_with (go_at_call 15; refine (num_any _ _).mono ?_; rintro e w' ⟨rfl, rfl⟩)
      refine Calls.mono (room_nil HS.out.no) ?_
      rintro e u ⟨rfl, rfl⟩
      go_wp2_with (go_at_call 15; refine (num_any _ _).mono ?_; rintro e w' ⟨rfl, rfl⟩)
      refine Calls.mono (HS.out.then_ (names_nil HS.out.no)) ?_
      rintro e u ⟨rfl, hs⟩
      replace HS := Lib.hid hs
      clear hs
      go_wp2_with (go_at_call 15; refine (num_any _ _).mono ?_; rintro e w' ⟨rfl, rfl⟩)
      refine Calls.mono (copy_nil HS.out.no) ?_
      rintro e u ⟨rfl, rfl⟩
      go_wp2_with (go_at_call 15; refine (num_any _ _).mono ?_; rintro e w' ⟨rfl, rfl⟩)
      refine Calls.mono (HS.out.then_ (over_nil HS.out.no)) ?_
      rintro e u ⟨rfl, hs⟩
      replace HS := Lib.hid hs
      clear hs
      go_wp2_with (go_at_call 15; refine (num_any _ _).mono ?_; rintro e w' ⟨rfl, rfl⟩)
      refine Calls.mono (same_nil HS.out.no) ?_
      rintro e u ⟨rfl, rfl⟩
      go_wp2_with (go_at_call 15; refine (num_any _ _).mono ?_; rintro e w' ⟨rfl, rfl⟩)
      go_roundw
      case rel => exact ⟨.inr (.inr rfl), HS.out.below, .inl rfl, HS.out.zero⟩
      case measure => simp [intOf]
    · have HB : Hid (Below w.heap.size w wr) := H0.out.1.below
      clear H0
      go_wp2_with fail
      refine Calls.mono (new_yes (r := 1048576) (by omega) (by omega) wr) ?_
      rintro e u1 ⟨d, rfl, hd, hb⟩
      have HL : Hid (Lives w.heap.size [(d, 1048576, [])] (fun w' => Below w.heap.size w w') u1) := (Lives.none w.heap.size (w := wr) (P := fun w' => Below w.heap.size w w') (fun _ h => HB.out.trans (h.mono HB.out.size))).other hb hd HB.out.size
      clear hd hb
      go_wp2_with (go_at_call 15; refine (num_any _ _).mono ?_; rintro e w' ⟨rfl, rfl⟩)
      refine Calls.mono (all_any _ _) ?_
      rintro e u2 ⟨rfl, rfl⟩
      have hfn := func_some u1.heap.size
      have HL2 : Hid (Lives w.heap.size [(d, 1048576, [])] (fun w' => Below w.heap.size w w' ∧ w'.cell? ⟨u1.heap.size, 0, none⟩ = some (.pointer (some ⟨d, 0, none⟩))) (u1.alloc (.cells #[.pointer (some ⟨d, 0, none⟩)] 25))) :=
        HL.out.add (Q := fun w' => w'.cell? ⟨u1.heap.size, 0, none⟩ = some (.pointer (some ⟨d, 0, none⟩))) (ext_alloc _ _) (fun w'' hk _ => cell_of ((hk u1.heap.size (Nat.le_refl _) (by simp)).trans (heap_at _ _ rfl)) rfl)
      clear HL HB
      obtain ⟨u2, hu2⟩ : ∃ u2, u2 = u1.alloc (.cells #[.pointer (some ⟨d, 0, none⟩)] 25) := ⟨_, rfl⟩
      rw [← hu2] at HL2
      rw [← hu2]
      clear hu2
      have HI2 : Hid (IsDisk u2 d) := by obtain ⟨S, hS⟩ := HL2.out.disk; exact hS.isDisk
      go_wp2_with fail
      clear hfn
      refine Calls.mono (same_not HI2.out) ?_
      rintro e u ⟨rfl, rfl⟩
      have cv1 : (convert 35 35 (.slice (some ⟨u2.heap.size, 0, none⟩) 1 1)).run Try.prog (u2.alloc (.cells #[.int .u8 120] 5)) = .ok (.slice (some ⟨u2.heap.size, 0, none⟩) 1 1) (u2.alloc (.cells #[.int .u8 120] 5 (1, 2))) := Go.Joins.run_convert_bytes_const_at _ _ _ _ _ _ _ rfl Try.underlying35 Try.underlying5
      go_wp2_with fail
      clear cv1
      refine Calls.mono (append_live (HL2.out.ext (ext_alloc _ _)) (s := ⟨#[97]⟩) (by decide) (bytes_lit u2 [120] (1, 2) (by decide)) (by simp) (by decide) (x := 0) (by rfl) (F' := [⟨[97], [120], 0⟩]) (by rfl)) ?_
      rintro e u3 ⟨rfl, hl⟩
      have HL3 := Lib.hid hl
      clear hl HL2 HI2
      go_wp2_with (go_at_call 15; refine (num_any _ _).mono ?_; rintro e w' ⟨rfl, rfl⟩)
      rename_i ak
      obtain ⟨u4, hu4⟩ : ∃ u4, u4 = u3.alloc (.cells #[.int .i64 0] 3) := ⟨_, rfl⟩
      rw [← hu4]
      have HX4 : Hid (Ext u3 u4) := by rw [hu4]; exact ext_alloc _ _
      have HZ4 : Hid (u4.heap.size = u3.heap.size + 1) := by rw [hu4]; simp [Hid]
      have HN4 : Hid (Boxed u4 u3.heap.size 3 (.int .i64 0)) := by rw [hu4]; exact heap_at _ _ rfl
      have HB3 := Lib.hid HL3.out.here.1
      have HC3 := Lib.hid HL3.out.here.2
      clear hu4
      obtain ⟨S, hS⟩ := HL3.out.disk
      obtain ⟨m, D, V, hsee, hfiles, -, -⟩ := hS.seen
      have HIT : Hid (Iter Try.prog 62 #[.pointer (some ⟨u1.heap.size, 0, none⟩)] 1 (fun x : List UInt8 × Value => #[encStr x.1, x.2]) (AllOk [⟨[97], [120], 0⟩]) (fun A => ∀ k, S k → k < u3.heap.size → A.heap[k]? = u3.heap[k]?) u4) :=
        fun m' l J Jx W hx => all_iter (F := [⟨[97], [120], 0⟩]) hsee hfiles hS.lo hS.cnt (fun f hf => by simp at hf; subst hf; simp [maxLen]) (Nat.le_trans hS.tot hS.hi) HC3.out m' l J Jx W (Ext.trans HX4.out hx)
      clear hsee hfiles hS HL3 HC3
      refine (wpIn_wide (n := 6)).1 ?_
      refine wpIn_over rfl enters_all HIT.out (fun _ => rfl) (fun n₁ k A => Boxed A u3.heap.size 3 (.int .i64 (k : Int)) ∧ Below u3.heap.size u3 A ∧ n₁ ≤ A.heap.size) (fun _ _ => False) (fun n₁ k A hj i _ hl => hj.2.1.block i hl) ?hI (fun _ _ _ h _ => h) (fun A hx => ⟨ext_heap hx HN4.out, Ext.trans HX4.out hx, Nat.le_refl _⟩) ?round ?done (fun _ _ _ _ h _ => h.elim)
      case hI => intro n₁ k A A' hn hj hc; exact ⟨boxed_chg hj.1 hc (fun hb => by have := hb.1; have := HZ4.out; omega), hj.2.1.trans (hc.below (fun i hb => by have := hb.1; have := HZ4.out; omega) hj.2.1.size), Nat.le_trans hj.2.2 hc.size⟩
      case round =>
        rintro l n₁ k ⟨nm, v⟩ A hl1 hl2 hn hnA ⟨hb, hbel, hle⟩ hk -
        obtain rfl : k = 0 := by omega
        have HL := Lib.hid (And.intro hl1 hl2)
        have HB := Lib.hid hb
        have HBE := Lib.hid hbel
        have HLE := Lib.hid hle
        clear hl1 hl2 hn hnA hb hbel hle hk
        gi_wp2
        refine ⟨Step.refl _ _ _, fun A2 hc => ?_⟩
        have HB2 : Hid (Boxed A2 u3.heap.size 3 (.int .i64 0)) := boxed_chg HB.out hc (fun e => by have := HL.out.1; have := HZ4.out; omega)
        have HBE2 : Hid (Below u3.heap.size u3 A2) := HBE.out.trans (hc.below (fun i e => by have := HL.out.1; have := HZ4.out; omega) HBE.out.size)
        have HLE2 : Hid (n₁ ≤ A2.heap.size) := Nat.le_trans HLE.out hc.size
        have q0 := HB2.out.cell
        have f0 := HB2.out.frozen
        clear hc HB HBE HLE
        gi_wp2
        have hc2 : Chg (fun i => i = u3.heap.size) A2 (A2.setCell ⟨u3.heap.size, 0, none⟩ (.int .i64 1)) := Chg.setCell _ _ _ rfl
        exact ⟨Step.of_chg hc2 HLE2.out (fun i h1 _ hs => by have := HZ4.out; omega), HB2.out.set _, HBE2.out.trans (hc2.below (fun i hs => by omega) HBE2.out.size), Nat.le_trans HLE2.out hc2.size⟩
      case done =>
        rintro D' n₁ W' hDl hDn hn ⟨hb, hbel, hle⟩ hD
        have HDL := Lib.hid hDl
        have q0 := hb.cell
        have HBE := Lib.hid hbel
        have HDD := Lib.hid hD
        have HK := Lib.hid (known_any W')
        clear hDl hDn hn hb hbel hle hD
        refine ak _ _ ?_
        go_wp2_with (go_at_call 12; refine Calls.mono HK.out ?_; rintro e w' ⟨rfl, hb⟩; have HBK := Lib.hid hb; clear hb)
        refine ⟨by simp, .inl ⟨_, _, rfl, run_takeDeferred (ext_heap HBK.out HDD.out), ?_⟩⟩
        refine ⟨_, results_tmp rfl _ _ _, ⟨rfl, ?_⟩⟩
        have h3 := HB3.out.size
        have h4 := HZ4.out
        have h5 := HDL.out
        have hbw : Below w.heap.size w W' := HB3.out.trans (HBE.out.mono h3)
        have hbx := hbw.trans (HBK.out.mono hbw.size)
        exact hbx.trans ((putObj_chg _ D' _).below (fun i e => by omega) hbx.size)
end Go.Proofs.Ythcepihibnmgfaa.diskNone
