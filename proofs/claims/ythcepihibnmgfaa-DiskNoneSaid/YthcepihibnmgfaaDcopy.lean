/- New, Room, Used, Copy. -/
import Derived.Test.YthcepihibnmgfaaDother
import Derived.Laws.ResultCell
namespace Go.Proofs.Ythcepihibnmgfaa
open Go.RowKit Go.Maps

/-- A new disk, or none. -/
def NewAns (w : World) (room : Int) (e : Ending) (w' : World) : Prop :=
  (room < 1024 ∨ 1048576 < room) ∧ e = .returned (.tuple #[.pointer none, .int .i64 2]) ∧ w = w' ∨
  ∃ r : Nat, room = (r : Int) ∧ ∃ d, e = .returned (.tuple #[.pointer (some ⟨d, 0, none⟩), .int .i64 0]) ∧ Disk w' (Frm w.heap.size) w.heap.size d r [] ∧ Below w.heap.size w w'
theorem Disk.fresh {w : World} {r : Nat} (h1 : 1024 ≤ r) (h2 : r ≤ 1048576) : Disk ((w.alloc (.map #[] 0)).alloc (.cells #[.int .i64 (r : Int), .map (some w.heap.size)] 80)) (Frm w.heap.size) w.heap.size (w.heap.size + 1) r [] :=
  ⟨⟨w.heap.size, .map [], fun _ => undef, heap_at _ _ (by simp), (World.ownsMap_made w Try.prog 9 rdf).alloc _, ⟨tidy_empty, rfl, fun n => by simp [Maps.has], (fun f hf => (by simp at hf)), by simp⟩, (fun f hf => (by simp at hf)), (fun f hf => (by simp at hf)), Nat.le_refl _, Nat.le_refl _⟩,
    show w.heap.size ≤ w.heap.size + 1 by omega, by omega, h1, h2, Nat.zero_le _, by simp, (fun f hf => (by simp at hf))⟩

set_option maxHeartbeats 1000000 in
theorem new_any (room : Int) (h1 : -9223372036854775808 ≤ room) (h2 : room ≤ 9223372036854775807) (w : World) : Calls Try.prog 13 #[.int .i64 room] w (NewAns w room) := by
  have hmm := @run_makeMap Try.prog
  by_cases hlo : room < 1024
  · have HA : Hid (NewAns w room (.returned (.tuple #[.pointer none, .int .i64 2])) w) := .inl ⟨.inl hlo, rfl, rfl⟩
    go_enter Try.func13, Try.ntmps13
    go_wp2
    go_ret2
    exact HA.out
  · by_cases hhi : 1048576 < room
    · have HA : Hid (NewAns w room (.returned (.tuple #[.pointer none, .int .i64 2])) w) := .inl ⟨.inr hhi, rfl, rfl⟩
      go_enter Try.func13, Try.ntmps13
      go_wp2
      go_ret2
      exact HA.out
    · obtain ⟨r, rfl⟩ : ∃ r : Nat, room = (r : Int) := ⟨room.toNat, by omega⟩
      have HD := Lib.hid (Disk.fresh (w := w) (r := r) (by omega) (by omega))
      go_enter Try.func13, Try.ntmps13
      go_wp2
      go_ret2
      exact .inr ⟨r, rfl, _, rfl, HD.out, ((Below.refl _ w).alloc (Nat.le_refl _) _).alloc (by simp) _⟩

set_option maxHeartbeats 1000000 in
theorem room_any {w : World} {S : Nat → Prop} {B d room : Nat} {F : List Fl} (h : Disk w S B d room F) : Calls Try.prog 39 #[.pointer (some ⟨d, 0, none⟩)] w fun e w' => e = .returned (.int .i64 (room : Int)) ∧ w = w' := by
  obtain ⟨m, D, V, hsee, _⟩ := h.seen
  have hc := hsee.c0
  have HN := Lib.hid (none_no h.isDisk)
  clear hsee h
  go_enter Try.func39, Try.ntmps39
  go_wp2_with fail
  refine Calls.mono HN.out ?_
  rintro e w' ⟨rfl, rfl⟩
  go_wp2_with fail
  go_ret
  exact ⟨rfl, rfl⟩
theorem used_disk {w : World} {S : Nat → Prop} {B d room : Nat} {F : List Fl} (h : Disk w S B d room F) : Calls Try.prog 56 #[.pointer (some ⟨d, 0, none⟩)] w fun e w' => e = .returned (.int .i64 (tot F : Int)) ∧ Below w.heap.size w w' := by
  obtain ⟨m, D, V, hsee, hfiles, _⟩ := h.seen
  refine used_seen hsee (fun f hf => ?_) (Nat.le_trans h.tot h.hi)
  obtain ⟨⟨u, e, hr, _⟩, _⟩ := hfiles f hf
  obtain ⟨A, c, rfl, _⟩ := Sl.of_own hr
  exact ⟨A, c, _, e⟩
set_option maxHeartbeats 1000000 in
theorem Used_any {w : World} {S : Nat → Prop} {B d room : Nat} {F : List Fl} (h : Disk w S B d room F) : Calls Try.prog 32 #[.pointer (some ⟨d, 0, none⟩)] w fun e w' => e = .returned (.int .i64 (tot F : Int)) ∧ Below w.heap.size w w' := by
  have HN := Lib.hid (none_no h.isDisk)
  have HU := Lib.hid (used_disk h)
  clear h
  go_enter Try.func32, Try.ntmps32
  go_wp2_with fail
  refine Calls.mono HN.out ?_
  rintro e w' ⟨rfl, rfl⟩
  go_wp2_with fail
  refine Calls.mono HU.out ?_
  rintro e w1 ⟨rfl, hb⟩
  go_wp2_with fail
  go_ret
  exact ⟨rfl, hb⟩

theorem FileAt.bs {w : World} {S : Nat → Prop} {B : Nat} {f : Fl} {v : Value} (h : FileAt w S B f v) : ∃ A c, v = .agg #[.slice A f.data.length c, .int .i64 (f.lasts : Int)] ∧ Bs w 0 w.heap.size (.slice A f.data.length c) f.data := by
  obtain ⟨⟨u, rfl, hr, _⟩, _, _⟩ := h
  obtain ⟨A, c, rfl, _⟩ := Sl.of_own hr
  exact ⟨A, c, rfl, (Bs.of_own hr).wide (Nat.zero_le _) (Nat.le_refl _)⟩
theorem enters_copy1 : ∀ args w, (callFunc 60 args).run Try.prog w = .ok (.enter 60 args) w := enters_of Try.func60 (by kernel_rfl) rfl

set_option maxHeartbeats 1000000 in
theorem copy1_left {w : World} {S : Nat → Prop} {B : Nat} (A : World) (f : Fl) (v : Value) (hf : FileAt w S B f v) (hb : Below w.heap.size w A) : Calls Try.prog 60 (#[encStr f.name, v] ++ #[]) A (LeftAns w.heap.size f A) := by
  obtain ⟨A0, c, rfl, hbs⟩ := hf.bs
  have HB := Lib.hid (hbs.below hb (Nat.le_refl _))
  have HS := Lib.hid hb.size
  clear hf hbs hb
  rw [Array.append_empty]
  go_enter Try.func60, Try.ntmps60
  go_wp2
  refine bodyPost_ret (v := .agg #[.slice A0 f.data.length c, .int .i64 (f.lasts : Int)]) ?_ rfl ⟨A0, c, rfl, ?_, ?_⟩
  · simp [results, Try.results60, go_sem]
  · exact ((Below.refl _ _).alloc (Nat.le_refl _) _).alloc (by simp) _
  · exact (HB.out.alloc HS.out _).alloc (by simp; exact Nat.le_succ_of_le HS.out) _

set_option maxHeartbeats 1000000 in
theorem copy_any {w : World} {S : Nat → Prop} {B d room : Nat} {F : List Fl} (h : Disk w S B d room F) : Calls Try.prog 35 #[.pointer (some ⟨d, 0, none⟩)] w (OtherAns w room F) := by
  obtain ⟨m, D, V, hsee, hfiles, _⟩ := h.seen
  have HN := Lib.hid (none_no h.isDisk)
  have HA := Lib.hid (another_any h id (fun f hf => ⟨rfl, by have := (hfiles f hf).lasts; exact this, Nat.le_refl _, fun b hb => (hfiles f hf).bytes b hb⟩) 60 #[] enters_copy1 (fun A f v _ hv hb => copy1_left A f v hv hb))
  rw [List.map_id] at HA
  clear hsee hfiles h
  go_enter Try.func35, Try.ntmps35
  go_wp2_with fail
  refine Calls.mono HN.out ?_
  rintro e w' ⟨rfl, rfl⟩
  go_wp2_with fail
  refine Calls.mono HA.out ?_
  rintro e w1 ⟨d', rfl, h1, h2⟩
  have H1 := Lib.hid h1
  have H2 := Lib.hid h2
  clear h1 h2
  go_wp2_with fail
  go_ret
  exact ⟨d', rfl, H1.out, H2.out⟩
end Go.Proofs.Ythcepihibnmgfaa
