/- The chapter's rows, as the law has them. -/
import Derived.Test.YthcepihibnmgfaaDlive
import Derived.Lib.SmallJoins
namespace Go.Proofs.Ythcepihibnmgfaa
open Go.RowKit Go.Maps

theorem bytes_lit (w : World) (l : List Nat) (f : Nat × Nat) (hl : l.length ≤ maxLen) : Bs (w.alloc (.cells (bv l).toArray 5 f)) 0 (w.heap.size + 1) (.slice (some ⟨w.heap.size, 0, none⟩) l.length l.length) l :=
  ⟨some ⟨w.heap.size, 0, none⟩, l.length, rfl, Nat.le_refl _, hl, (fun h => (by cases h)), .inr ⟨w.heap.size, 0, rfl, Nat.zero_le _, by omega, fun i u hu => by
    have h := heap_at w (.cells (bv l).toArray 5 f) (k := w.heap.size) rfl
    rw [Nat.zero_add]; simp only [World.cell?, h]; simpa using hu⟩⟩
theorem make_bytes (w : World) (n : Nat) (hn : n ≤ 1099511627776) : ∃ w', (Instr.makeSlice 35 (.int .i64 (n : Int)) (.int .i64 (n : Int))).run Try.prog w = .ok (.slice (some ⟨w.heap.size, 0, none⟩) n n) w' ∧ Bs w' 0 w'.heap.size (.slice (some ⟨w.heap.size, 0, none⟩) n n) (List.replicate n 0) ∧ Ext w w' := by
  obtain ⟨i0, hi0, hz0, hz1, hz2⟩ := info_parts t5info
  obtain ⟨w', h1, h2, h3⟩ := run_make_full (P := Try.prog) w w.heap.size 35 5 i0 (.int .u8 0) 1 Try.underlying35 hi0 hz0 hz1 .i64 .i64 n (by rw [hz2]; omega) (by unfold maxLen; omega) (Nat.le_refl _)
  have e : (madeCells (Value.int .u8 0).cells (n * 1)).toList = bv (List.replicate n 0) := by
    rw [show (Value.int .u8 0).cells = #[.int .u8 0] from rfl, Nat.mul_one, toList_madeCells_one]
    simp [bv]
  rw [e] at h2
  have hl : (List.replicate n 0).length = n := List.length_replicate
  have hb : Bs w' 0 w'.heap.size (.slice (some ⟨w.heap.size, 0, none⟩) n n) (List.replicate n 0) := by
    have h4 : w'.ownsRow w.heap.size 5 1 (.slice (some ⟨w.heap.size, 0, none⟩) n n) (List.replicate n 0).length (bv (List.replicate n 0)) := by rw [hl]; exact h2
    exact (Bs.of_own h4).wide (Nat.zero_le _) (Nat.le_refl _)
  exact ⟨w', h1, hb, ⟨h3.os, h3.tape, h3.output, h3.size, fun k hk => h3.block k hk (by simp)⟩⟩
set_option maxHeartbeats 400000 in
theorem num_any (x : Int) (w : World) : Calls Try.prog 15 #[.int .i64 x] w fun e w' => e = .returned (.int .i64 x) ∧ w = w' := by
  go_enter Try.func15, Try.ntmps15
  go_wp2
  go_ret
  exact ⟨rfl, rfl⟩
theorem cv {w : World} {A : Option Addr} {n c : Nat} {l : List Nat} (h : IsBytes (.slice A n c) l w) : (convert 35 9 (.slice A n c)).run Try.prog w = .ok (.string (tx l)) w := by
  obtain ⟨A', c', he, _, _, _, h4⟩ := h
  have h5 : A = A' ∧ n = l.length ∧ c = c' := by injection he with a b c; exact ⟨a, b, c⟩
  obtain ⟨rfl, rfl, rfl⟩ := h5
  exact run_text (P := Try.prog) w 35 5 Try.underlying35 Try.underlying5 h4 l.length c rfl 9 Try.underlying9
theorem cvl {w : World} {A : Option Addr} {n c : Nat} {l : List Nat} {s : ByteArray} (h : IsBytes (.slice A n c) l w) (hs : tx l = s) : (convert 35 9 (.slice A n c)).run Try.prog w = .ok (.string s) w := by rw [← hs]; exact cv h
theorem IsBytes.shape {v : Value} {l : List Nat} {w : World} (h : IsBytes v l w) : ∃ A c, v = .slice A l.length c := by obtain ⟨A, c, e, _⟩ := h; exact ⟨A, c, e⟩
theorem new_no {room : Int} (h1 : -9223372036854775808 ≤ room) (h2 : room ≤ 9223372036854775807) (h : room < 1024 ∨ 1048576 < room) (w : World) : Calls Try.prog 13 #[.int .i64 room] w fun e w' => e = .returned (.tuple #[.pointer none, .int .i64 2]) ∧ w = w' :=
  (new_any room h1 h2 w).mono fun e w' hn => by
    rcases hn with ⟨_, h3, h4⟩ | ⟨r, hr, d, _, hd, _⟩
    · exact ⟨h3, h4⟩
    · have := hd.lo; have := hd.hi; omega
theorem new_yes {r : Nat} (h1 : 1024 ≤ r) (h2 : r ≤ 1048576) (w : World) : Calls Try.prog 13 #[.int .i64 (r : Int)] w fun e w' => ∃ d, e = .returned (.tuple #[.pointer (some ⟨d, 0, none⟩), .int .i64 0]) ∧ Disk w' (Frm w.heap.size) w.heap.size d r [] ∧ Below w.heap.size w w' :=
  (new_any r (by omega) (by omega) w).mono fun e w' hn => by
    rcases hn with ⟨h3, _⟩ | ⟨r', hr, d, he, hd, hb⟩
    · omega
    · obtain rfl : r = r' := by omega
      exact ⟨d, he, hd, hb⟩
theorem crash_no {B d room : Nat} {F : List Fl} {L : List Dk} {P : World → Prop} {w : World} (h : Lives B ((d, room, F) :: L) P w) {A : Option Addr} {c n : Nat} {ks : List (ByteArray × Int)} (hk : Kepts w A ks) (hn : n = ks.length) {x : Int} (hx : x = crashN F ks) (hx0 : x ≠ 0) :
    Calls Try.prog 20 #[.pointer (some ⟨d, 0, none⟩), .slice A n c] w fun e w' => e = .returned (.tuple #[.pointer none, .int .i64 x]) ∧ Lives B ((d, room, F) :: L) P w' :=
  (crash_live h hk hn hx).mono fun _ _ hc => hc.elim (fun h => h.2) (fun h => absurd h.1 hx0)
theorem crash_yes {B d room : Nat} {F F' : List Fl} {L : List Dk} {P : World → Prop} {w : World} (h : Lives B ((d, room, F) :: L) P w) {A : Option Addr} {c n : Nat} {ks : List (ByteArray × Int)} (hk : Kepts w A ks) (hn : n = ks.length) (hx : 0 = crashN F ks) (hF : F' = F.map (crashed ks)) :
    Calls Try.prog 20 #[.pointer (some ⟨d, 0, none⟩), .slice A n c] w fun e w' => ∃ d', e = .returned (.tuple #[.pointer (some ⟨d', 0, none⟩), .int .i64 0]) ∧ Lives B ((d', room, F') :: (d, room, F) :: L) P w' := by
  subst hF
  exact (crash_live h hk hn hx).mono fun _ _ hc => hc.elim (fun h => absurd rfl h.1) (fun h => h.2)
theorem kept_one (w : World) (s : ByteArray) (z : Int) (hs : s.size ≤ maxLen) (hz : -9223372036854775808 ≤ z ∧ z ≤ 9223372036854775807) : Kepts (w.alloc (.cells #[.string s, .int .i64 z] 47)) (some ⟨w.heap.size, 0, none⟩) [(s, z)] := by
  refine ⟨.inr ⟨w.heap.size, 0, rfl, by simp, fun i s' z' hi => ?_⟩, by simpa using hs, by simpa using hz, by simp⟩
  have h := heap_at w (.cells #[.string s, .int .i64 z] 47) (k := w.heap.size) rfl
  rcases i with _ | i
  · simp at hi; obtain ⟨rfl, rfl⟩ := hi; exact ⟨cell_of h rfl, cell_of h rfl⟩
  · simp at hi
theorem kept_two (w : World) (s : ByteArray) (z : Int) (hs : s.size ≤ maxLen) (hz : -9223372036854775808 ≤ z ∧ z ≤ 9223372036854775807) : Kepts (w.alloc (.cells #[.string s, .int .i64 z, .string s, .int .i64 z] 47)) (some ⟨w.heap.size, 0, none⟩) [(s, z), (s, z)] := by
  refine ⟨.inr ⟨w.heap.size, 0, rfl, by simp, fun i s' z' hi => ?_⟩, by simpa using hs, by simpa using hz, by simp⟩
  have h := heap_at w (.cells #[.string s, .int .i64 z, .string s, .int .i64 z] 47) (k := w.heap.size) rfl
  rcases i with _ | _ | i
  · simp at hi; obtain ⟨rfl, rfl⟩ := hi; exact ⟨cell_of h rfl, cell_of h rfl⟩
  · simp at hi; obtain ⟨rfl, rfl⟩ := hi; exact ⟨cell_of h rfl, cell_of h rfl⟩
  · simp at hi
theorem kept_none (w : World) : Kepts w none [] := ⟨.inl rfl, by simp, by simp, by simp⟩

set_option maxRecDepth 100000 in
set_option maxHeartbeats 8000000 in
theorem known_any (w : World) : Calls Try.prog 12 #[] w fun e w' => e = .returned (.bool true) ∧ Below w.heap.size w w' := by
  go_enter Try.func12, Try.ntmps12
  go_wp2_with fail
  refine (new_yes (r := 1024) (by omega) (by omega) w).mono ?_
  rintro e w1 ⟨d, rfl, hd, hb⟩
  have HL : Hid (Lives w.heap.size [(d, 1024, [])] (fun w' => Below w.heap.size w w') w1) := (Lives.none w.heap.size (w := w) (P := fun w' => Below w.heap.size w w') (fun _ h => h)).other hb hd (Nat.le_refl _)
  clear hd hb
  go_wp2_with fail
  refine (new_no (room := 1023) (by omega) (by omega) (by omega) w1).mono ?_
  rintro e w2 ⟨rfl, rfl⟩
  have cv1 : (convert 35 35 (.slice (some ⟨w1.heap.size, 0, none⟩) 1 1)).run Try.prog (w1.alloc (.cells #[.int .u8 120] 5)) = .ok (.slice (some ⟨w1.heap.size, 0, none⟩) 1 1) (w1.alloc (.cells #[.int .u8 120] 5 (1, 2))) := Go.Joins.run_convert_bytes_const_at _ _ _ _ _ _ _ rfl Try.underlying35 Try.underlying5
  go_wp2_with fail
  clear cv1
  refine Calls.mono (append_live (HL.out.ext (ext_alloc _ _)) (s := ⟨#[97, 32, 98]⟩) (by decide) (bytes_lit w1 [120] (1, 2) (by decide)) (by simp) (by decide) (x := 2) (by rfl) (F' := []) (by rfl)) ?_
  rintro e w3 ⟨rfl, hl⟩
  have HL := Lib.hid hl
  clear hl
  have cv1 : (convert 35 35 (.slice (some ⟨w3.heap.size, 0, none⟩) 3 3)).run Try.prog (w3.alloc (.cells #[.int .u8 120, .int .u8 121, .int .u8 122] 5)) = .ok (.slice (some ⟨w3.heap.size, 0, none⟩) 3 3) (w3.alloc (.cells #[.int .u8 120, .int .u8 121, .int .u8 122] 5 (3, 4))) := Go.Joins.run_convert_bytes_const_at _ _ _ _ _ _ _ rfl Try.underlying35 Try.underlying5
  go_wp2_with fail
  clear cv1
  refine Calls.mono (append_live (HL.out.ext (ext_alloc _ _)) (s := ⟨#[97]⟩) (by decide) (bytes_lit w3 [120, 121, 122] (3, 4) (by decide)) (by simp) (by decide) (x := 0) (by rfl) (F' := [⟨[97], [120, 121, 122], 0⟩]) (by rfl)) ?_
  rintro e w4 ⟨rfl, hl⟩
  have HL := Lib.hid hl
  clear hl
  go_wp2_with fail
  refine Calls.mono (read_live HL.out (s := ⟨#[98]⟩) (by decide) (x := 6) (by rfl) (bs := []) (by rfl)) ?_
  rintro e w5 ⟨v5, rfl, hl⟩
  have HL := Lib.hid (hl.imp fun _ h => h.1)
  clear hl
  go_wp2_with fail
  refine Calls.mono (sync_live HL.out (s := ⟨#[98]⟩) (by decide) (x := 6) (by rfl) (F' := [⟨[97], [120, 121, 122], 0⟩]) (by rfl)) ?_
  rintro e w6 ⟨rfl, hl⟩
  have HL := Lib.hid hl
  clear hl
  go_wp2_with fail
  refine Calls.mono (sync_live HL.out (s := ⟨#[97]⟩) (by decide) (x := 0) (by rfl) (F' := [⟨[97], [120, 121, 122], 3⟩]) (by rfl)) ?_
  rintro e w7 ⟨rfl, hl⟩
  have HL := Lib.hid hl
  clear hl
  have cv1 : (convert 35 35 (.slice (some ⟨w7.heap.size, 0, none⟩) 2 2)).run Try.prog (w7.alloc (.cells #[.int .u8 117, .int .u8 118] 5)) = .ok (.slice (some ⟨w7.heap.size, 0, none⟩) 2 2) (w7.alloc (.cells #[.int .u8 117, .int .u8 118] 5 (2, 3))) := Go.Joins.run_convert_bytes_const_at _ _ _ _ _ _ _ rfl Try.underlying35 Try.underlying5
  go_wp2_with fail
  clear cv1
  refine Calls.mono (append_live (HL.out.ext (ext_alloc _ _)) (s := ⟨#[97]⟩) (by decide) (bytes_lit w7 [117, 118] (2, 3) (by decide)) (by simp) (by decide) (x := 0) (by rfl) (F' := [⟨[97], [120, 121, 122, 117, 118], 3⟩]) (by rfl)) ?_
  rintro e w8 ⟨rfl, hl⟩
  have HL := Lib.hid hl
  clear hl
  go_wp2_with fail
  refine Calls.mono (lasting_live HL.out (s := ⟨#[97]⟩) (by decide) (x := 0) (by rfl) (n := 3) (by rfl)) ?_
  rintro e w9 ⟨rfl, hl⟩
  have HL := Lib.hid hl
  clear hl
  go_wp2_with fail
  refine Calls.mono (crash_yes (HL.out.ext (ext_alloc _ _)) (kept_one w9 ⟨#[97]⟩ 1 (by decide) (by omega)) (n := 1) (by rfl) (by rfl) (F' := [⟨[97], [120, 121, 122, 117], 4⟩]) (by rfl)) ?_
  rintro e w10 ⟨d1, rfl, hl⟩
  have HL := Lib.hid hl
  clear hl
  go_wp2_with fail
  refine Calls.mono (read_live HL.out (s := ⟨#[97]⟩) (by decide) (x := 0) (by rfl) (bs := [120, 121, 122, 117]) (by rfl)) ?_
  rintro e w11 ⟨y, rfl, hl⟩
  have HL := Lib.hid hl.drop
  clear hl
  go_wp2_with fail
  refine Calls.mono (rename_live HL.out (s := ⟨#[97]⟩) (t := ⟨#[98]⟩) (by decide) (by decide) (x := 0) (by rfl) (F' := [⟨[98], [120, 121, 122, 117, 118], 3⟩]) (by rfl)) ?_
  rintro e w12 ⟨rfl, hl⟩
  have HL := Lib.hid hl
  clear hl
  go_wp2_with fail
  refine Calls.mono (rename_live HL.out (s := ⟨#[97]⟩) (t := ⟨#[98]⟩) (by decide) (by decide) (x := 6) (by rfl) (F' := [⟨[98], [120, 121, 122, 117, 118], 3⟩]) (by rfl)) ?_
  rintro e w13 ⟨rfl, hl⟩
  have HL := Lib.hid hl
  clear hl
  go_wp2_with fail
  refine Calls.mono (names_live HL.out) ?_
  rintro e w14 ⟨names, rfl, hl⟩
  have HL := Lib.hid hl
  clear hl
  obtain ⟨wm, hrm, hbm, hxm⟩ := make_bytes w14 1020 (by omega)
  have hrm' : (Instr.makeSlice 35 (.int .i64 1020) (.int .i64 1020)).run Try.prog w14 = .ok (.slice (some ⟨w14.heap.size, 0, none⟩) 1020 1020) wm := hrm
  have HBM := Lib.hid hbm
  have HXM := Lib.hid hxm
  clear hrm hbm hxm
  go_wp2_with fail
  refine Calls.mono (append_live (HL.out.ext HXM.out) (s := ⟨#[99]⟩) (by decide) HBM.out (Nat.le_refl _) (by intro b hb; rw [List.eq_of_mem_replicate hb]; omega) (x := 5) (by rfl) (F' := [⟨[98], [120, 121, 122, 117, 118], 3⟩]) (by rfl)) ?_
  rintro e w15 ⟨rfl, hl⟩
  have HL := Lib.hid hl
  clear hl hrm'
  go_wp2_with fail
  refine Calls.mono (crash_no (HL.out.ext (ext_alloc _ _)) (kept_one w15 ⟨#[98]⟩ (-1) (by decide) (by omega)) (n := 1) (by rfl) (x := 2) (by rfl) (by decide)) ?_
  rintro e w16 ⟨rfl, hl⟩
  have HL := Lib.hid hl
  clear hl
  go_wp2_with fail
  refine Calls.mono (crash_no (HL.out.ext (ext_alloc _ _)) (kept_two w16 ⟨#[98]⟩ 1 (by decide) (by omega)) (n := 2) (by rfl) (x := 2) (by rfl) (by decide)) ?_
  rintro e w17 ⟨rfl, hl⟩
  have HL := Lib.hid hl
  clear hl
  go_wp2_with fail
  refine Calls.mono (crash_no (HL.out.ext (ext_alloc _ _)) (kept_one w17 ⟨#[99]⟩ 1 (by decide) (by omega)) (n := 1) (by rfl) (x := 6) (by rfl) (by decide)) ?_
  rintro e w18 ⟨rfl, hl⟩
  have HL := Lib.hid hl
  clear hl
  go_wp2_with fail
  refine Calls.mono (crash_yes (HL.out) (kept_none w18) (n := 0) (by rfl) (by rfl) (F' := [⟨[98], [120, 121, 122], 3⟩]) (by rfl)) ?_
  rintro e w19 ⟨d2, rfl, hl⟩
  have HL := Lib.hid hl
  clear hl
  go_wp2_with fail
  refine Calls.mono (read_live HL.out (s := ⟨#[98]⟩) (by decide) (x := 0) (by rfl) (bs := [120, 121, 122]) (by rfl)) ?_
  rintro e w20 ⟨t, rfl, hl⟩
  have HL := Lib.hid hl.drop
  clear hl
  obtain ⟨⟨⟨hbel, hy⟩, hnm⟩, ht⟩ := HL.out.here
  obtain ⟨Ay, cy, rfl⟩ := hy.shape
  obtain ⟨At, ct, rfl⟩ := ht.shape
  rw [show snames [⟨[98], [120, 121, 122, 117, 118], 3⟩] = [[98]] from by simp [snames]] at hnm
  obtain ⟨An, cn, rfl, hsn⟩ := hnm
  have hln1 : ([[98]] : List (List UInt8)).length = 1 := rfl
  rw [hln1]
  obtain ⟨bn, on, rfl, _, hbn, hcn⟩ := hsn.at_ (i := 0) (by simp)
  have cvy : (convert 35 9 (.slice Ay 4 cy)).run Try.prog w20 = .ok (.string ⟨#[120, 121, 122, 117]⟩) w20 := cvl hy (by rfl)
  have hcn' : w20.cell? ⟨bn, on, none⟩ = some (.string ⟨#[98]⟩) := hcn
  have hu := used_live HL.out
  rw [show tot [⟨[98], [120, 121, 122, 117, 118], 3⟩] = 5 from by rfl] at hu
  have HU := Lib.hid hu
  clear hbel hy ht hsn hbn hcn hu hln1
  go_wp2_with (first | (go_at_call 15; refine (num_any _ _).mono ?_; rintro e w' ⟨rfl, rfl⟩) | (go_at_call 32; refine Calls.mono HU.out ?_; rintro e w21 ⟨rfl, hl⟩; have HL2 := Lib.hid hl; have cvt : (convert 35 9 (.slice At 3 ct)).run Try.prog w21 = .ok (.string ⟨#[120, 121, 122]⟩) w21 := cvl hl.here.2 (by rfl); clear hl))
  go_ret
  exact ⟨rfl, HL2.out.here.1.1.1⟩
end Go.Proofs.Ythcepihibnmgfaa
