/- Dcopy Drefd Drefu Drefs Dreft Drefo Drefr Drefc Dflowin, joined. -/
import Derived.Test.YtenhfphgobalfaaMa3
import Derived.Laws.ResultCell
import Derived.Test.YtenhfphgobalfaaMa1
import Derived.Deep.DeepCutAuto
import Derived.Test.YtenhfphgobalfaaMa2
import Derived.OrdersIn

/- New, Room, Used, Copy. -/
namespace Go.Proofs.Ytenhfphgobalfaa
open Go.RowKit Go.Maps

/-- A new disk, or none. -/
def NewAns (w : World) (room : Int) (e : Ending) (w' : World) : Prop :=
  (room < 1024 ∨ 1048576 < room) ∧ e = .returned (.tuple #[.pointer none, .int .i64 2]) ∧ w = w' ∨
  ∃ r : Nat, room = (r : Int) ∧ ∃ d, e = .returned (.tuple #[.pointer (some ⟨d, 0, none⟩), .int .i64 0]) ∧ Disk w' (Frm w.heap.size) w.heap.size d r [] ∧ Below w.heap.size w w'
theorem Disk.fresh {w : World} {r : Nat} (h1 : 1024 ≤ r) (h2 : r ≤ 1048576) : Disk ((w.alloc (.map #[] 0)).alloc (.cells #[.int .i64 (r : Int), .map (some w.heap.size)] 79)) (Frm w.heap.size) w.heap.size (w.heap.size + 1) r [] :=
  ⟨⟨w.heap.size, .map [], fun _ => undef, heap_at _ _ (by simp), (World.ownsMap_made w Try.prog 9 rdf).alloc _, ⟨tidy_empty, rfl, fun n => by simp [Maps.has], (fun f hf => (by simp at hf)), by simp⟩, (fun f hf => (by simp at hf)), (fun f hf => (by simp at hf)), Nat.le_refl _, Nat.le_refl _⟩,
    show w.heap.size ≤ w.heap.size + 1 by omega, by omega, h1, h2, Nat.zero_le _, by simp, (fun f hf => (by simp at hf))⟩

set_option maxHeartbeats 1000000 in
theorem new_any (room : Int) (h1 : -9223372036854775808 ≤ room) (h2 : room ≤ 9223372036854775807) (w : World) : Calls Try.prog 11 #[.int .i64 room] w (NewAns w room) := by
  have hmm := @run_makeMap Try.prog
  by_cases hlo : room < 1024
  · have HA : Hid (NewAns w room (.returned (.tuple #[.pointer none, .int .i64 2])) w) := .inl ⟨.inl hlo, rfl, rfl⟩
    go_enter Try.func11, Try.ntmps11
    go_wp2
    go_ret2
    exact HA.out
  · by_cases hhi : 1048576 < room
    · have HA : Hid (NewAns w room (.returned (.tuple #[.pointer none, .int .i64 2])) w) := .inl ⟨.inr hhi, rfl, rfl⟩
      go_enter Try.func11, Try.ntmps11
      go_wp2
      go_ret2
      exact HA.out
    · obtain ⟨r, rfl⟩ : ∃ r : Nat, room = (r : Int) := ⟨room.toNat, by omega⟩
      have HD := Lib.hid (Disk.fresh (w := w) (r := r) (by omega) (by omega))
      go_enter Try.func11, Try.ntmps11
      go_wp2
      go_ret2
      exact .inr ⟨r, rfl, _, rfl, HD.out, ((Below.refl _ w).alloc (Nat.le_refl _) _).alloc (by simp) _⟩

set_option maxHeartbeats 1000000 in
theorem room_any {w : World} {S : Nat → Prop} {B d room : Nat} {F : List Fl} (h : Disk w S B d room F) : Calls Try.prog 37 #[.pointer (some ⟨d, 0, none⟩)] w fun e w' => e = .returned (.int .i64 (room : Int)) ∧ w = w' := by
  obtain ⟨m, D, V, hsee, _⟩ := h.seen
  have hc := hsee.c0
  have HN := Lib.hid (none_no h.isDisk)
  clear hsee h
  go_enter Try.func37, Try.ntmps37
  go_wp2_with fail
  refine Calls.mono HN.out ?_
  rintro e w' ⟨rfl, rfl⟩
  go_wp2_with fail
  go_ret
  exact ⟨rfl, rfl⟩
theorem used_disk {w : World} {S : Nat → Prop} {B d room : Nat} {F : List Fl} (h : Disk w S B d room F) : Calls Try.prog 53 #[.pointer (some ⟨d, 0, none⟩)] w fun e w' => e = .returned (.int .i64 (tot F : Int)) ∧ Below w.heap.size w w' := by
  obtain ⟨m, D, V, hsee, hfiles, _⟩ := h.seen
  refine used_seen hsee (fun f hf => ?_) (Nat.le_trans h.tot h.hi)
  obtain ⟨⟨u, e, hr, _⟩, _⟩ := hfiles f hf
  obtain ⟨A, c, rfl, _⟩ := Sl.of_own hr
  exact ⟨A, c, _, e⟩
set_option maxHeartbeats 1000000 in
theorem Used_any {w : World} {S : Nat → Prop} {B d room : Nat} {F : List Fl} (h : Disk w S B d room F) : Calls Try.prog 30 #[.pointer (some ⟨d, 0, none⟩)] w fun e w' => e = .returned (.int .i64 (tot F : Int)) ∧ Below w.heap.size w w' := by
  have HN := Lib.hid (none_no h.isDisk)
  have HU := Lib.hid (used_disk h)
  clear h
  go_enter Try.func30, Try.ntmps30
  go_wp2_with fail
  refine Calls.mono HN.out ?_
  rintro e w' ⟨rfl, rfl⟩
  go_wp2_with fail
  refine Calls.mono HU.out ?_
  rintro e w1 ⟨rfl, hb⟩
  go_wp2_with fail
  go_ret
  exact ⟨rfl, hb⟩

theorem FileAt.bs {w : World} {S : Nat → Prop} {B : Nat} {f : Fl} {v : Value} (h : FileAt w S B f v) : ∃ A c, v = .agg #[.slice A f.data.length c, .int .i64 (f.lasts : Int)] ∧ Bs w 0 w.heap.size (.slice A f.data.length c) f.data := by
  obtain ⟨⟨u, rfl, hr, _⟩, _, _⟩ := h
  obtain ⟨A, c, rfl, _⟩ := Sl.of_own hr
  exact ⟨A, c, rfl, (Bs.of_own hr).wide (Nat.zero_le _) (Nat.le_refl _)⟩
theorem enters_copy1 : ∀ args w, (callFunc 57 args).run Try.prog w = .ok (.enter 57 args) w := enters_of Try.func57 (by kernel_rfl) rfl

set_option maxHeartbeats 1000000 in
theorem copy1_left {w : World} {S : Nat → Prop} {B : Nat} (A : World) (f : Fl) (v : Value) (hf : FileAt w S B f v) (hb : Below w.heap.size w A) : Calls Try.prog 57 (#[encStr f.name, v] ++ #[]) A (LeftAns w.heap.size f A) := by
  obtain ⟨A0, c, rfl, hbs⟩ := hf.bs
  have HB := Lib.hid (hbs.below hb (Nat.le_refl _))
  have HS := Lib.hid hb.size
  clear hf hbs hb
  rw [Array.append_empty]
  go_enter Try.func57, Try.ntmps57
  go_wp2
  refine bodyPost_ret (v := .agg #[.slice A0 f.data.length c, .int .i64 (f.lasts : Int)]) ?_ rfl ⟨A0, c, rfl, ?_, ?_⟩
  · simp [results, Try.results57, go_sem]
  · exact ((Below.refl _ _).alloc (Nat.le_refl _) _).alloc (by simp) _
  · exact (HB.out.alloc HS.out _).alloc (by simp; exact Nat.le_succ_of_le HS.out) _

set_option maxHeartbeats 1000000 in
theorem copy_any {w : World} {S : Nat → Prop} {B d room : Nat} {F : List Fl} (h : Disk w S B d room F) : Calls Try.prog 33 #[.pointer (some ⟨d, 0, none⟩)] w (OtherAns w room F) := by
  obtain ⟨m, D, V, hsee, hfiles, _⟩ := h.seen
  have HN := Lib.hid (none_no h.isDisk)
  have HA := Lib.hid (another_any h id (fun f hf => ⟨rfl, by have := (hfiles f hf).lasts; exact this, Nat.le_refl _, fun b hb => (hfiles f hf).bytes b hb⟩) 57 #[] enters_copy1 (fun A f v _ hv hb => copy1_left A f v hv hb))
  rw [List.map_id] at HA
  clear hsee hfiles h
  go_enter Try.func33, Try.ntmps33
  go_wp2_with fail
  refine Calls.mono HN.out ?_
  rintro e w' ⟨rfl, rfl⟩
  go_wp2_with fail
  refine Calls.mono HA.out ?_
  rintro e w1 ⟨d', rfl, h1, h2⟩
  have H1 := Lib.hid h1
  have H2 := Lib.hid h2
  clear h1 h2
  go_wp2_with fail
  go_ret
  exact ⟨d', rfl, H1.out, H2.out⟩
end Go.Proofs.Ytenhfphgobalfaa

/- The reference's disk: its files in a row; a name's place. -/
namespace Go.Proofs.Ytenhfphgobalfaa
open Go.RowKit

/-- A file of the reference's: its name, what lasts of it, what is loose. -/
structure RFl where
  name : List UInt8
  sure : List UInt8
  loose : List UInt8

def rcells (f : RFl) : List Value := [encStr f.name, encStr f.sure, encStr f.loose]
theorem rcells_length (f : RFl) : (rcells f).length = 3 := rfl
theorem flat_length (G : List RFl) : (G.flatMap rcells).length = G.length * 3 := by
  induction G with
  | nil => rfl
  | cons f G ih => rw [List.flatMap_cons, List.length_append, ih, rcells_length, List.length_cons]; omega
theorem flat_at (G : List RFl) {k j : Nat} (hk : k < G.length) (hj : j < 3) : (G.flatMap rcells)[k * 3 + j]? = (rcells G[k])[j]? := by
  induction G generalizing k with
  | nil => simp at hk
  | cons f G ih =>
    rw [List.flatMap_cons]
    cases k with
    | zero => rw [List.getElem?_append_left (by rw [rcells_length]; omega)]; simp
    | succ k =>
      rw [List.getElem?_append_right (by rw [rcells_length]; omega), rcells_length, show (k + 1) * 3 + j - 3 = k * 3 + j by omega, ih (by simpa using hk)]
      simp

/-- Block r is a disk of the reference's, from block B on: its files in a row of their own. -/
structure RD (w : World) (B r room : Nat) (G : List RFl) : Prop where
  ex : ∃ v, w.heap[r]? = some (.cells #[.int .i64 (room : Int), v] 66) ∧ w.ownsRow B 45 3 v G.length (G.flatMap rcells)
  le : B ≤ r
  len : G.length ≤ 1000000
  sz : ∀ f ∈ G, f.name.length ≤ maxLen ∧ f.sure.length + f.loose.length ≤ 1048576

theorem rrow_cell {w : World} {B n : Nat} {v : Value} {G : List RFl} (h : w.ownsRow B 45 3 v n (G.flatMap rcells)) {k : Nat} (hk : k < G.length) :
    ∃ g c, v = .slice (some ⟨g, 0, none⟩) n c ∧ w.cell? ⟨g, k * 3, none⟩ = some (encStr G[k].name) ∧ w.cell? ⟨g, k * 3 + 1, none⟩ = some (encStr G[k].sure) ∧ w.cell? ⟨g, k * 3 + 2, none⟩ = some (encStr G[k].loose) := by
  obtain ⟨hl, h | ⟨g, c, cur, rfl, hb, hg, hn, hc, hs, ht⟩⟩ := h
  · obtain ⟨_, rfl⟩ := h
    rw [flat_length] at hl
    omega
  · have key : ∀ j, j < 3 → w.cell? ⟨g, k * 3 + j, none⟩ = (rcells G[k])[j]? := by
      intro j hj
      have h1 := flat_at G hk hj
      rw [← ht] at h1
      rw [flat_length] at hl
      rw [List.getElem?_take_of_lt (by omega)] at h1
      rw [← h1]
      have h2 : k * 3 + j < cur.size := by rw [hs]; have := Nat.mul_le_mul_right 3 hn; omega
      rw [cell_of hg (k := k * 3 + j) (Array.getElem?_eq_getElem h2)]
      simp [h2]
    exact ⟨g, c, rfl, key 0 (by omega), key 1 (by omega), key 2 (by omega)⟩

/-- Where the loop has got to: no file of those before has that name. -/
def noName (G : List RFl) (x : List UInt8) : Prop := ∀ f ∈ G, f.name ≠ x
/-- A name's place, and its error. -/
def SeekAns (G : List RFl) (x : List UInt8) (w : World) (e : Ending) (w' : World) : Prop :=
  w' = w ∧ ((good x = false ∧ e = .returned (.tuple #[.int .i64 (-1), .int .i64 2])) ∨
    (good x = true ∧ noName G x ∧ e = .returned (.tuple #[.int .i64 (-1), .int .i64 6])) ∨
    (good x = true ∧ ∃ k, ∃ hk : k < G.length, G[k].name = x ∧ noName (G.take k) x ∧ e = .returned (.tuple #[.int .i64 (k : Int), .int .i64 0])))

set_option maxHeartbeats 2000000 in
theorem seekNil_any (s : ByteArray) (w : World) : Calls Try.prog 21 #[.pointer none, .string s] w fun e w' => e = .returned (.tuple #[.int .i64 (-1), .int .i64 1]) ∧ w = w' := by
  go_enter Try.func21, Try.ntmps21
  go_wp2
  go_ret2
  exact ⟨rfl, rfl⟩

set_option maxHeartbeats 4000000 in
theorem seek_any {w : World} {B r room : Nat} {G : List RFl} (h : RD w B r room G) (s : ByteArray) (hs : s.size ≤ maxLen) :
    Calls Try.prog 21 #[.pointer (some ⟨r, 0, none⟩), .string s] w (SeekAns G s.data.toList w) := by
  obtain ⟨v, hblk, hrow⟩ := h.ex
  have c1 : w.cell? ⟨r, 1, none⟩ = some v := cell_of (k := 1) hblk rfl
  have hlen := h.len
  have HS := Lib.hid hs
  have HROW := Lib.hid hrow
  obtain ⟨A, c, rfl⟩ : ∃ A c, v = .slice A G.length c := by
    rcases hrow.2 with ⟨rfl, e⟩ | ⟨g, c, cur, rfl, _⟩
    · rw [e]; exact ⟨_, _, rfl⟩
    · exact ⟨_, _, rfl⟩
  clear h hblk hrow hs
  go_enter Try.func21, Try.ntmps21
  go_wp2_with fail
  refine (mayName_any s w HS.out).mono ?_
  rintro e w' ⟨rfl, rfl⟩
  cases hg : good s.data.toList
  · go_wp2_with fail
    go_ret2
    exact ⟨rfl, .inl ⟨hg, rfl⟩⟩
  · have HG := Lib.hid hg
    clear hg
    go_wp2_with fail
    go_loop [6] (fun i => ∃ k : Nat, k ≤ G.length ∧ i = .int .i64 (k : Int) ∧ Hid (noName (G.take k) s.data.toList)) (fun i => G.length - (intOf i).toNat)
    case atStart => exact ⟨0, Nat.zero_le _, rfl, by unfold Hid noName; simp⟩
    case round =>
      obtain ⟨k, hk, rfl, HN⟩ := hrel
      by_cases hlt : k < G.length
      · obtain ⟨g, c', he, q0, _, _⟩ := rrow_cell HROW.out hlt
        injection he with he
        subst he
        obtain ⟨x, hx⟩ : ∃ x, x = G[k].name := ⟨_, rfl⟩
        rw [← hx] at q0
        unfold encStr at q0
        have HX := Lib.hid hx
        clear hx
        by_cases hxs : x = s.data.toList
        · have heq : (x == s.toList) = true := by rw [ByteArray.toList_eq, hxs]; simp
          have HXS := Lib.hid hxs
          clear hxs
          go_wp2_with fail
          go_ret2
          exact ⟨rfl, .inr (.inr ⟨HG.out, k, hlt, by rw [← HX.out]; exact HXS.out, HN.out, rfl⟩)⟩
        · have heq : (x == s.toList) = false := by
            rw [ByteArray.toList_eq, beq_eq_false_iff_ne]; exact hxs
          have HXS := Lib.hid hxs
          clear hxs
          go_wp2_with fail
          go_round
          case rel =>
            refine ⟨k + 1, by omega, by go_num, ?_⟩
            intro f hf
            rw [List.take_succ_eq_append_getElem hlt] at hf
            rcases List.mem_append.1 hf with hf | hf
            · exact HN.out f hf
            · rw [List.mem_singleton.1 hf, ← HX.out]; exact HXS.out
          case measure => simp [intOf]; omega
      · obtain rfl : k = G.length := by omega
        have HN2 := HN.out
        rw [List.take_length] at HN2
        have HN3 := Lib.hid HN2
        clear HN2
        go_wp2_with fail
        go_ret2
        exact ⟨rfl, .inr (.inl ⟨HG.out, HN3.out, rfl⟩)⟩
end Go.Proofs.Ytenhfphgobalfaa

/- The reference's disk: a new one; a file's bytes; how many bytes. -/
namespace Go.Proofs.Ytenhfphgobalfaa
open Go.RowKit

/-- What a new disk of the reference's is. -/
def NewRef (room : Nat) (w : World) (e : Ending) (w' : World) : Prop := ∃ r, e = .returned (.pointer (some ⟨r, 0, none⟩)) ∧ RD w' w.heap.size r room [] ∧ Ext w w'

theorem newRef_no (x : Int) (w : World) (hw : -9223372036854775808 ≤ x ∧ x ≤ 9223372036854775807) (h : x < 1024 ∨ 1048576 < x) : Calls Try.prog 12 #[.int .i64 x] w fun e w' => e = .returned (.pointer none) ∧ w = w' := by
  go_enter Try.func12, Try.ntmps12
  by_cases h1 : x < 1024
  · go_wp2
    go_ret
    exact ⟨rfl, rfl⟩
  · have h2 : 1048576 < x := by omega
    go_wp2
    all_goals
      go_ret
      exact ⟨rfl, rfl⟩

theorem newRef_yes (room : Nat) (w : World) (h : 1024 ≤ room ∧ room ≤ 1048576) : Calls Try.prog 12 #[.int .i64 (room : Int)] w (NewRef room w) := by
  go_enter Try.func12, Try.ntmps12
  have h1 : ¬ ((room : Int) < 1024) := by omega
  have h2 : ¬ ((1048576 : Int) < (room : Int)) := by omega
  go_wp2
  all_goals
    go_ret
    refine ⟨_, rfl, ⟨⟨.slice none 0 0, heap_at _ _ rfl, World.ownsRow_nil _ _ _ _⟩, Nat.le_refl _, by simp, fun _ h => by cases h⟩, ext_alloc _ _⟩

/-- A file's bytes. -/
theorem fileAll_any (x y z : List UInt8) (w : World) (hl : y.length + z.length ≤ 1099511627776) : Calls Try.prog 20 #[.agg #[encStr x, encStr y, encStr z]] w fun e w' => e = .returned (encStr (y ++ z)) ∧ Ext w w' := by
  unfold encStr
  go_enter Try.func20, Try.ntmps20
  go_wp2_with fail
  go_ret
  refine ⟨?_, ext_alloc _ _⟩
  congr 2

def rtot (G : List RFl) : Nat := (G.map fun f => f.sure.length + f.loose.length).sum
theorem rtot_take_succ (G : List RFl) {k : Nat} (hk : k < G.length) : rtot (G.take (k + 1)) = rtot (G.take k) + (G[k].sure.length + G[k].loose.length) := by
  unfold rtot
  rw [List.take_succ_eq_append_getElem hk, List.map_append, List.sum_append]
  simp
theorem rtot_le (G : List RFl) (h : ∀ f ∈ G, f.sure.length + f.loose.length ≤ 1048576) : rtot G ≤ G.length * 1048576 := by
  induction G with
  | nil => simp [rtot]
  | cons f G ih =>
    have h1 := h f (List.mem_cons_self ..)
    have h2 := ih fun g hg => h g (List.mem_cons_of_mem _ hg)
    have : rtot (f :: G) = (f.sure.length + f.loose.length) + rtot G := by simp [rtot]
    rw [this, List.length_cons, Nat.add_mul]
    omega

set_option maxHeartbeats 4000000 in
theorem usedRef_any {w : World} {B r room : Nat} {G : List RFl} (h : RD w B r room G) :
    Calls Try.prog 54 #[.pointer (some ⟨r, 0, none⟩)] w fun e w' => e = .returned (.int .i64 (rtot G : Int)) ∧ Ext w w' := by
  obtain ⟨v, hblk, hrow⟩ := h.ex
  have c1 : w.cell? ⟨r, 1, none⟩ = some v := cell_of (k := 1) hblk rfl
  have hlen := h.len
  have HSZ := Lib.hid h.sz
  have HROW := Lib.hid hrow
  have HC1 := Lib.hid c1
  obtain ⟨A, c, rfl⟩ : ∃ A c, v = .slice A G.length c := by
    rcases hrow.2 with ⟨rfl, e⟩ | ⟨g, c, cur, rfl, _⟩
    · rw [e]; exact ⟨_, _, rfl⟩
    · exact ⟨_, _, rfl⟩
  clear h hblk hrow c1
  go_enter Try.func54, Try.ntmps54
  go_wp2_with fail
  go_loopw [3, 4] (fun n i wr => ∃ k : Nat, k ≤ G.length ∧ i = .int .i64 (k : Int) ∧ n = .int .i64 (rtot (G.take k) : Int) ∧ Hid (Ext w wr)) (fun _ i _ => G.length - (intOf i).toNat)
  case atStart => exact ⟨0, Nat.zero_le _, rfl, rfl, Ext.refl _⟩
  case round =>
    obtain ⟨k, hk, rfl, rfl, HX⟩ := hrel
    have q := ext_cell HX.out HC1.out
    by_cases hlt : k < G.length
    · obtain ⟨g, c', he, q0, q1, q2⟩ := rrow_cell HROW.out hlt
      injection he with he
      subst he
      have q1 := ext_cell HX.out q1
      have q2 := ext_cell HX.out q2
      have hb1 := HSZ.out _ (List.getElem_mem hlt)
      have hb2 := rtot_le (G.take k) fun f hf => (HSZ.out f (List.mem_of_mem_take hf)).2
      rw [List.length_take, Nat.min_eq_left hk] at hb2
      have HSUM := Lib.hid (rtot_take_succ G hlt)
      obtain ⟨y, hy⟩ : ∃ y, y = G[k].sure := ⟨_, rfl⟩
      obtain ⟨z, hz⟩ : ∃ z, z = G[k].loose := ⟨_, rfl⟩
      obtain ⟨n, hn⟩ : ∃ n, n = rtot (G.take k) := ⟨_, rfl⟩
      rw [← hy] at q1 hb1 HSUM
      rw [← hz] at q2 hb1 HSUM
      rw [← hn] at hb2 HSUM ⊢
      unfold encStr at q1 q2
      clear hy hz hn q0
      have hb3 : k * 1048576 ≤ 1000000 * 1048576 := Nat.mul_le_mul_right _ (by omega)
      have hb4 := hb1.2
      have e1 : (⟨y.toArray⟩ : ByteArray).size = y.length := by simp [ByteArray.size]
      have e2 : (⟨z.toArray⟩ : ByteArray).size = z.length := by simp [ByteArray.size]
      go_wp2_with fail
      go_region
      go_wp2_with fail
      go_roundw
      case rel => exact ⟨k + 1, by omega, by go_num, by rw [HSUM.out]; go_num, HX.out.trans (Below.refl _ _).drew⟩
      case measure => simp [intOf]; omega
    · obtain rfl : k = G.length := by omega
      go_wp2_with fail
      go_ret
      rw [List.take_length]
      exact ⟨rfl, HX.out⟩
end Go.Proofs.Ytenhfphgobalfaa

/- The reference's disk: its files are others. -/
namespace Go.Proofs.Ytenhfphgobalfaa
open Go.RowKit

theorem rinfo : (Try.prog.info? 45).map (fun i => (i.zero, i.size, i.bytes)) = some (some (.agg #[.string ⟨#[]⟩, .string ⟨#[]⟩, .string ⟨#[]⟩]), 3, 48) := by kernel_rfl

theorem rcells_one (G : List RFl) : ∀ u ∈ G.flatMap rcells, u.oneCell' = true := by
  intro u hu
  obtain ⟨f, _, hf⟩ := List.mem_flatMap.1 hu
  unfold rcells at hf
  simp only [List.mem_cons, List.not_mem_nil, or_false] at hf
  rcases hf with rfl | rfl | rfl <;> rfl

theorem own_ext {w w' : World} {B k n : Nat} {e : TypeId} {v : Value} {xs : List Value} (h : w.ownsRow B e k v n xs) (hx : Ext w w') : w'.ownsRow B e k v n xs := by
  refine ⟨h.1, ?_⟩
  rcases h.2 with h | ⟨g, c, cur, e1, hb, hg, rest⟩
  · exact .inl h
  · exact .inr ⟨g, c, cur, e1, hb, (hx.block g (Array.getElem?_eq_some_iff.1 hg).1).trans hg, rest⟩

theorem ownsRow_base3 {w : World} {b b' s : Nat} {e : TypeId} {v : Value} {n : Nat} {xs : List Value} (h : w.ownsRow b e s v n xs) (hb : b' ≤ b) : w.ownsRow b' e s v n xs := by
  refine ⟨h.1, ?_⟩
  rcases h.2 with h | ⟨g, c, cur, e1, hg, rest⟩
  · exact .inl h
  · exact .inr ⟨g, c, cur, e1, Nat.le_trans hb hg, rest⟩

/-- 'append([]File(nil), l...)': a row of the call's own that holds the same. -/
theorem wpList_refs {ops : Array Oper} {rest : List Oper} {o : Oper} {a : Act} {Q : Exit → Act → World → Prop} {wr : World} (hgd : o.guard = none) (s x : Operand)
    (ho : o.op = .call { callee := .builtin .append, args := #[s, x], argTypes := #[39, 39] })
    (B : Nat) (v : Value) (G : List RFl) (hs : a.eval s = .slice none 0 0) (hx : a.eval x = v) (hrow : wr.ownsRow B 45 3 v G.length (G.flatMap rcells)) (hlen : G.length ≤ 1000000)
    (h : ∀ v' w', w'.ownsRow wr.heap.size 45 3 v' G.length (G.flatMap rcells) → Ext wr w' → wpList Try.prog ops Q rest (a.put o.dst v') w') : wpList Try.prog ops Q (o :: rest) a wr := by
  obtain ⟨i0, hi0, hz0, hz1, hz2⟩ := info_parts rinfo
  obtain ⟨hl, ⟨rfl, e⟩ | ⟨g, c, cur, rfl, hb, hg, hn, hc, hsz, ht⟩⟩ := hrow
  · have hG : G = [] := List.length_eq_zero_iff.1 e
    subst hG
    exact wpList_append_own_none hgd s x 39 ho wr.heap.size 45 i0 3 Try.underlying39 hi0 _ 0 [] hs (World.ownsRow_nil _ _ _ _) hx (h _ wr (World.ownsRow_nil _ _ _ _) (Ext.refl _))
  · refine wpList_append_own wr hgd s x 39 ho wr.heap.size 45 i0 _ 3 48 Try.underlying39 hi0 hz0 hz1 hz2 rfl (by decide) _ 0 [] hs (World.ownsRow_nil _ _ _ _) ⟨g, 0, none⟩ G.length c (G.flatMap rcells) hx hl ?_ (rcells_one G) (by simp only [maxLen]; omega) (by omega) (Nat.le_refl _)
      (fun v' w' h2 h3 _ => h v' w' (by simpa using h2) ?_)
    · intro j u hj
      rw [← ht] at hj
      have hj1 : j < G.length * 3 := by
        have := (List.getElem?_eq_some_iff.1 hj).1
        rw [List.length_take] at this
        omega
      rw [List.getElem?_take_of_lt hj1] at hj
      have := cell_of hg (k := j) (v := u) (by simpa using hj)
      rw [addr_add, Nat.zero_add]
      exact this
    · exact Chg.nothing (Chg.grown h3 (by intro k hk; simp [Value.ownBlock] at hk))

theorem own_setCell {w : World} {B s n c n' g i : Nat} {e : TypeId} {xs : List Value} (h : w.ownsRow B e s (.slice (some ⟨g, 0, none⟩) n c) n' xs) (u : Value) : (w.setCell ⟨g, i, none⟩ u).ownsRow B e s (.slice (some ⟨g, 0, none⟩) n c) n' (xs.set i u) := by
  obtain ⟨hl, ⟨h, _⟩ | ⟨g', c', cur, he, hb, hg, hn, hc, hs, ht⟩⟩ := h
  · cases h
  · injection he with e1 e2 e3
    injection e1 with e1
    injection e1 with e1
    subst e1 e2 e3
    refine ⟨by rw [List.length_set]; exact hl, .inr ⟨g, c, cur.setIfInBounds i u, rfl, hb, ?_, hn, hc, by simpa using hs, ?_⟩⟩
    · simp [World.setCell, Array.getElem?_modify, hg]
    · rw [← ht, Array.toList_setIfInBounds, List.take_set]
theorem flat_set (G : List RFl) {k : Nat} (hk : k < G.length) (f : RFl) : (G.set k f).flatMap rcells = (((G.flatMap rcells).set (k * 3) (encStr f.name)).set (k * 3 + 1) (encStr f.sure)).set (k * 3 + 2) (encStr f.loose) := by
  induction G generalizing k with
  | nil => simp at hk
  | cons y G ih =>
    cases k with
    | zero => simp [rcells]
    | succ k =>
      rw [List.set_cons_succ, List.flatMap_cons, List.flatMap_cons, ih (by simpa using hk)]
      simp only [rcells, List.cons_append, List.nil_append, show (k + 1) * 3 = k * 3 + 1 + 1 + 1 by omega, List.set_cons_succ]
theorem rrow_free {w : World} {B n g c : Nat} {G : List RFl} (h : w.ownsRow B 45 3 (.slice (some ⟨g, 0, none⟩) n c) n (G.flatMap rcells)) : B ≤ g ∧ ∀ i, w.frozen? ⟨g, i, none⟩ = false := by
  obtain ⟨hl, ⟨h, _⟩ | ⟨g', c', cur, he, hb, hg, hn, hc, hs, ht⟩⟩ := h
  · cases h
  · injection he with e1
    injection e1 with e1
    injection e1 with e1
    subst e1
    exact ⟨hb, fun i => by simp [World.frozen?, hg]⟩

/-- The k-th file is another. -/
def SetAns (w : World) (B r room : Nat) (G : List RFl) (e : Ending) (w' : World) : Prop := (∃ v, e = .returned v) ∧ RD w' B r room G ∧ Chg (fun i => i = r) w w'

set_option maxHeartbeats 4000000 in
theorem set_any {w : World} {B r room : Nat} {G : List RFl} (h : RD w B r room G) {k : Nat} (hk : k < G.length) (f : RFl) (hf : f.name.length ≤ maxLen ∧ f.sure.length + f.loose.length ≤ 1048576) :
    Calls Try.prog 55 #[.pointer (some ⟨r, 0, none⟩), .int .i64 (k : Int), .agg #[encStr f.name, encStr f.sure, encStr f.loose]] w (SetAns w B r room (G.set k f)) := by
  obtain ⟨v, hblk, hrow⟩ := h.ex
  have c1 : w.cell? ⟨r, 1, none⟩ = some v := cell_of (k := 1) hblk rfl
  have HROW := Lib.hid hrow
  have H := Lib.hid h
  have HB := Lib.hid hblk
  have HK := Lib.hid hk
  have hlen := h.len
  have HF := Lib.hid hf
  have c1a := cell_new c1 (.cells #[encStr f.name, encStr f.sure, encStr f.loose] 45)
  unfold encStr at c1a
  clear h hblk hrow hf
  unfold encStr
  go_enter Try.func55, Try.ntmps55
  obtain ⟨w0, hw0⟩ : ∃ w0, w0 = w.alloc (.cells #[.string ⟨f.name.toArray⟩, .string ⟨f.sure.toArray⟩, .string ⟨f.loose.toArray⟩] 45) := ⟨_, rfl⟩
  have HW0 := Lib.hid hw0
  have HX0 : Hid (Ext w w0) := by rw [hw0]; exact ext_alloc _ _
  have HBX : Hid (w0.heap[w.heap.size]? = some (.cells #[.string ⟨f.name.toArray⟩, .string ⟨f.sure.toArray⟩, .string ⟨f.loose.toArray⟩] 45)) := by rw [hw0]; exact heap_at _ _ rfl
  go_wp2_with (at_builtin; go_loud (
    refine wpList_refs rfl _ _ rfl B v G rfl rfl (own_ext HROW.out (ext_alloc _ _)) H.out.len ?_
    rw [← HW0.out]
    intro v' w' hown hx
    have HOWN := Lib.hid hown
    have HX := Lib.hid hx
    obtain ⟨g, c', he, q0, q1, q2⟩ := rrow_cell hown hk
    subst he
    have b0 := ext_cell hx (cell_of (k := 0) HBX.out rfl)
    have b1 := ext_cell hx (cell_of (k := 1) HBX.out rfl)
    have b2 := ext_cell hx (cell_of (k := 2) HBX.out rfl)
    simp only [List.getElem_toArray, List.getElem_cons_zero, List.getElem_cons_succ] at b0 b1 b2
    have c2 := ext_cell hx (ext_cell HX0.out c1)
    have z0 := (rrow_free hown).2 (k * 3)
    have z1 := (rrow_free hown).2 (k * 3 + 1)
    have z2 := (rrow_free hown).2 (k * 3 + 2)
    have z3 : w'.frozen? ⟨r, 1, none⟩ = false := by have := (hx.block r (by have := (Array.getElem?_eq_some_iff.1 HB.out).1; have := HX0.out.size; omega)).trans (ext_heap HX0.out HB.out); simp [World.frozen?, this]
    have hgr := (rrow_free hown).1
    have hne : ¬ r = g := by have := (Array.getElem?_eq_some_iff.1 HB.out).1; have := HX0.out.size; omega
    have hne' : ¬ g = r := fun e => hne e.symm
    clear hown hx hw0))
  have hr := ext_heap (Ext.trans HX0.out HX.out) HB.out
  have hrow := HOWN.out
  go_end0
  refine ⟨⟨_, rfl⟩, ⟨⟨.slice (some ⟨g, 0, none⟩) G.length c', ?_, ?_⟩, H.out.le, by rw [List.length_set]; exact hlen, ?_⟩, ?_⟩
  · simp [World.setCell, Array.getElem?_modify, hr, hne']
  · rw [List.length_set, flat_set G HK.out f]
    have h1 := own_setCell (i := k * 3) hrow (encStr f.name)
    have h2 := own_setCell (i := k * 3 + 1) h1 (encStr f.sure)
    have h3 := own_setCell (i := k * 3 + 2) h2 (encStr f.loose)
    have h4 := ownsRow_setCell_other h3 (a := ⟨r, 1, none⟩) (by simp [Value.ownBlock, hne']) (.slice (some ⟨g, 0, none⟩) G.length c')
    exact ownsRow_base3 h4 (Nat.le_trans (Nat.le_trans H.out.le (Nat.le_of_lt (Array.getElem?_eq_some_iff.1 HB.out).1)) HX0.out.size)
  · intro x hx
    rcases List.mem_or_eq_of_mem_set hx with hx | rfl
    · exact H.out.sz x hx
    · exact HF.out
  · have hc : Chg (fun i => i = g ∨ i = r) w _ := (((((Chg.of_ext (S := fun i => i = g ∨ i = r) (Ext.trans HX0.out HX.out)).trans (Chg.setCell _ ⟨g, k * 3, none⟩ (.string ⟨f.name.toArray⟩) (.inl rfl))).trans (Chg.setCell _ ⟨g, k * 3 + 1, none⟩ (.string ⟨f.sure.toArray⟩) (.inl rfl))).trans (Chg.setCell _ ⟨g, k * 3 + 2, none⟩ (.string ⟨f.loose.toArray⟩) (.inl rfl))).trans (Chg.setCell _ ⟨r, 1, none⟩ (.slice (some ⟨g, 0, none⟩) G.length c') (.inr rfl)))
    exact hc.mono fun i hi hs => by
      rcases hs with rfl | rfl
      · have := HX0.out.size; omega
      · rfl
end Go.Proofs.Ytenhfphgobalfaa

/- The reference's disk: a file less. -/
namespace Go.Proofs.Ytenhfphgobalfaa
open Go.RowKit

/-- The k-th file is gone: the last one takes its place. -/
def drop1 (G : List RFl) (k : Nat) : List RFl := match G.getLast? with | some y => (G.set k y).dropLast | none => []

theorem own_less {w : World} {B s n c n' g : Nat} {e : TypeId} {xs : List Value} (h : w.ownsRow B e s (.slice (some ⟨g, 0, none⟩) n c) n xs) (hn : n' ≤ n) : w.ownsRow B e s (.slice (some ⟨g, 0, none⟩) n' c) n' (xs.take (n' * s)) := by
  obtain ⟨hl, ⟨h, _⟩ | ⟨g', c', cur, he, hb, hg, hn2, hc, hs, ht⟩⟩ := h
  · cases h
  · injection he with e1 e2 e3
    injection e1 with e1
    injection e1 with e1
    subst e1 e3
    have hm := Nat.mul_le_mul_right s hn
    refine ⟨by rw [List.length_take, hl, Nat.min_eq_left hm], .inr ⟨g, c, cur, rfl, hb, hg, Nat.le_trans hn hn2, hc, hs, ?_⟩⟩
    rw [← ht, List.take_take, Nat.min_eq_left hm]
theorem flat_take (G : List RFl) (k : Nat) : (G.take k).flatMap rcells = (G.flatMap rcells).take (k * 3) := by
  induction G generalizing k with
  | nil => simp
  | cons y G ih =>
    cases k with
    | zero => simp
    | succ k =>
      rw [List.take_succ_cons, List.flatMap_cons, List.flatMap_cons, ih, show (k + 1) * 3 = k * 3 + 3 by omega, List.take_append, rcells_length]
      simp [rcells]

theorem rrow_cap {w : World} {B n g c : Nat} {G : List RFl} (h : w.ownsRow B 45 3 (.slice (some ⟨g, 0, none⟩) n c) n (G.flatMap rcells)) : n ≤ c := by
  obtain ⟨hl, ⟨h, _⟩ | ⟨g', c', cur, he, hb, hg, hn, hc, hs, ht⟩⟩ := h
  · cases h
  · injection he with e1 e2 e3
    subst e3
    exact hn

set_option maxHeartbeats 4000000 in
theorem without_any {w : World} {B r room : Nat} {G : List RFl} (h : RD w B r room G) {k : Nat} (hk : k < G.length) :
    Calls Try.prog 56 #[.pointer (some ⟨r, 0, none⟩), .int .i64 (k : Int)] w (SetAns w B r room (drop1 G k)) := by
  obtain ⟨v, hblk, hrow⟩ := h.ex
  have c1 : w.cell? ⟨r, 1, none⟩ = some v := cell_of (k := 1) hblk rfl
  have HROW := Lib.hid hrow
  have H := Lib.hid h
  have HB := Lib.hid hblk
  have HK := Lib.hid hk
  have hlen := h.len
  obtain ⟨m, hm⟩ : ∃ m, G.length = m + 1 := ⟨G.length - 1, by omega⟩
  obtain ⟨f, hf⟩ : ∃ f, f = G[m] := ⟨_, rfl⟩
  have HF := Lib.hid hf
  have HD : Hid (drop1 G k = (G.set k f).take m) := by
    unfold Hid drop1
    rw [List.getLast?_eq_getElem?, hm, Nat.add_sub_cancel, List.getElem?_eq_getElem (by omega), ← hf]
    show (G.set k f).dropLast = _
    rw [List.dropLast_eq_take, List.length_set, hm, Nat.add_sub_cancel]
  have hmi : ((m : Int) + 1 - 1) = (m : Int) := by omega
  clear h hblk hrow hf
  go_enter Try.func56, Try.ntmps56
  go_wp2_with (at_builtin; (
    refine wpList_refs rfl _ _ rfl B v G rfl rfl HROW.out H.out.len ?_
    intro v' w' hown hx
    have HOWN := Lib.hid hown
    have HX := Lib.hid hx
    obtain ⟨g, c', he, y0, y1, y2⟩ := rrow_cell hown hk
    obtain ⟨g2, c2', he2, b0, b1, b2⟩ := rrow_cell hown (k := m) (by omega)
    subst he
    injection he2 with he2 _ he3
    injection he2 with he2
    injection he2 with he2
    subst he2 he3
    rw [← HF.out] at b0 b1 b2
    unfold encStr at b0 b1 b2
    have c2 := ext_cell hx c1
    have z0 := (rrow_free hown).2 (k * 3)
    have z1 := (rrow_free hown).2 (k * 3 + 1)
    have z2 := (rrow_free hown).2 (k * 3 + 2)
    have z3 : w'.frozen? ⟨r, 1, none⟩ = false := by have := ext_heap hx HB.out; simp [World.frozen?, this]
    have hgr := (rrow_free hown).1
    have hcap := rrow_cap hown
    rw [hm] at hcap
    have hne : ¬ r = g := by have := (Array.getElem?_eq_some_iff.1 HB.out).1; omega
    have hne' : ¬ g = r := fun e => hne e.symm
    rw [hm]
    clear hown hx))
  have hr := ext_heap HX.out HB.out
  have hrow := HOWN.out
  go_end0
  rw [HD.out]
  have hmm : m ≤ (G.set k f).length := by rw [List.length_set]; omega
  refine ⟨⟨_, rfl⟩, ⟨⟨.slice (some ⟨g, 0, none⟩) m c', ?_, ?_⟩, H.out.le, by rw [List.length_take, Nat.min_eq_left hmm]; omega, ?_⟩, ?_⟩
  · simp [World.setCell, Array.getElem?_modify, hr, hne']
  · rw [List.length_take, Nat.min_eq_left hmm, flat_take, flat_set G HK.out f]
    have h1 := own_setCell (i := k * 3) hrow (encStr f.name)
    have h2 := own_setCell (i := k * 3 + 1) h1 (encStr f.sure)
    have h3 := own_setCell (i := k * 3 + 2) h2 (encStr f.loose)
    have h4 := ownsRow_setCell_other h3 (a := ⟨r, 1, none⟩) (by simp [Value.ownBlock, hne']) (.slice (some ⟨g, 0, none⟩) m c')
    exact ownsRow_base3 (own_less h4 (by omega)) (Nat.le_trans H.out.le (Nat.le_of_lt (Array.getElem?_eq_some_iff.1 HB.out).1))
  · intro x hx
    rcases List.mem_or_eq_of_mem_set (List.mem_of_mem_take hx) with hx | rfl
    · exact H.out.sz x hx
    · rw [HF.out]; exact H.out.sz _ (List.getElem_mem _)
  · have hc : Chg (fun i => i = g ∨ i = r) w _ := (((((Chg.of_ext (S := fun i => i = g ∨ i = r) HX.out).trans (Chg.setCell _ ⟨g, k * 3, none⟩ (.string ⟨f.name.toArray⟩) (.inl rfl))).trans (Chg.setCell _ ⟨g, k * 3 + 1, none⟩ (.string ⟨f.sure.toArray⟩) (.inl rfl))).trans (Chg.setCell _ ⟨g, k * 3 + 2, none⟩ (.string ⟨f.loose.toArray⟩) (.inl rfl))).trans (Chg.setCell _ ⟨r, 1, none⟩ (.slice (some ⟨g, 0, none⟩) m c') (.inr rfl)))
    exact hc.mono fun i hi hs => by
      rcases hs with rfl | rfl
      · omega
      · rfl
end Go.Proofs.Ytenhfphgobalfaa

/- The reference's disk: Remove, Sync. -/
namespace Go.Proofs.Ytenhfphgobalfaa
open Go.RowKit

/-- A call that changes the file of a name, where there is one, and answers by its name's error. -/
def RefAns (w : World) (B r room : Nat) (G : List RFl) (x : List UInt8) (g : Nat → List RFl) (e : Ending) (w' : World) : Prop :=
  (good x = false ∧ e = .returned (.int .i64 2) ∧ w' = w) ∨
  (good x = true ∧ noName G x ∧ e = .returned (.int .i64 6) ∧ w' = w) ∨
  (good x = true ∧ ∃ k, ∃ hk : k < G.length, G[k].name = x ∧ noName (G.take k) x ∧ e = .returned (.int .i64 0) ∧ RD w' B r room (g k) ∧ Chg (fun i => i = r) w w')

set_option maxHeartbeats 4000000 in
theorem removeRef_any {w : World} {B r room : Nat} {G : List RFl} (h : RD w B r room G) (s : ByteArray) (hs : s.size ≤ maxLen) :
    Calls Try.prog 31 #[.pointer (some ⟨r, 0, none⟩), .string s] w (RefAns w B r room G s.data.toList (drop1 G)) := by
  have H := Lib.hid h
  have HS := Lib.hid hs
  clear h hs
  go_enter Try.func31, Try.ntmps31
  go_wp2_with fail
  refine (seek_any H.out s HS.out).mono ?_
  rintro e w' ⟨rfl, ⟨hg, rfl⟩ | ⟨hg, hn, rfl⟩ | ⟨hg, k, hk, hx, hn, rfl⟩⟩
  · go_wp2_with fail
    go_ret
    exact .inl ⟨hg, rfl, rfl⟩
  · go_wp2_with fail
    go_ret
    exact .inr (.inl ⟨hg, hn, rfl, rfl⟩)
  · have HX := Lib.hid hx
    have HK := Lib.hid hk
    clear hx
    go_wp2_with fail
    refine (without_any H.out HK.out).mono ?_
    rintro e w2 ⟨⟨v, rfl⟩, hrd, hc⟩
    have HRD := Lib.hid hrd
    have HC := Lib.hid hc
    clear hrd hc
    go_wp2_with fail
    go_ret
    exact .inr (.inr ⟨hg, k, hk, HX.out, hn, rfl, HRD.out, HC.out⟩)

theorem RD.ext {w w' : World} {B r room : Nat} {G : List RFl} (h : RD w B r room G) (hx : Ext w w') : RD w' B r room G := by
  obtain ⟨v, h1, h2⟩ := h.ex
  exact ⟨⟨v, ext_heap hx h1, own_ext h2 hx⟩, h.le, h.len, h.sz⟩
theorem encStr_of (s : ByteArray) : encStr s.data.toList = .string s := by simp [encStr]
/-- The file k lasts. -/
def sync1 (G : List RFl) (x : List UInt8) (k : Nat) : List RFl := match G[k]? with | some y => G.set k ⟨x, y.sure ++ y.loose, []⟩ | none => G

set_option maxHeartbeats 4000000 in
theorem syncRef_any {w : World} {B r room : Nat} {G : List RFl} (h : RD w B r room G) (s : ByteArray) (hs : s.size ≤ maxLen) :
    Calls Try.prog 27 #[.pointer (some ⟨r, 0, none⟩), .string s] w (RefAns w B r room G s.data.toList (sync1 G s.data.toList)) := by
  obtain ⟨v, hblk, hrow⟩ := h.ex
  have c1 : w.cell? ⟨r, 1, none⟩ = some v := cell_of (k := 1) hblk rfl
  have H := Lib.hid h
  have HS := Lib.hid hs
  have HROW := Lib.hid hrow
  clear h hs hrow hblk
  go_enter Try.func27, Try.ntmps27
  go_wp2_with fail
  refine (seek_any H.out s HS.out).mono ?_
  rintro e w' ⟨rfl, ⟨hg, rfl⟩ | ⟨hg, hn, rfl⟩ | ⟨hg, k, hk, hx, hn, rfl⟩⟩
  · go_wp2_with fail
    go_ret
    exact .inl ⟨hg, rfl, rfl⟩
  · go_wp2_with fail
    go_ret
    exact .inr (.inl ⟨hg, hn, rfl, rfl⟩)
  · have HX := Lib.hid hx
    have HK := Lib.hid hk
    have hsz := H.out.sz _ (List.getElem_mem hk)
    obtain ⟨y, hy⟩ : ∃ y : RFl, y = G[k]'hk := ⟨_, rfl⟩
    obtain ⟨g, c', he, q0, q1, q2⟩ := rrow_cell HROW.out hk
    subst he
    rw [← hy] at q0 q1 q2 hsz
    have HY := Lib.hid hy
    have HSZ := Lib.hid hsz
    clear hx hy
    unfold encStr at q0 q1 q2
    go_wp2_with fail
    refine (fileAll_any y.name y.sure y.loose _ (by have := HSZ.out.2; omega)).mono ?_
    rintro e w2 ⟨rfl, hx2⟩
    have HX2 := Lib.hid hx2
    clear hx2 q0 q1 q2 c1
    unfold encStr
    go_wp2_with fail
    have key := set_any (H.out.ext HX2.out) HK.out ⟨s.data.toList, y.sure ++ y.loose, []⟩ ⟨by show s.data.toList.length ≤ maxLen; rw [size_list]; exact HS.out, by show (y.sure ++ y.loose).length + 0 ≤ _; rw [List.length_append]; exact HSZ.out.2⟩
    rw [encStr_of] at key
    unfold encStr at key
    refine key.mono ?_
    rintro e w3 ⟨⟨v, rfl⟩, hrd, hc⟩
    have HRD := Lib.hid hrd
    have HC := Lib.hid hc
    clear hrd hc key
    go_wp2_with fail
    go_ret
    refine .inr (.inr ⟨hg, k, HK.out, HX.out, hn, rfl, ?_, (Chg.of_ext HX2.out).trans HC.out⟩)
    unfold sync1
    rw [List.getElem?_eq_getElem HK.out, ← HY.out]
    exact HRD.out
end Go.Proofs.Ytenhfphgobalfaa

/- The reference's disk: Rename. -/
namespace Go.Proofs.Ytenhfphgobalfaa
open Go.RowKit

/-- The file k has another name. -/
def name1 (G : List RFl) (x : List UInt8) (k : Nat) : List RFl := match G[k]? with | some y => G.set k ⟨x, y.sure, y.loose⟩ | none => G
/-- What Rename of the reference's does. -/
def RenAns (w : World) (B r room : Nat) (G : List RFl) (x y : List UInt8) (e : Ending) (w' : World) : Prop :=
  ((good x = false ∨ good y = false) ∧ e = .returned (.int .i64 2) ∧ w' = w) ∨
  (good x = true ∧ good y = true ∧ noName G x ∧ e = .returned (.int .i64 6) ∧ w' = w) ∨
  (good x = true ∧ x = y ∧ (∃ k, ∃ hk : k < G.length, (G[k]'hk).name = x) ∧ e = .returned (.int .i64 0) ∧ w' = w) ∨
  (good x = true ∧ good y = true ∧ x ≠ y ∧ noName G y ∧ ∃ k, ∃ hk : k < G.length, (G[k]'hk).name = x ∧ e = .returned (.int .i64 0) ∧ RD w' B r room (name1 G y k) ∧ Chg (fun i => i = r) w w') ∨
  (good x = true ∧ good y = true ∧ x ≠ y ∧ ∃ k, ∃ hk : k < G.length, (G[k]'hk).name = x ∧ ∃ l, ∃ hl : l < G.length, (G[l]'hl).name = y ∧ e = .returned (.int .i64 0) ∧ RD w' B r room (drop1 (name1 G y k) l) ∧ Chg (fun i => i = r) w w')

set_option maxHeartbeats 4000000 in
theorem renameRef_any {w : World} {B r room : Nat} {G : List RFl} (h : RD w B r room G) (s t : ByteArray) (hs : s.size ≤ maxLen) (ht : t.size ≤ maxLen) :
    Calls Try.prog 39 #[.pointer (some ⟨r, 0, none⟩), .string s, .string t] w (RenAns w B r room G s.data.toList t.data.toList) := by
  obtain ⟨v, hblk, hrow⟩ := h.ex
  have c1 : w.cell? ⟨r, 1, none⟩ = some v := cell_of (k := 1) hblk rfl
  have H := Lib.hid h
  have HS := Lib.hid hs
  have HT := Lib.hid ht
  have HROW := Lib.hid hrow
  clear h hs ht hrow hblk
  go_enter Try.func39, Try.ntmps39
  go_wp2_with fail
  refine (seek_any H.out s HS.out).mono ?_
  rintro e w' ⟨rfl, ⟨hg, rfl⟩ | ⟨hg, hn, rfl⟩ | ⟨hg, k, hk, hx, hn, rfl⟩⟩
  · go_wp2_with fail
    refine (seek_any H.out t HT.out).mono ?_
    rintro e w2 ⟨rfl, ⟨hg2, rfl⟩ | ⟨hg2, hn2, rfl⟩ | ⟨hg2, k2, hk2, hx2, hn2, rfl⟩⟩
    all_goals
      go_wp2_with fail
      go_ret
      exact .inl ⟨.inl hg, rfl, rfl⟩
  · go_wp2_with fail
    refine (seek_any H.out t HT.out).mono ?_
    rintro e w2 ⟨rfl, ⟨hg2, rfl⟩ | ⟨hg2, hn2, rfl⟩ | ⟨hg2, k2, hk2, hx2, hn2, rfl⟩⟩
    · go_wp2_with fail
      go_ret
      exact .inl ⟨.inr hg2, rfl, rfl⟩
    all_goals
      go_wp2_with fail
      go_ret
      exact .inr (.inl ⟨hg, hg2, hn, rfl, rfl⟩)
  · have HX := Lib.hid hx
    have HK := Lib.hid hk
    obtain ⟨y, hy⟩ : ∃ y : RFl, y = G[k]'hk := ⟨_, rfl⟩
    obtain ⟨g, c', he, q0, q1, q2⟩ := rrow_cell HROW.out hk
    subst he
    rw [← hy] at q0 q1 q2
    have HY := Lib.hid hy
    have HSZ : Hid (y.sure.length + y.loose.length ≤ 1048576) := by rw [hy]; exact (H.out.sz _ (List.getElem_mem hk)).2
    clear hx hy
    unfold encStr at q0 q1 q2
    go_wp2_with fail
    refine (seek_any H.out t HT.out).mono ?_
    rintro e w2 ⟨rfl, ⟨hg2, rfl⟩ | ⟨hg2, hn2, rfl⟩ | ⟨hg2, k2, hk2, hx2, hn2, rfl⟩⟩
    · go_wp2_with fail
      go_ret
      exact .inl ⟨.inr hg2, rfl, rfl⟩
    · have hxy : s.data.toList ≠ t.data.toList := fun e => hn2 (G[k]'hk) (List.getElem_mem _) (by rw [HX.out]; exact e)
      have heq : (s.toList == t.toList) = false := by rw [ByteArray.toList_eq, ByteArray.toList_eq, beq_eq_false_iff_ne]; exact hxy
      have HXY := Lib.hid hxy
      have HN2 := Lib.hid hn2
      clear hxy hn2 hn
      go_wp2_with fail
      have key := set_any (H.out.ext (ext_alloc _ (.cells #[.string t, .string ⟨y.sure.toArray⟩, .string ⟨y.loose.toArray⟩] 45))) HK.out ⟨t.data.toList, y.sure, y.loose⟩ ⟨by show t.data.toList.length ≤ maxLen; rw [size_list]; exact HT.out, HSZ.out⟩
      rw [encStr_of] at key
      unfold encStr at key
      refine key.mono ?_
      rintro e w3 ⟨⟨v, rfl⟩, hrd, hc⟩
      have HRD := Lib.hid hrd
      have HC := Lib.hid hc
      clear hrd hc key q0 q1 q2 c1
      go_wp2_with fail
      go_ret
      refine .inr (.inr (.inr (.inl ⟨hg, hg2, HXY.out, HN2.out, k, HK.out, HX.out, rfl, ?_, (Chg.of_ext (ext_alloc _ _)).trans HC.out⟩)))
      unfold name1
      rw [List.getElem?_eq_getElem HK.out, ← HY.out]
      exact HRD.out
    · have HX2 := Lib.hid hx2
      clear hx2 hn hn2
      by_cases hxy : s.data.toList = t.data.toList
      · have heq : (s.toList == t.toList) = true := by rw [ByteArray.toList_eq, ByteArray.toList_eq, beq_iff_eq]; exact hxy
        have HXY := Lib.hid hxy
        clear hxy
        go_wp2_with fail
        go_ret
        exact .inr (.inr (.inl ⟨hg, HXY.out, ⟨k, HK.out, HX.out⟩, rfl, rfl⟩))
      · have heq : (s.toList == t.toList) = false := by rw [ByteArray.toList_eq, ByteArray.toList_eq, beq_eq_false_iff_ne]; exact hxy
        have HXY := Lib.hid hxy
        clear hxy
        go_wp2_with fail
        have key := set_any (H.out.ext (ext_alloc _ (.cells #[.string t, .string ⟨y.sure.toArray⟩, .string ⟨y.loose.toArray⟩] 45))) HK.out ⟨t.data.toList, y.sure, y.loose⟩ ⟨by show t.data.toList.length ≤ maxLen; rw [size_list]; exact HT.out, HSZ.out⟩
        rw [encStr_of] at key
        unfold encStr at key
        refine key.mono ?_
        rintro e w3 ⟨⟨v, rfl⟩, hrd, hc⟩
        have HRD := Lib.hid hrd
        have HC := Lib.hid hc
        clear hrd hc key q0 q1 q2 c1
        go_wp2_with fail
        refine (without_any HRD.out (k := k2) (by rw [List.length_set]; exact hk2)).mono ?_
        rintro e w4 ⟨⟨v, rfl⟩, hrd, hc⟩
        have HRD4 := Lib.hid hrd
        have HC4 := Lib.hid hc
        clear hrd hc
        go_wp2_with fail
        go_ret
        refine .inr (.inr (.inr (.inr ⟨hg, hg2, HXY.out, k, HK.out, HX.out, k2, hk2, HX2.out, rfl, ?_, ((Chg.of_ext (ext_alloc _ _)).trans HC.out).trans HC4.out⟩)))
        unfold name1
        rw [List.getElem?_eq_getElem HK.out, ← HY.out]
        exact HRD4.out
end Go.Proofs.Ytenhfphgobalfaa

/- The reference's disk: Copy. -/
namespace Go.Proofs.Ytenhfphgobalfaa
open Go.RowKit

/-- 'append([]File(nil), l...)', as an operation by itself. -/
theorem wp_refs {o : Oper} {a : Act} {Q : Exit → Act → World → Prop} {K : Act → World → Prop} {wr : World} (s x : Operand)
    (ho : o.op = .call { callee := .builtin .append, args := #[s, x], argTypes := #[39, 39] })
    (B : Nat) (v : Value) (G : List RFl) (hs : a.eval s = .slice none 0 0) (hx : a.eval x = v) (hrow : wr.ownsRow B 45 3 v G.length (G.flatMap rcells)) (hlen : G.length ≤ 1000000)
    (h : ∀ v' w', w'.ownsRow wr.heap.size 45 3 v' G.length (G.flatMap rcells) → Ext wr w' → K (a.put o.dst v') w') : o.wp Try.prog a wr K Q := by
  obtain ⟨i0, hi0, hz0, hz1, hz2⟩ := info_parts rinfo
  obtain ⟨hl, ⟨rfl, e⟩ | ⟨g, c, cur, rfl, hb, hg, hn, hc, hsz, ht⟩⟩ := hrow
  · have hG : G = [] := List.length_eq_zero_iff.1 e
    subst hG
    have hrun := run_append_owned_none (P := Try.prog) (w := wr) wr.heap.size 39 o.type 45 i0 3 Try.underlying39 hi0 _ 0 [] (World.ownsRow_nil _ _ _ _)
    unfold Oper.wp
    simp [execOp, ho, resolve, invoke, builtin, hs, hx, hrun, Result.andThen]
    exact h _ wr (World.ownsRow_nil _ _ _ _) (Ext.refl _)
  · refine wp_append_own wr s x 39 ho wr.heap.size 45 i0 _ 3 48 Try.underlying39 hi0 hz0 hz1 hz2 rfl (by decide) _ 0 [] hs (World.ownsRow_nil _ _ _ _) ⟨g, 0, none⟩ G.length c (G.flatMap rcells) hx hl ?_ (rcells_one G) (by simp only [maxLen]; omega) (by omega) (Nat.le_refl _)
      (fun v' w' h2 h3 _ => h v' w' (by simpa using h2) ?_)
    · intro j u hj
      rw [← ht] at hj
      have hj1 : j < G.length * 3 := by
        have := (List.getElem?_eq_some_iff.1 hj).1
        rw [List.length_take] at this
        omega
      rw [List.getElem?_take_of_lt hj1] at hj
      have := cell_of hg (k := j) (v := u) (by simpa using hj)
      rw [addr_add, Nat.zero_add]
      exact this
    · exact Chg.nothing (Chg.grown h3 (by intro k hk; simp [Value.ownBlock] at hk))

theorem copyRefNil_any (w : World) : Calls Try.prog 34 #[.pointer none] w fun e w' => e = .returned (.pointer none) ∧ w = w' := by
  go_enter Try.func34, Try.ntmps34
  go_wp2
  go_ret
  exact ⟨rfl, rfl⟩

/-- What a copy of the reference's disk is. -/
def CopyRef (w : World) (room : Nat) (G : List RFl) (e : Ending) (w' : World) : Prop := ∃ r, e = .returned (.pointer (some ⟨r, 0, none⟩)) ∧ RD w' w.heap.size r room G ∧ Ext w w'

set_option maxHeartbeats 4000000 in
theorem copyRef_any {w : World} {B r room : Nat} {G : List RFl} (h : RD w B r room G) : Calls Try.prog 34 #[.pointer (some ⟨r, 0, none⟩)] w (CopyRef w room G) := by
  obtain ⟨v, hblk, hrow⟩ := h.ex
  have c1 : w.cell? ⟨r, 1, none⟩ = some v := cell_of (k := 1) hblk rfl
  have c0 : w.cell? ⟨r, 0, none⟩ = some (.int .i64 (room : Int)) := cell_of (k := 0) hblk rfl
  have H := Lib.hid h
  have HROW := Lib.hid hrow
  clear h hrow hblk
  go_enter Try.func34, Try.ntmps34
  obtain ⟨A, c, rfl⟩ : ∃ A c, v = .slice A G.length c := by
    rcases HROW.out.2 with ⟨rfl, e⟩ | ⟨g, c, cur, rfl, _⟩
    · rw [e]; exact ⟨_, _, rfl⟩
    · exact ⟨_, _, rfl⟩
  have HC : Hid (∀ u, Ext w.drew u → u.cell? ⟨r, 0, none⟩ = some (.int .i64 (room : Int)) ∧ u.cell? ⟨r, 1, none⟩ = some (.slice A G.length c)) := fun u hu => ⟨ext_cell ((Ext.drew w).trans hu) c0, ext_cell ((Ext.drew w).trans hu) c1⟩
  clear c0 c1
  go_wp2_with fail
  · refine From.start (by kernel_rfl) ?_
    simp only []
    repeat (first | (refine From.read (v := ?_) (by kernel_rfl) (by kernel_rfl) (by kernel_rfl) (fun _ _ _ h => h) (.inl ⟨by rfl, fun u hu => ?_⟩) ?_; rotate_left; (focus (have q1 := HC.out u hu; go_simp; try with_reducible rfl)); simp only [Act.put, List.setIfInBounds_toArray, List.set_cons_zero, List.set_cons_succ]))
    refine From.make (by kernel_rfl) (fun K hK => ?_)
    refine wp_refs _ _ rfl B (.slice A G.length c) G rfl rfl (own_ext HROW.out (Ext.drew w)) H.out.len ?_
    intro v' w2 hown hx
    refine hK _ _ hx ?_
    clear hK K
    obtain ⟨A', c', rfl⟩ : ∃ A c, v' = .slice A G.length c := by
      rcases hown.2 with ⟨rfl, e⟩ | ⟨g, c, cur, rfl, _⟩
      · rw [e]; exact ⟨_, _, rfl⟩
      · exact ⟨_, _, rfl⟩
    have HOWN := Lib.hid hown
    have HX := Lib.hid hx
    have HT : Hid (∀ u, Ext w2 u → True) := fun _ _ => trivial
    clear hown hx
    simp only [Act.put, List.setIfInBounds_toArray, List.set_cons_zero, List.set_cons_succ]
    repeat (first | (refine From.read (v := ?_) (by kernel_rfl) (by kernel_rfl) (by kernel_rfl) (fun _ _ _ h => h) (.inl ⟨by rfl, fun u hu => ?_⟩) ?_; rotate_left; (focus (have q1 := HT.out u hu; go_simp; try with_reducible rfl)); simp only [Act.put, List.setIfInBounds_toArray, List.set_cons_zero, List.set_cons_succ]))
    refine From.make (by kernel_rfl) (fun K hK => ?_)
    go_simp
    refine hK _ _ (ext_alloc _ _) ?_
    clear hK K
    have HT2 : Hid (∀ u : World, True) := fun _ => trivial
    try simp only [Act.put, List.setIfInBounds_toArray, List.set_cons_zero, List.set_cons_succ]
    repeat (first | (refine From.read (v := ?_) (by kernel_rfl) (by kernel_rfl) (by kernel_rfl) (fun _ _ _ h => h) (.inl ⟨by rfl, fun u hu => ?_⟩) ?_; rotate_left; (focus (have q1 := HT2.out u; go_simp; try with_reducible rfl)); simp only [Act.put, List.setIfInBounds_toArray, List.set_cons_zero, List.set_cons_succ]))
    refine From.done (by kernel_rfl) ?_
    go_wp2_with fail
    go_ret
    have hx0 := Ext.trans (Ext.drew w) HX.out
    refine ⟨_, rfl, ⟨⟨.slice A' G.length c', heap_at _ _ rfl, ?_⟩, hx0.size, H.out.len, H.out.sz⟩, Ext.trans hx0 (ext_alloc _ _)⟩
    exact own_ext HOWN.out (ext_alloc _ _)
end Go.Proofs.Ytenhfphgobalfaa

/- A region that draws its order, by facts, within a round of a loop over a function. -/
namespace Go.Proofs.Ytenhfphgobalfaa
open Go.RowKit

section
variable {P : Program} {ops : Array Oper} {Q : Exit → Act → World → Prop} {l m : Nat}

theorem op_in {o : Oper} {a : Act} {w : World} {K : Act → World → Prop} (hnd : ∀ c, o.op ≠ .defer c) (h : o.wp P a w K Q) : o.wpIn (Fence.wide.inRound l) m P a w K Q := by
  refine ⟨fun _ _ => trivial, ?_⟩
  rw [show (Fence.wide.inRound l).round = some l from rfl, Oper.semAt_some l a.eval o hnd]
  unfold Oper.wp at h
  generalize (execOp a.eval o).run P w = r at h ⊢
  cases r with
  | ok x w' =>
    cases x with
    | value v => exact h
    | skip => exact h
    | defer d => exact h
    | enter f args => exact ⟨(fun e => (by cases e)), CallsIn.inRound l (callsIn_wide.2 h)⟩
    | row row args =>
      refine ⟨(fun e => (by cases e)), fun c cs _ => ?_⟩
      obtain ⟨v, w2, hr, hs⟩ := h c cs
      exact ⟨v, w2, hr, stepsIn_wide.2 hs⟩
    | _ => exact h.elim
  | halt x w' => cases x <;> first | exact h | exact h.elim

theorem any_in (hnd : ∀ (i : Nat) (o : Oper), ops[i]? = some o → ∀ c, o.op ≠ .defer c) (hQ : ¬ LetsOut Q) : ∀ (n : Nat) (seen : Array Bool) (a : Act) (w : World), wpAny P .any ops Q n seen a w → wpAnyIn (Fence.wide.inRound l) m P .any ops Q n seen a w := by
  intro n
  induction n with
  | zero => intro seen a w h; exact h
  | succ n ih =>
    intro seen a w h
    refine ⟨h.1, fun i hi => ?_⟩
    have h2 := h.2 i hi
    unfold wpOp at h2
    unfold wpOpIn
    cases ho : ops[i]? with
    | none => simp only [ho] at h2 ⊢; exact ih _ _ _ h2
    | some o =>
      simp only [ho] at h2 ⊢
      split
      · rename_i hw
        rw [if_pos hw] at h2
        rcases h2 with h2 | ⟨_, h2⟩
        · exact Oper.wpIn_mono (fun a w h => ih _ a w h) (op_in (hnd i o ho) h2)
        · exact absurd h2 hQ
      · rename_i hw
        rw [if_neg hw] at h2
        exact ⟨fun _ _ => trivial, ih _ _ _ h2⟩

/-- No operation of these is a defer statement. -/
def noDefer (ops : Array Oper) : Bool := ops.all fun o => match o.op with | .defer _ => false | _ => true
theorem noDefer_at (h : noDefer ops = true) (i : Nat) (o : Oper) (ho : ops[i]? = some o) (c : Call) : o.op ≠ .defer c := by
  intro e
  obtain ⟨hi, he⟩ := Array.getElem?_eq_some_iff.1 ho
  have := (Array.all_eq_true.1 h) i hi
  rw [he, e] at this
  cases this

theorem flow_in {a0 : Act} {id : Nat} {w : World} (hm : P.follows .mixedOrders = true) (hnd : noDefer ops = true) (hQ : ∀ a w, ¬ Q .outgrown a w) (φ : List (Value → World → Prop)) (hok : flowOk ops a0.tmps.size = true) (hsel : Region.noSelect ops = true) (hmono : ∀ p ∈ φ, Mono p)
    (hobl : ∀ f, Obls P ops φ w.drew f 0 ops.toList a0)
    (hfin : ∀ (g : Nat → Value) u, Ext w.drew u → (∀ j, j < ops.size → fact φ j (g j) u) → Q .normal (puts g 0 ops.toList a0) u) : (Code.region id ops true).wpIn (Fence.wide.inRound l) m P Q a0 w := by
  refine wpIn_region_any hm (any_in (noDefer_at hnd) (fun ⟨a, w, h⟩ => hQ a w h) _ _ _ _ (flow_any hok hsel hmono hobl hfin _ _ _ _ ⟨Ext.refl _, by simp, rfl, rfl, fun _ _ => rfl, fun j oj hj hs => ?_, fun j oj hj hs => ?_⟩ ?_))
  · have hlt := (Array.getElem?_eq_some_iff.1 hj).1
    simp [Array.getD, hlt] at hs
  · have hlt := (Array.getElem?_eq_some_iff.1 hj).1
    simp [Array.getD, hlt] at hs
  · unfold left
    rw [List.countP_eq_length.2]
    · simp
    · intro i hi
      have hlt := List.mem_range.1 hi
      simp [Array.getD, hlt]
end
end Go.Proofs.Ytenhfphgobalfaa
