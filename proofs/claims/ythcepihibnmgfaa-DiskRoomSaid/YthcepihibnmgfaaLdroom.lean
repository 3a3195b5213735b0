/- DiskRoom: a disk takes bytes until its room is used. -/
import Derived.Test.YthcepihibnmgfaaDknown
namespace Go.Proofs.Ythcepihibnmgfaa
open Go.RowKit Go.Maps
theorem Lives.nodup {B d room : Nat} {F : List Fl} {L : List Dk} {P : World → Prop} {w : World} (h : Lives B ((d, room, F) :: L) P w) : (F.map Fl.name).Nodup := by
  obtain ⟨S, hd⟩ := h.disk
  obtain ⟨m, D, V, hs, _⟩ := hd.seen
  exact hs.con.nodup
theorem tot_app {F : List Fl} (h : (F.map Fl.name).Nodup) (n : List UInt8) (bs : List Nat) : tot (app F n bs) = tot F + bs.length := by
  have := tot_upd h ⟨n, (cur F n).data ++ bs, (cur F n).lasts⟩
  unfold app
  simp at this
  omega
theorem len_app {F : List Fl} (h : (F.map Fl.name).Nodup) (n : List UInt8) (bs : List Nat) : (app F n bs).length = F.length + if there F n then 0 else 1 := len_upd h _
theorem there_app (F : List Fl) (n : List UInt8) (bs : List Nat) : there (app F n bs) n = true := by unfold app upd there; simp
theorem appN_zero {F : List Fl} {room L : Nat} {n : List UInt8} (hg : good n = true) (ht : tot F + L ≤ room) (hc : there F n = true ∨ F.length < 128) : 0 = appN F room L n := by
  unfold appN fullN
  rw [hg, decide_eq_false (by omega)]
  have : (!there F n && F.length == 128) = false := by
    rcases hc with h | h
    · rw [h]; rfl
    · rw [show (F.length == 128) = false from by simp; omega]; simp
  rw [this]; rfl
theorem appN_five {F : List Fl} {room L : Nat} {n : List UInt8} (hg : good n = true) (ht : room < tot F + L) : 5 = appN F room L n := by
  unfold appN fullN
  rw [hg, decide_eq_true ht]; rfl
theorem seekN_zero {F : List Fl} {n : List UInt8} (hg : good n = true) (ht : there F n = true) : 0 = seekN F n := by unfold seekN; rw [hg, ht]; rfl
theorem used_is {B d room : Nat} {F : List Fl} {L : List Dk} {P : World → Prop} {w : World} (h : Lives B ((d, room, F) :: L) P w) {x : Int} (hx : (tot F : Int) = x) :
    Calls Try.prog 32 #[.pointer (some ⟨d, 0, none⟩)] w fun e w' => e = .returned (.int .i64 x) ∧ Lives B ((d, room, F) :: L) P w' := by
  subst hx; exact used_live h
theorem names_is {B d room : Nat} {F : List Fl} {L : List Dk} {P : World → Prop} {w : World} (h : Lives B ((d, room, F) :: L) P w) {k : Nat} (hk : F.length = k) :
    Calls Try.prog 37 #[.pointer (some ⟨d, 0, none⟩)] w fun e w' => ∃ A c, e = .returned (.slice A k c) ∧ Lives B ((d, room, F) :: L) P w' :=
  (names_live h).mono fun e w' ⟨v, he, hl⟩ => by
    obtain ⟨A, c, hv, _⟩ := hl.here.2
    rw [snames_length, hk] at hv
    exact ⟨A, c, by rw [he, hv], hl.imp fun _ h => h.1⟩
theorem there_app_of {F : List Fl} {n k : List UInt8} {bs : List Nat} (h : there F k = true) : there (app F n bs) k = true := by
  obtain ⟨f, hf, rfl⟩ := there_yes h
  by_cases e : f.name = n
  · rw [← e]; exact there_app F f.name bs
  · exact there_of (List.mem_cons_of_mem _ (mem_del.2 ⟨hf, e⟩))
end Go.Proofs.Ythcepihibnmgfaa
namespace Go.Proofs.Ythcepihibnmgfaa.diskRoom
open Go.RowKit Go.Maps

theorem i64_of {x : Int} (hx : (Lit.int .i64 x).wf = true) : -9223372036854775808 ≤ x ∧ x ≤ 9223372036854775807 := by
  simpa [Lit.wf, IntKind.min, IntKind.max, IntKind.signed, IntKind.bits] using hx
theorem make_int (w : World) (x : Int) (n : Nat) (hx : x = (n : Int)) (hn : n ≤ 1099511627776) : ∃ w', (Instr.makeSlice 35 (.int .i64 x) (.int .i64 x)).run Try.prog w = .ok (.slice (some ⟨w.heap.size, 0, none⟩) n n) w' ∧ Bs w' 0 w'.heap.size (.slice (some ⟨w.heap.size, 0, none⟩) n n) (List.replicate n 0) ∧ Ext w w' := by
  subst hx; exact make_bytes w n hn
theorem rep_byte (n : Nat) : ∀ b ∈ List.replicate n 0, b < 256 := fun b hb => by rw [List.eq_of_mem_replicate hb]; omega

set_option maxRecDepth 100000 in
set_option maxHeartbeats 8000000 in
theorem walk (w : World) (a0 : Int) (h0 : (Lit.int .i64 a0).wf = true) (a1 : Int) (h1 : (Lit.int .i64 a1).wf = true) (a2 : Int) (h2 : (Lit.int .i64 a2).wf = true) :
    Calls Try.prog 8 #[.int .i64 a0, .int .i64 a1, .int .i64 a2] w fun e w' => e = .returned (.bool true) ∧ Below w.heap.size w w' := by
  have b0 := i64_of h0
  have b1 := i64_of h1
  have b2 := i64_of h2
  clear h0 h1 h2
  by_cases hr : a0 < 1024 ∨ 1048576 < a0
  · have HN := Lib.hid (new_no b0.1 b0.2 hr w)
    have HK := Lib.hid (known_any w)
    clear hr
    go_enter Try.func8, Try.ntmps8
    go_wp2_with fail
    refine Calls.mono HN.out ?_
    rintro e w' ⟨rfl, rfl⟩
    go_wp2_with (first | (go_at_call 15; refine (num_any _ _).mono ?_; rintro e w' ⟨rfl, rfl⟩) | (go_at_call 12; refine Calls.mono HK.out ?_; rintro e w' ⟨rfl, hb⟩; have HB := Lib.hid hb; clear hb))
    go_ret
    exact ⟨rfl, HB.out⟩
  · obtain ⟨r, rfl⟩ : ∃ r : Nat, a0 = (r : Int) := ⟨a0.toNat, by omega⟩
    have HN := Lib.hid (new_yes (r := r) (by omega) (by omega) w)
    have hr1 : (r : Int) ≤ 1048576 := by omega
    by_cases hbad : a1 < 0 ∨ a2 < 0 ∨ (r : Int) < a1 ∨ (r : Int) < a2
    · have hz : ∃ z1 z2 z3 z4 : Bool, decide (a1 < 0) = z1 ∧ decide (a2 < 0) = z2 ∧ decide ((r : Int) < a1) = z3 ∧ decide ((r : Int) < a2) = z4 ∧ (z1 || (z2 || (z3 || z4))) = true := ⟨_, _, _, _, rfl, rfl, rfl, rfl, by simpa using hbad⟩
      obtain ⟨z1, z2, z3, z4, e1, e2, e3, e4, e5⟩ := hz
      clear hbad b1 b2
      go_enter Try.func8, Try.ntmps8
      go_wp2_with fail
      refine Calls.mono HN.out ?_
      rintro e w1 ⟨d, rfl, hd, hb⟩
      have HK := Lib.hid (known_any w1)
      have HB := Lib.hid hb
      clear hd hb
      cases z1 <;> cases z2 <;> cases z3 <;> cases z4 <;> simp at e5
      all_goals
        go_wp2_with (first | (go_at_call 15; refine (num_any _ _).mono ?_; rintro e w' ⟨rfl, rfl⟩) | (go_at_call 12; refine Calls.mono HK.out ?_; rintro e w' ⟨rfl, hb⟩; have HB2 := Lib.hid hb; clear hb))
        go_ret
        exact ⟨rfl, HB.out.trans (HB2.out.mono HB.out.size)⟩
    · obtain ⟨n, rfl⟩ : ∃ n : Nat, a1 = (n : Int) := ⟨a1.toNat, by omega⟩
      obtain ⟨m, rfl⟩ : ∃ m : Nat, a2 = (m : Int) := ⟨a2.toNat, by omega⟩
      have hn : n ≤ r := by omega
      have hm : m ≤ r := by omega
      have hr2 : r ≤ 1048576 := by omega
      clear hbad b1 b2 hr b0
      go_enter Try.func8, Try.ntmps8
      go_wp2_with fail
      refine Calls.mono HN.out ?_
      rintro e w1 ⟨d, rfl, hd, hb⟩
      have HL : Hid (Lives w.heap.size [(d, r, [])] (fun w' => Below w.heap.size w w') w1) := (Lives.none w.heap.size (w := w) (P := fun w' => Below w.heap.size w w') (fun _ h => h)).other hb hd (Nat.le_refl _)
      clear hd hb HN
      have HR2 := Lib.hid hr2
      obtain ⟨F1, hF1⟩ : ∃ F1, F1 = ([⟨[97], List.replicate n 0, 0⟩] : List Fl) := ⟨_, rfl⟩
      have ht1 : tot F1 = n := by rw [hF1]; simp [tot]
      have hl1 : F1.length = 1 := by rw [hF1]; rfl
      have hb1 : there F1 [98] = false := by rw [hF1]; rfl
      have HT1 := Lib.hid ht1
      have HL1 := Lib.hid hl1
      have HB1 := Lib.hid hb1
      have HA1 : Hid (there F1 [97] = true) := by rw [hF1]; rfl
      obtain ⟨wm, hrm, hbm, hxm⟩ := make_int w1 n n rfl (by omega)
      have HC := Lib.hid (append_live (HL.out.ext hxm) (s := ⟨#[97]⟩) (by decide) hbm (Nat.le_refl _) (rep_byte n) (x := 0) (appN_zero (by rfl) (by simp [tot]; omega) (.inr (by simp))) (F' := F1) (by rw [hF1]; rfl))
      clear hbm hxm ht1 hl1 hb1 hF1
      go_wp2_with (go_at_call 15; refine (num_any _ _).mono ?_; rintro e w' ⟨rfl, rfl⟩)
      refine Calls.mono HC.out ?_
      rintro e w2 ⟨rfl, hl⟩
      have HL2 := Lib.hid hl
      clear hl hrm HC
      obtain ⟨wm, hrm, hbm, hxm⟩ := make_int w2 m m rfl (by omega)
      by_cases hfit : n + m ≤ r
      · have HC := Lib.hid (append_live (HL2.out.ext hxm) (s := ⟨#[98]⟩) (by decide) hbm (Nat.le_refl _) (rep_byte m) (x := 0) (appN_zero (by rfl) (by rw [HT1.out, List.length_replicate]; exact hfit) (.inr (by rw [HL1.out]; omega))) (F' := app F1 [98] (List.replicate m 0)) (by rfl))
        clear hbm hxm
        go_wp2_with (go_at_call 15; refine (num_any _ _).mono ?_; rintro e w' ⟨rfl, rfl⟩)
        refine Calls.mono HC.out ?_
        rintro e w3 ⟨rfl, hl⟩
        have HL3 := Lib.hid hl
        clear hl hrm HC
        obtain ⟨F2, hF2⟩ : ∃ F2, F2 = app F1 [98] (List.replicate m 0) := ⟨_, rfl⟩
        rw [← hF2] at HL3
        have HT2 : Hid (tot F2 = n + m) := by rw [hF2]; unfold Hid; rw [tot_app HL2.out.nodup, HT1.out, List.length_replicate]
        have HN2 : Hid (F2.length = 2) := by rw [hF2]; unfold Hid; rw [len_app HL2.out.nodup, HL1.out, HB1.out]; rfl
        have HA2 : Hid (there F2 [97] = true) := by rw [hF2]; exact there_app_of HA1.out
        clear hF2
        have hd1 : decide ((n : Int) + (m : Int) ≤ (r : Int)) = true := by simp; omega
        have hnm : (n : Int) + (m : Int) ≤ 2097152 := by omega
        have hz : ∃ z : Bool, ((n : Int) + (m : Int) != (n : Int)) = z := ⟨_, rfl⟩
        obtain ⟨z, hz⟩ := hz
        go_wp2_with (go_at_call 15; refine (num_any _ _).mono ?_; rintro e w' ⟨rfl, rfl⟩)
        refine Calls.mono (used_is HL3.out (show ((tot F2 : Nat) : Int) = (n : Int) + (m : Int) by have := HT2.out; omega)) ?_
        rintro e w4 ⟨rfl, hl⟩
        have HL4 := Lib.hid hl
        clear hl
        cases z
        all_goals
          go_wp2_with (go_at_call 15; refine (num_any _ _).mono ?_; rintro e w' ⟨rfl, rfl⟩)
          refine Calls.mono (used_is HL4.out (show ((tot F2 : Nat) : Int) = (n : Int) + (m : Int) by have := HT2.out; omega)) ?_
          rintro e w5 ⟨rfl, hl⟩
          have HL5 := Lib.hid hl
          clear hl
          go_wp2_with (go_at_call 15; refine (num_any _ _).mono ?_; rintro e w' ⟨rfl, rfl⟩)
          refine Calls.mono (names_is HL5.out HN2.out) ?_
          rintro e w6 ⟨A6, c6, rfl, hl⟩
          have HL6 := Lib.hid hl
          clear hl
          go_wp2_with (go_at_call 15; refine (num_any _ _).mono ?_; rintro e w' ⟨rfl, rfl⟩)
          refine Calls.mono (names_is HL6.out HN2.out) ?_
          rintro e w7 ⟨A7, c7, rfl, hl⟩
          have HL7 := Lib.hid hl
          clear hl
          have hur : (n + m : Int) ≤ (r : Int) := by omega
          go_wp2_with (go_at_call 15; refine (num_any _ _).mono ?_; rintro e w' ⟨rfl, rfl⟩)
          refine Calls.mono (used_is HL7.out (show ((tot F2 : Nat) : Int) = (n : Int) + (m : Int) by have := HT2.out; omega)) ?_
          rintro e w8 ⟨rfl, hl⟩
          have HL8 := Lib.hid hl
          clear hl
          obtain ⟨wm, hrm, hbm, hxm⟩ := make_int w8 ((r : Int) - ((n : Int) + (m : Int))) (r - (n + m)) (by omega) (by omega)
          have HC := Lib.hid (append_live (HL8.out.ext hxm) (s := ⟨#[97]⟩) (by decide) hbm (Nat.le_refl _) (rep_byte (r - (n + m))) (x := 0) (appN_zero (by rfl) (by rw [HT2.out, List.length_replicate]; omega) (.inl HA2.out)) (F' := app F2 [97] (List.replicate (r - (n + m)) 0)) (by rfl))
          clear hbm hxm
          go_wp2_with (go_at_call 15; refine (num_any _ _).mono ?_; rintro e w' ⟨rfl, rfl⟩)
          refine Calls.mono (HC.out) ?_
          rintro e w9 ⟨rfl, hl⟩
          have HL9 := Lib.hid hl
          clear hl
          clear hrm HC
          obtain ⟨F3, hF3⟩ : ∃ F3, F3 = app F2 [97] (List.replicate (r - (n + m)) 0) := ⟨_, rfl⟩
          rw [← hF3] at HL9
          have HT3 : Hid (tot F3 = r) := by rw [hF3]; unfold Hid; rw [tot_app HL8.out.nodup, HT2.out, List.length_replicate]; omega
          have HA3 : Hid (there F3 [97] = true) := by rw [hF3]; exact there_app _ _ _
          clear hF3
          go_wp2_with (go_at_call 15; refine (num_any _ _).mono ?_; rintro e w' ⟨rfl, rfl⟩)
          refine Calls.mono (used_is HL9.out (by rw [HT3.out])) ?_
          rintro e w10 ⟨rfl, hl⟩
          have HL10 := Lib.hid hl
          clear hl
          go_wp2_with (go_at_call 15; refine (num_any _ _).mono ?_; rintro e w' ⟨rfl, rfl⟩)
          refine Calls.mono (append_live (HL10.out.ext (ext_alloc _ _)) (s := ⟨#[97]⟩) (by decide) (bytes_lit w10 [1] (0, 0) (by decide)) (by simp) (by decide) (x := 5) (appN_five (by rfl) (by rw [HT3.out]; simp)) (F' := F3) (by rfl)) ?_
          rintro e w11 ⟨rfl, hl⟩
          have HL11 := Lib.hid hl
          clear hl
          go_wp2_with (go_at_call 15; refine (num_any _ _).mono ?_; rintro e w' ⟨rfl, rfl⟩)
          refine Calls.mono (append_live HL11.out (s := ⟨#[97]⟩) (by decide) (Bs.nil w11 0 0) (Nat.zero_le _) (by decide) (x := 0) (appN_zero (by rfl) (by rw [HT3.out]; simp) (.inl HA3.out)) (F' := app F3 [97] []) (by rfl)) ?_
          rintro e w12 ⟨rfl, hl⟩
          have HL12 := Lib.hid hl
          clear hl
          obtain ⟨F4, hF4⟩ : ∃ F4, F4 = app F3 [97] [] := ⟨_, rfl⟩
          rw [← hF4] at HL12
          have HT4 : Hid (tot F4 = r) := by rw [hF4]; unfold Hid; rw [tot_app HL11.out.nodup, HT3.out]; rfl
          have HA4 : Hid (there F4 [97] = true) := by rw [hF4]; exact there_app _ _ _
          clear hF4
          go_wp2_with (go_at_call 15; refine (num_any _ _).mono ?_; rintro e w' ⟨rfl, rfl⟩)
          refine Calls.mono (remove_live HL12.out (s := ⟨#[97]⟩) (by decide) (x := 0) (seekN_zero (by rfl) HA4.out) (F' := del F4 [97]) (by rfl)) ?_
          rintro e w13 ⟨rfl, hl⟩
          have HL13 := Lib.hid hl
          clear hl
          obtain ⟨F5, hF5⟩ : ∃ F5, F5 = del F4 [97] := ⟨_, rfl⟩
          rw [← hF5] at HL13
          obtain ⟨u5, hu5⟩ : ∃ u5, u5 = tot F5 := ⟨_, rfl⟩
          have HT5 := Lib.hid hu5.symm
          have hu5r : u5 ≤ r := by rw [hu5, hF5]; have := tot_del F4 [97]; rw [HT4.out] at this; exact this
          have HC5 : Hid (F5.length < 128) := by
            obtain ⟨S4, hd4⟩ := HL12.out.disk
            have h1 := hd4.cnt
            have h2 := del_perm HL12.out.nodup (there_cur HA4.out)
            rw [cur_name] at h2
            have h3 := h2.length_eq
            rw [List.length_cons, ← hF5] at h3
            unfold Hid; omega
          clear hF5 hu5
          go_wp2_with (go_at_call 15; refine (num_any _ _).mono ?_; rintro e w' ⟨rfl, rfl⟩)
          refine Calls.mono (used_is HL13.out (by rw [HT5.out])) ?_
          rintro e w14 ⟨rfl, hl⟩
          have HL14 := Lib.hid hl
          clear hl
          obtain ⟨wm, hrm, hbm, hxm⟩ := make_int w14 ((r : Int) - (u5 : Int)) (r - u5) (by omega) (by omega)
          have HC := Lib.hid (append_live (HL14.out.ext hxm) (s := ⟨#[97]⟩) (by decide) hbm (Nat.le_refl _) (rep_byte (r - u5)) (x := 0) (appN_zero (by rfl) (by rw [HT5.out, List.length_replicate]; omega) (.inr HC5.out)) (F' := app F5 [97] (List.replicate (r - u5) 0)) (by rfl))
          clear hbm hxm
          go_wp2_with (go_at_call 15; refine (num_any _ _).mono ?_; rintro e w' ⟨rfl, rfl⟩)
          refine Calls.mono (HC.out) ?_
          rintro e w15 ⟨rfl, hl⟩
          have HL15 := Lib.hid hl
          clear hl
          clear hrm HC
          have HT6 : Hid (tot (app F5 [97] (List.replicate (r - u5) 0)) = r) := by unfold Hid; rw [tot_app HL14.out.nodup, HT5.out, List.length_replicate]; omega
          go_wp2_with (go_at_call 15; refine (num_any _ _).mono ?_; rintro e w' ⟨rfl, rfl⟩)
          refine Calls.mono (used_is HL15.out (by rw [HT6.out])) ?_
          rintro e w16 ⟨rfl, hl⟩
          have HL16 := Lib.hid hl
          clear hl
          go_wp2_with (go_at_call 15; refine (num_any _ _).mono ?_; rintro e w' ⟨rfl, rfl⟩)
          refine (known_any w16).mono ?_
          rintro e w17 ⟨rfl, hb⟩
          have HB := Lib.hid hb
          clear hb
          go_wp2_with fail
          go_ret
          exact ⟨rfl, HL16.out.here.trans (HB.out.mono HL16.out.here.size)⟩
      · have HC := Lib.hid (append_live (HL2.out.ext hxm) (s := ⟨#[98]⟩) (by decide) hbm (Nat.le_refl _) (rep_byte m) (x := 5) (appN_five (by rfl) (by rw [HT1.out, List.length_replicate]; omega)) (F' := F1) (by rfl))
        clear hbm hxm
        go_wp2_with (go_at_call 15; refine (num_any _ _).mono ?_; rintro e w' ⟨rfl, rfl⟩)
        refine Calls.mono HC.out ?_
        rintro e w3 ⟨rfl, hl⟩
        have HL3 := Lib.hid hl
        clear hl hrm HC
        have hd1 : decide ((n : Int) + (m : Int) ≤ (r : Int)) = false := by simp; omega
        have hnm : (n : Int) + (m : Int) ≤ 2097152 := by omega
        have hz : ((n : Int) != (n : Int) + (m : Int)) = true := by simp; omega
        go_wp2_with (go_at_call 15; refine (num_any _ _).mono ?_; rintro e w' ⟨rfl, rfl⟩)
        refine Calls.mono (used_is HL3.out (by rw [HT1.out])) ?_
        rintro e w4 ⟨rfl, hl⟩
        have HL4 := Lib.hid hl
        clear hl
        go_wp2_with (go_at_call 15; refine (num_any _ _).mono ?_; rintro e w' ⟨rfl, rfl⟩)
        refine Calls.mono (used_is HL4.out (by rw [HT1.out])) ?_
        rintro e w5 ⟨rfl, hl⟩
        have HL5 := Lib.hid hl
        clear hl
        go_wp2_with (go_at_call 15; refine (num_any _ _).mono ?_; rintro e w' ⟨rfl, rfl⟩)
        refine Calls.mono (names_is HL5.out HL1.out) ?_
        rintro e w6 ⟨A6, c6, rfl, hl⟩
        have HL6 := Lib.hid hl
        clear hl
        go_wp2_with (go_at_call 15; refine (num_any _ _).mono ?_; rintro e w' ⟨rfl, rfl⟩)
        refine Calls.mono (names_is HL6.out HL1.out) ?_
        rintro e w7 ⟨A7, c7, rfl, hl⟩
        have HL7 := Lib.hid hl
        clear hl
        have hur : (n : Int) ≤ (r : Int) := by omega
        go_wp2_with (go_at_call 15; refine (num_any _ _).mono ?_; rintro e w' ⟨rfl, rfl⟩)
        refine Calls.mono (used_is HL7.out (by rw [HT1.out])) ?_
        rintro e w8 ⟨rfl, hl⟩
        have HL8 := Lib.hid hl
        clear hl
        obtain ⟨wm, hrm, hbm, hxm⟩ := make_int w8 ((r : Int) - (n : Int)) (r - n) (by omega) (by omega)
        have HC := Lib.hid (append_live (HL8.out.ext hxm) (s := ⟨#[97]⟩) (by decide) hbm (Nat.le_refl _) (rep_byte (r - n)) (x := 0) (appN_zero (by rfl) (by rw [HT1.out, List.length_replicate]; omega) (.inl HA1.out)) (F' := app F1 [97] (List.replicate (r - n) 0)) (by rfl))
        clear hbm hxm
        go_wp2_with (go_at_call 15; refine (num_any _ _).mono ?_; rintro e w' ⟨rfl, rfl⟩)
        refine Calls.mono (HC.out) ?_
        rintro e w9 ⟨rfl, hl⟩
        have HL9 := Lib.hid hl
        clear hl
        clear hrm HC
        obtain ⟨F3, hF3⟩ : ∃ F3, F3 = app F1 [97] (List.replicate (r - n) 0) := ⟨_, rfl⟩
        rw [← hF3] at HL9
        have HT3 : Hid (tot F3 = r) := by rw [hF3]; unfold Hid; rw [tot_app HL8.out.nodup, HT1.out, List.length_replicate]; omega
        have HA3 : Hid (there F3 [97] = true) := by rw [hF3]; exact there_app _ _ _
        clear hF3
        go_wp2_with (go_at_call 15; refine (num_any _ _).mono ?_; rintro e w' ⟨rfl, rfl⟩)
        refine Calls.mono (used_is HL9.out (by rw [HT3.out])) ?_
        rintro e w10 ⟨rfl, hl⟩
        have HL10 := Lib.hid hl
        clear hl
        go_wp2_with (go_at_call 15; refine (num_any _ _).mono ?_; rintro e w' ⟨rfl, rfl⟩)
        refine Calls.mono (append_live (HL10.out.ext (ext_alloc _ _)) (s := ⟨#[97]⟩) (by decide) (bytes_lit w10 [1] (0, 0) (by decide)) (by simp) (by decide) (x := 5) (appN_five (by rfl) (by rw [HT3.out]; simp)) (F' := F3) (by rfl)) ?_
        rintro e w11 ⟨rfl, hl⟩
        have HL11 := Lib.hid hl
        clear hl
        go_wp2_with (go_at_call 15; refine (num_any _ _).mono ?_; rintro e w' ⟨rfl, rfl⟩)
        refine Calls.mono (append_live HL11.out (s := ⟨#[97]⟩) (by decide) (Bs.nil w11 0 0) (Nat.zero_le _) (by decide) (x := 0) (appN_zero (by rfl) (by rw [HT3.out]; simp) (.inl HA3.out)) (F' := app F3 [97] []) (by rfl)) ?_
        rintro e w12 ⟨rfl, hl⟩
        have HL12 := Lib.hid hl
        clear hl
        obtain ⟨F4, hF4⟩ : ∃ F4, F4 = app F3 [97] [] := ⟨_, rfl⟩
        rw [← hF4] at HL12
        have HT4 : Hid (tot F4 = r) := by rw [hF4]; unfold Hid; rw [tot_app HL11.out.nodup, HT3.out]; rfl
        have HA4 : Hid (there F4 [97] = true) := by rw [hF4]; exact there_app _ _ _
        clear hF4
        go_wp2_with (go_at_call 15; refine (num_any _ _).mono ?_; rintro e w' ⟨rfl, rfl⟩)
        refine Calls.mono (remove_live HL12.out (s := ⟨#[97]⟩) (by decide) (x := 0) (seekN_zero (by rfl) HA4.out) (F' := del F4 [97]) (by rfl)) ?_
        rintro e w13 ⟨rfl, hl⟩
        have HL13 := Lib.hid hl
        clear hl
        obtain ⟨F5, hF5⟩ : ∃ F5, F5 = del F4 [97] := ⟨_, rfl⟩
        rw [← hF5] at HL13
        obtain ⟨u5, hu5⟩ : ∃ u5, u5 = tot F5 := ⟨_, rfl⟩
        have HT5 := Lib.hid hu5.symm
        have hu5r : u5 ≤ r := by rw [hu5, hF5]; have := tot_del F4 [97]; rw [HT4.out] at this; exact this
        have HC5 : Hid (F5.length < 128) := by
          obtain ⟨S4, hd4⟩ := HL12.out.disk
          have h1 := hd4.cnt
          have h2 := del_perm HL12.out.nodup (there_cur HA4.out)
          rw [cur_name] at h2
          have h3 := h2.length_eq
          rw [List.length_cons, ← hF5] at h3
          unfold Hid; omega
        clear hF5 hu5
        go_wp2_with (go_at_call 15; refine (num_any _ _).mono ?_; rintro e w' ⟨rfl, rfl⟩)
        refine Calls.mono (used_is HL13.out (by rw [HT5.out])) ?_
        rintro e w14 ⟨rfl, hl⟩
        have HL14 := Lib.hid hl
        clear hl
        obtain ⟨wm, hrm, hbm, hxm⟩ := make_int w14 ((r : Int) - (u5 : Int)) (r - u5) (by omega) (by omega)
        have HC := Lib.hid (append_live (HL14.out.ext hxm) (s := ⟨#[97]⟩) (by decide) hbm (Nat.le_refl _) (rep_byte (r - u5)) (x := 0) (appN_zero (by rfl) (by rw [HT5.out, List.length_replicate]; omega) (.inr HC5.out)) (F' := app F5 [97] (List.replicate (r - u5) 0)) (by rfl))
        clear hbm hxm
        go_wp2_with (go_at_call 15; refine (num_any _ _).mono ?_; rintro e w' ⟨rfl, rfl⟩)
        refine Calls.mono (HC.out) ?_
        rintro e w15 ⟨rfl, hl⟩
        have HL15 := Lib.hid hl
        clear hl
        clear hrm HC
        have HT6 : Hid (tot (app F5 [97] (List.replicate (r - u5) 0)) = r) := by unfold Hid; rw [tot_app HL14.out.nodup, HT5.out, List.length_replicate]; omega
        go_wp2_with (go_at_call 15; refine (num_any _ _).mono ?_; rintro e w' ⟨rfl, rfl⟩)
        refine Calls.mono (used_is HL15.out (by rw [HT6.out])) ?_
        rintro e w16 ⟨rfl, hl⟩
        have HL16 := Lib.hid hl
        clear hl
        go_wp2_with (go_at_call 15; refine (num_any _ _).mono ?_; rintro e w' ⟨rfl, rfl⟩)
        refine (known_any w16).mono ?_
        rintro e w17 ⟨rfl, hb⟩
        have HB := Lib.hid hb
        clear hb
        go_wp2_with fail
        go_ret
        exact ⟨rfl, HL16.out.here.trans (HB.out.mono HL16.out.here.size)⟩
end Go.Proofs.Ythcepihibnmgfaa.diskRoom
