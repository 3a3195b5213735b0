/- DiskNames: from the walk to the statement. For every input the law answers true and leaves its arguments as they were. -/
import Derived.Test.YtenhfphgobalfaaMa9
import Derived.Test.YtenhfphgobalfaaMa10

/- DiskNames: files of any names, told once each, rising. -/
namespace Go.Proofs.Ytenhfphgobalfaa
open Go.RowKit Go.Maps
attribute [local go_sem] Oper.semAt_some

theorem kept_bad {F : List Fl} {s : ByteArray} {z : Int} (h : good s.data.toList = false) : (2 : Int) = crashN F [(s, z)] := by
  unfold crashN kn
  simp [h]
theorem seekN_bad {F : List Fl} {n : List UInt8} (h : good n = false) : (2 : Int) = seekN F n := by unfold seekN; rw [h]
theorem rep_nil : nat8 [] = [] := rfl

set_option maxRecDepth 100000 in
set_option maxHeartbeats 16000000 in
theorem dnames_walk (w : World) (A : Option Addr) (c : Nat) (ns : List ByteArray) (hsl : Sl w 0 w.heap.size A (ns.map Value.string)) (hsz : ∀ s ∈ ns, s.size ≤ maxLen) :
    Calls Try.prog 8 #[.slice A ns.length c] w fun e w' => e = .returned (.bool true) ∧ Ext w w' := by
  obtain ⟨N, hN⟩ : ∃ N, N = ns.length := ⟨_, rfl⟩
  have HNS : Hid (Sl w 0 w.heap.size A (ns.map Value.string) ∧ ∀ s ∈ ns, s.size ≤ maxLen) := ⟨hsl, hsz⟩
  have HN := Lib.hid hN
  rw [← hN]
  by_cases hbig : 200 < N
  · have d1 : decide ((200 : Int) < (N : Int)) = true := decide_eq_true (by omega)
    have d1n : decide (200 < N) = true := decide_eq_true hbig
    clear hsl hsz hN hbig
    go_enter Try.func8, Try.ntmps8
    go_wp2_with fail
    refine (known_any w).mono ?_
    rintro e w1 ⟨rfl, hb⟩
    go_wp2_with fail
    go_ret
    exact ⟨rfl, hb⟩
  · have d1 : decide ((200 : Int) < (N : Int)) = false := decide_eq_false (by omega)
    have d1n : decide (200 < N) = false := decide_eq_false hbig
    have hNI : (N : Int) ≤ 200 := by omega
    clear hsl hsz hN hbig
    go_enter Try.func8, Try.ntmps8
    go_wp2_with fail
    refine (new_yes (r := 1024) (by omega) (by omega) w).mono ?_
    rintro e w1 ⟨d, rfl, hd, hb⟩
    have HD := Lib.hid hd
    have HX1 : Hid (Ext w w1) := hb
    clear hd hb
    go_wp2_with fail
    refine (newRef_yes 1024 w1 (by omega)).mono ?_
    rintro e w2 ⟨r, rfl, hr, hx2⟩
    have HBO : Hid (Bo w d r 1024 [] [] [] (fun _ => True) w2) := Bo.new HD.out HX1.out hr hx2
    clear hr hx2 HD HX1
    go_wp2_with fail
    refine (num_any _ _).mono ?_
    rintro e w2' ⟨rfl, hw⟩
    subst hw
    go_wp2_with fail
    go_loopw [6, 7, 8, 9, 10, 11, 12] (fun i _ _ _ _ _ _ wr => ∃ (k : Nat) (F : List Fl) (G : List RFl), k ≤ N ∧ i = .int .i64 (k : Int) ∧ Hid (Bo w d r 1024 F G [] (fun _ => True) wr)) (fun i _ _ _ _ _ _ _ => N - (intOf i).toNat)
    case atStart => exact ⟨0, [], [], Nat.zero_le _, rfl, HBO⟩
    case round =>
      clear HBO
      obtain ⟨k, F, G, hk, rfl, HB⟩ := hrel
      by_cases hlt : k < N
      · have e1 : decide ((k : Int) < (N : Int)) = true := decide_eq_true (by omega)
        have e1n : decide (k < N) = true := decide_eq_true hlt
        have hkn : k < ns.length := by rw [← HN.out]; exact hlt
        obtain ⟨s, hs⟩ : ∃ s, s = ns[k]'hkn := ⟨_, rfl⟩
        have HSZ : Hid (s.size ≤ maxLen) := HNS.out.2 s (by rw [hs]; exact List.getElem_mem hkn)
        obtain ⟨b, oo, rfl, _, hbl, hcell⟩ := Sl.at_ HNS.out.1 (i := k) (by rw [List.length_map]; exact hkn)
        rw [List.getElem_map, ← hs] at hcell
        have HCE : Hid (∀ u, Ext w u → u.cell? ⟨b, oo + k, none⟩ = some (.string s)) := fun u hu => ext_cell hu hcell
        have q0 := HCE.out wr HB.out.base
        have n1 : (0 : Int) ≤ (k : Int) := by omega
        have n2 : (k : Int) < (N : Int) := by omega
        have HLT := Lib.hid hlt
        clear hkn hs hbl hcell
        obtain ⟨z, hz⟩ : ∃ z, z = s.size := ⟨_, rfl⟩
        by_cases hlong : 1000 < s.size
        · have d2 : decide ((1000 : Int) < (s.size : Int)) = true := decide_eq_true (by omega)
          have d2n : decide (1000 < s.size) = true := decide_eq_true hlong
          clear hlong hz
          go_wp2_with fail
          refine (known_any wr).mono ?_
          rintro e w3 ⟨rfl, hb⟩
          have HE : Hid (Ext w w3) := Ext.trans HB.out.base hb
          clear hb
          go_wp2_with fail
          go_ret
          exact ⟨rfl, HE.out⟩
        · have d2 : decide ((1000 : Int) < (s.size : Int)) = false := decide_eq_false (by omega)
          have d2n : decide (1000 < s.size) = false := decide_eq_false hlong
          obtain ⟨x, hx⟩ : ∃ x, x = appN F 1024 0 s.data.toList := ⟨_, rfl⟩
          have HXE := Lib.hid hx
          obtain ⟨F', hF'⟩ : ∃ F', F' = iff0 x (app F s.data.toList (nat8 [])) F := ⟨_, rfl⟩
          have HFE := Lib.hid hF'
          have HNU : Hid (1024 ≤ 1048576 ∧ tot F ≤ 1024 ∧ F.length ≤ 128) := HB.out.nums.2
          have HJC : Hid (∀ u, Ext w u → u.cell? ⟨b, oo + k, none⟩ = some (.string s)) := HCE
          clear hlong hz hx hF' q0
          have q0 := HCE.out wr HB.out.base
          go_upto_region 12 with (fail)
          refine Sj.flow (by kernel_rfl) [Is (.pointer (some ⟨d, 0, none⟩)), Is (.slice (some ⟨b, oo, none⟩) N c), Is (.int .i64 (k : Int)), Is (.pointer (some ⟨b, oo + k, none⟩)), Is (.string s), Is (.int .i64 x), Is (.int .i64 x), Is (.pointer (some ⟨r, 0, none⟩)), Is (.slice (some ⟨b, oo, none⟩) N c), Is (.int .i64 (k : Int)), Is (.pointer (some ⟨b, oo + k, none⟩)), Is (.string s), Is (.int .i64 x), Is (.bool false)] 5 12 (fun u => Ext w u) (fun v u => v = .int .i64 x ∧ Mid w d r 1024 F' F G [] (fun _ => True) u) (fun v u => v = .int .i64 x ∧ ∃ G', Bo w d r 1024 F' G' [] (fun _ => True) u) (by kernel_rfl) (by kernel_rfl) (by kernel_rfl) ?hj ?hs ?ht (fun f1 => ?obl) ?fin
          case hj => exact Ext.trans HB.out.base (Ext.drew wr)
          case hs => exact fun v u h => ⟨h.2.p.1, fun _ => h.1⟩
          case ht => exact fun v u ⟨h1, _, h2⟩ => ⟨h2.base, fun _ => h1⟩
          case fin =>
            intro g1 u hg hfi
            simp only [puts, Act.put, List.setIfInBounds_toArray, List.set_cons_zero, List.set_cons_succ]
            have h13 : g1 13 = .bool false := hg 13 (by decide)
            rw [h13]
            obtain ⟨_, G', hbo⟩ := hfi
            have HB2 := Lib.hid hbo
            have q1 := HCE.out u hbo.base
            clear h13 hg hbo q0
            go_wp2_with fail
            refine (mayName_any s u HSZ.out).mono ?_
            rintro e u9 ⟨rfl, hw⟩
            subst hw
            cases hgd : good s.data.toList with
            | true =>
              go_wp2_with fail
              go_roundw
              case rel => exact ⟨k + 1, F', G', by have := HLT.out; omega, by go_num, HB2⟩
              case measure => have := HLT.out; simp [intOf]; omega
            | false =>
              have HG := Lib.hid hgd
              clear hgd
              go_wp2_with fail
              refine (read_live HB2.out.live HSZ.out (seekN_bad HG.out) rfl).mono ?_
              rintro e w3 ⟨v3, rfl, hl⟩
              have HB3 : Hid (Bo w d r 1024 F' G' [] (fun _ => True) w3) := ⟨hl.imp fun u hu => hu.1, HB2.out.tie⟩
              have q3 := HCE.out w3 HB3.out.base
              clear hl q1
              go_wp2_with fail
              refine (lasting_live HB3.out.live HSZ.out (seekN_bad HG.out) rfl).mono ?_
              rintro e w4 ⟨rfl, hl⟩
              have HB4 : Hid (Bo w d r 1024 F' G' [] (fun _ => True) w4) := ⟨hl, HB3.out.tie⟩
              have q4 := HCE.out w4 HB4.out.base
              clear hl q3
              go_wp2_with fail
              refine (crash_no (HB4.out.live.ext (ext_alloc _ _)) (kept_one w4 s 0 HSZ.out (by omega)) (n := 1) (by rfl) (kept_bad HG.out) (by decide)).mono ?_
              rintro e w5 ⟨rfl, hl⟩
              have HB5 : Hid (Bo w d r 1024 F' G' [] (fun _ => True) w5) := ⟨hl, HB3.out.tie⟩
              have q5 := HCE.out w5 HB5.out.base
              clear hl q4
              go_wp2_with fail
              refine (num_any _ _).mono ?_
              rintro e v9 ⟨rfl, hw⟩
              subst hw
              go_wp2_with fail
              refine (num_any _ _).mono ?_
              rintro e v9 ⟨rfl, hw⟩
              subst hw
              go_wp2_with fail
              refine (num_any _ _).mono ?_
              rintro e v9 ⟨rfl, hw⟩
              subst hw
              go_wp2_with fail
              refine (sync_live HB5.out.live HSZ.out (seekN_bad HG.out) rfl).mono ?_
              rintro e w6 ⟨rfl, hl⟩
              have HB6 : Hid (Bo w d r 1024 F' G' [] (fun _ => True) w6) := ⟨hl, HB3.out.tie⟩
              have q6 := HCE.out w6 HB6.out.base
              clear hl q5
              go_wp2_with fail
              refine (num_any _ _).mono ?_
              rintro e v9 ⟨rfl, hw⟩
              subst hw
              go_wp2_with fail
              refine (remove_live HB6.out.live HSZ.out (seekN_bad HG.out) rfl).mono ?_
              rintro e w7 ⟨rfl, hl⟩
              have HB7 : Hid (Bo w d r 1024 F' G' [] (fun _ => True) w7) := ⟨hl, HB3.out.tie⟩
              have q7 := HCE.out w7 HB7.out.base
              clear hl q6
              go_wp2_with fail
              refine (num_any _ _).mono ?_
              rintro e v9 ⟨rfl, hw⟩
              subst hw
              go_wp2_with fail
              refine (rename_live HB7.out.live (s := s) (t := ⟨#[97]⟩) HSZ.out (by decide) (seek2_bad (.inl HG.out)).symm rfl).mono ?_
              rintro e w8 ⟨rfl, hl⟩
              have HB8 : Hid (Bo w d r 1024 F' G' [] (fun _ => True) w8) := ⟨hl, HB3.out.tie⟩
              have q8 := HCE.out w8 HB8.out.base
              clear hl q7
              go_wp2_with fail
              refine (num_any _ _).mono ?_
              rintro e v9 ⟨rfl, hw⟩
              subst hw
              go_wp2_with fail
              refine (rename_live HB8.out.live (s := ⟨#[97]⟩) (t := s) (by decide) HSZ.out (seek2_bad (.inr HG.out)).symm rfl).mono ?_
              rintro e w9 ⟨rfl, hl⟩
              have HB9 : Hid (Bo w d r 1024 F' G' [] (fun _ => True) w9) := ⟨hl, HB3.out.tie⟩
              clear hl q8
              go_wp2_with fail
              refine (num_any _ _).mono ?_
              rintro e v9 ⟨rfl, hw⟩
              subst hw
              go_wp2_with fail
              go_roundw
              case rel => exact ⟨k + 1, F', G', by have := HLT.out; omega, by go_num, HB9⟩
              case measure => have := HLT.out; simp [intOf]; omega
          case obl =>
            refine ⟨fun u u' hu hj hd => ?_, ?_⟩
            · go_simp
              exact ⟨rfl, rfl⟩
            refine ⟨fun u u' hu hj hd => ?_, ?_⟩
            · simp only [Act.put, List.setIfInBounds_toArray, List.set_cons_zero, List.set_cons_succ]
              go_simp
              exact ⟨rfl, rfl⟩
            refine ⟨fun u u' hu hj hd => ?_, ?_⟩
            · simp only [Act.put, List.setIfInBounds_toArray, List.set_cons_zero, List.set_cons_succ]
              go_simp
              exact ⟨rfl, rfl⟩
            refine ⟨fun u u' hu hj hd => ?_, ?_⟩
            · simp only [Act.put, List.setIfInBounds_toArray, List.set_cons_zero, List.set_cons_succ]
              have e1 : f1 1 = .slice (some ⟨b, oo, none⟩) N c := hd 1 (by kernel_rfl)
              have e2 : f1 2 = .int .i64 (k : Int) := hd 2 (by kernel_rfl)
              go_simp
              exact ⟨rfl, rfl⟩
            refine ⟨fun u u' hu hj hd => ?_, ?_⟩
            · simp only [Act.put, List.setIfInBounds_toArray, List.set_cons_zero, List.set_cons_succ]
              have e3 : f1 3 = .pointer (some ⟨b, oo + k, none⟩) := hd 3 (by kernel_rfl)
              have q0 := HJC.out u' hj
              go_simp
              exact ⟨rfl, rfl⟩
            refine ⟨fun u hu hd => ?_, ?_⟩
            · simp only [Act.put, List.setIfInBounds_toArray, List.set_cons_zero, List.set_cons_succ]
              have e0 : f1 0 = .pointer (some ⟨d, 0, none⟩) := hd 0 (by kernel_rfl)
              have e4 : f1 4 = .string s := hd 4 (by kernel_rfl)
              have HM := Lib.hid (append_mid (HB.out.ext (Ext.trans (Ext.drew wr) hu)) HSZ.out (bs := []) (Bs.nil u 0 0) (Nat.zero_le _) (M := 0) rfl HXE.out)
              rw [← HFE.out] at HM
              clear hd
              go_simp
              refine HM.out.mono ?_
              rintro e9 w9 ⟨rfl, hm9⟩
              exact ⟨_, rfl, rfl, hm9⟩
            refine ⟨fun u u' hu hj hd => ?_, ?_⟩
            · simp only [Act.put, List.setIfInBounds_toArray, List.set_cons_zero, List.set_cons_succ]
              have e5 : f1 5 = .int .i64 x := hd 5 (by kernel_rfl)
              clear hd
              go_simp
              refine (num_any _ _).mono ?_
              rintro e9 w9 ⟨rfl, rfl⟩
              exact ⟨_, rfl, rfl, rfl⟩
            refine ⟨fun u u' hu hj hd => ?_, ?_⟩
            · simp only [Act.put, List.setIfInBounds_toArray, List.set_cons_zero, List.set_cons_succ]
              go_simp
              exact ⟨rfl, rfl⟩
            refine ⟨fun u u' hu hj hd => ?_, ?_⟩
            · simp only [Act.put, List.setIfInBounds_toArray, List.set_cons_zero, List.set_cons_succ]
              go_simp
              exact ⟨rfl, rfl⟩
            refine ⟨fun u u' hu hj hd => ?_, ?_⟩
            · simp only [Act.put, List.setIfInBounds_toArray, List.set_cons_zero, List.set_cons_succ]
              go_simp
              exact ⟨rfl, rfl⟩
            refine ⟨fun u u' hu hj hd => ?_, ?_⟩
            · simp only [Act.put, List.setIfInBounds_toArray, List.set_cons_zero, List.set_cons_succ]
              have e8 : f1 8 = .slice (some ⟨b, oo, none⟩) N c := hd 8 (by kernel_rfl)
              have e9 : f1 9 = .int .i64 (k : Int) := hd 9 (by kernel_rfl)
              go_simp
              exact ⟨rfl, rfl⟩
            refine ⟨fun u u' hu hj hd => ?_, ?_⟩
            · simp only [Act.put, List.setIfInBounds_toArray, List.set_cons_zero, List.set_cons_succ]
              have e10 : f1 10 = .pointer (some ⟨b, oo + k, none⟩) := hd 10 (by kernel_rfl)
              have q0 := HJC.out u' hj
              go_simp
              exact ⟨rfl, rfl⟩
            refine ⟨fun u1 u2 hu hd hs => ?_, ?_⟩
            · simp only [Act.put, List.setIfInBounds_toArray, List.set_cons_zero, List.set_cons_succ]
              have e7 : f1 7 = .pointer (some ⟨r, 0, none⟩) := hd 7 (by kernel_rfl)
              have e11 : f1 11 = .string s := hd 11 (by kernel_rfl)
              have HM := Lib.hid (append_end hs.2 HFE.out HNU.out HSZ.out (bs := []) (c0 := 0) (Bs.nil u2 0 0) (Nat.zero_le _) (M := 0) rfl (by decide) HXE.out (Stab.true r))
              clear hd hs
              go_simp
              refine HM.out.mono ?_
              rintro e9 w9 ⟨rfl, hm9⟩
              exact ⟨_, rfl, rfl, hm9⟩
            refine ⟨fun u u' hu hj hd => ?_, ?_⟩
            · simp only [Act.put, List.setIfInBounds_toArray, List.set_cons_zero, List.set_cons_succ]
              have e6 : f1 6 = .int .i64 x := hd 6 (by kernel_rfl)
              have e12 : f1 12 = .int .i64 x := hd 12 (by kernel_rfl)
              have hxx : (x != x) = false := by simp
              clear hd
              go_simp
              exact ⟨rfl, rfl⟩
            trivial
      · have e1 : decide ((k : Int) < (N : Int)) = false := decide_eq_false (by omega)
        have e1n : decide (k < N) = false := decide_eq_false hlt
        have hcl : (F.length : Int) ≤ 128 := by have := HB.out.nums.2.2.2; omega
        have dl : decide ((F.length : Int) ≤ 128) = true := decide_eq_true hcl
        have dln : decide (F.length ≤ 128) = true := decide_eq_true (by omega)
        go_wp2_with fail
        refine (names_live HB.out.live).mono ?_
        rintro e w3 ⟨v3, rfl, hl⟩
        obtain ⟨nA, nc, rfl, _⟩ := hl.here.2
        have HB3 : Hid (Bo w d r 1024 F G [] (fun _ => True) w3) := ⟨hl.imp fun u hu => hu.1, HB.out.tie⟩
        clear hl
        rw [snames_length]
        go_wp2_with fail
        refine (files_bo HB3.out).mono ?_
        rintro e w4 ⟨v4, R, rfl, hw, ht, hs, _, hx4⟩
        have HB4 := Lib.hid (HB3.out.ext hx4)
        have HHA := Lib.hid (has_bo HB4.out hw ht hs (x := 1024) rfl)
        clear hw ht hs hx4
        go_wp2_with fail
        refine HHA.out.mono ?_
        rintro e w5 ⟨rfl, hx5⟩
        have HB5 := Lib.hid (HB4.out.ext hx5)
        clear hx5
        go_wp2_with fail
        refine (known_any w5).mono ?_
        rintro e w6 ⟨rfl, hb⟩
        have HE : Hid (Ext w w6) := Ext.trans HB5.out.base hb
        clear hb
        go_wp2_with fail
        go_ret
        exact ⟨rfl, HE.out⟩
end Go.Proofs.Ytenhfphgobalfaa

/- DiskNames: from the walk to the statement. For every input the law answers true and leaves its arguments as they were. -/
namespace Go.Proofs.Ytenhfphgobalfaa.diskNames
open Go.ChangeShapes Go.WideShapes Go.ChangeAt Go.RowKit
set_option linter.unusedVariables false

set_option maxRecDepth 100000 in
theorem lifted (os : Os) (started : os.Started) (H : Type) (enc : TypeId × Value → H) :
    ReturnsInHanded {} Try.checked os 8 .any (Rows.diskNamesSpec.pre6 enc Try.prog Try.f8 Rows.diskNamesRow.domain false) (Rows.diskNamesSpec.post enc Try.prog Try.f8 false true false false) := by
  refine returnsInHanded_of_change (C := Try.checked) own started (by kernel_rfl) Try.func8
    (ChangeSpec.witness6 (enc := enc) (C := Try.checked) false ⟨#[], #[.slice none 0 0], []⟩ 8 (by kernel_rfl) (by kernel_rfl) (by kernel_rfl) (by kernel_rfl)) ?_
  intro W base args ds gs before hval0 hW hcnd _
  have hval : ∀ (j : Nat) t v, Try.f8.params[j]? = some t → args[j]? = some v → Value.okWide Try.prog W .any base t v := hval0
  have hW' := hW
  obtain ⟨p, q, hA0, hV, rfl, hfz, hnd⟩ := hW
  have hA : DataW.TrodAll enc Try.prog W 0 (fun _ => true) true Try.f8.params.toList args.toList ds p := hA0
  rw [Try.params8] at hA hval
  obtain ⟨v0, vs0, d0, ds0, p0, q0, hargs, rfl, rfl, h0, r0⟩ := trodAll_cons hA
  obtain ⟨rfl, rfl, rfl⟩ := trodAll_nil r0
  obtain rfl : args = #[v0] := by cases args; simp_all
  obtain ⟨rfl, rfl⟩ := trodVars_none hV
  have k0 := h0
  have lt0 : ∀ x ∈ p0, x.block < W.heap.size := by obtain ⟨m, hm⟩ := k0; exact DataW.trod_lt m _ _ _ hm
  obtain ⟨A0, c0, ns0, rfl, sl0, sz0, _⟩ := open_names (hval 0 73 v0 rfl rfl) h0
  clear hA0 hval0
  refine (dnames_walk W A0 c0 ns0 sl0 sz0).mono fun e W' ⟨he, bel⟩ => ?_
  subst he
  exact ⟨_, rfl, _, _, _, [], _, [], hW', trodAll_mk1 (shut_bool Try.underlying4 _), (trodAll_cons_mk (Below.trod laidOut (by kernel_rfl) (of_decide_eq_true (by kernel_rfl)) k0 bel lt0) trodAll_mk0), rfl, bel.frame _, fun h => by cases h⟩

theorem over : Rows.diskNamesRow.holds Try.pinned (OpenSpec.ofChange Rows.diskNamesSpec) :=
  OpenClaim.holds_of_wide 8 Try.f8 rfl rfl rfl rfl rfl rfl rfl ⟨rfl, rfl, rfl, rfl, rfl⟩ rfl rfl rfl rfl rfl (by kernel_rfl) Try.func8 (by kernel_rfl)
    (of_decide_eq_true (by kernel_rfl)) (by unfold Func.isWrapper; first | (rw [if_pos (by decide +kernel)]; kernel_rfl) | (rw [if_neg (by decide +kernel)]; exact ⟨rfl, rfl⟩))
    (fun os started H enc _ => lifted os started H enc)

theorem proved : Rows.DiskNamesSaid := over
end Go.Proofs.Ytenhfphgobalfaa.diskNames
