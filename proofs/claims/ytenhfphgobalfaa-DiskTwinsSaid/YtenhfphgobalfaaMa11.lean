/- Ddo Dmade, joined. -/
import Derived.Test.YtenhfphgobalfaaMa10

/- The law's do: a step of both disks. -/
namespace Go.Proofs.Ytenhfphgobalfaa
open Go.RowKit Go.Maps
attribute [local go_sem] Oper.semAt_some

theorem iff0_ne {x : Int} (h : x ≠ 0) (F' F : List Fl) : iff0 x F' F = F := by
  have : (x == 0) = false := by simpa using h
  unfold iff0
  rw [this]
theorem Bo.boxed {w0 w : World} {d r room : Nat} {F : List Fl} {G : List RFl} {L : List Dk} {P : World → Prop} (h : Bo w0 d r room F G L P w) (cs : Array Value) (t : TypeId) :
    Bo w0 d r room F G L (fun u => P u ∧ u.heap[w.heap.size]? = some (.cells cs t (0, 0))) (w.alloc (.cells cs t)) :=
  h.add (ext_alloc _ _) fun w'' hk _ => (hk w.heap.size (Nat.le_refl _) (by simp)).trans (heap_at _ _ rfl)

set_option maxRecDepth 100000 in
set_option maxHeartbeats 16000000 in
theorem do2_any {w0 w : World} {d r room : Nat} {F : List Fl} {G : List RFl} {L : List Dk} {P : World → Prop} (h : Bo w0 d r room F G L P w) (hP : Stab r P) {x : Stp} (hx : StpOk w0 x) (hlen : x.dat.length ≤ 300000) (hk : x.kind = 2) :
    Calls Try.prog 15 #[.pointer (some ⟨d, 0, none⟩), .pointer (some ⟨r, 0, none⟩), x.val] w (DoThen w0 r room (stepF room x F) L P w.heap.size) := by
  obtain ⟨kd, a, b, dat, dA, dc, kp, kA, kc⟩ := x
  obtain rfl : kd = 2 := hk
  obtain ⟨CS, hCS⟩ : ∃ CS, CS = (#[.int .i64 2, .string a, .string b, .slice dA dat.length dc, .slice kA kp.length kc] : Array Value) := ⟨_, rfl⟩
  have HB := Lib.hid (h.boxed CS 38)
  have HSB : Hid (Stab r (fun u => P u ∧ u.heap[w.heap.size]? = some (.cells CS 38 (0, 0)))) := hP.and (Stab.cells (by decide))
  have HXO := Lib.hid hx
  have HLE : Hid (dat.length ≤ 300000) := hlen
  have HA : Hid (a.size ≤ maxLen) := hx.a
  have HBS : Hid (b.size ≤ maxLen) := hx.b
  have HJ0 : Hid (∀ u : World, u.heap[w.heap.size]? = some (.cells CS 38 (0, 0)) → u.cell? ⟨w.heap.size, 0, none⟩ = some (.int .i64 2)) := fun u hu => cell_of hu (k := 0) (by rw [hCS]; rfl)
  have HJ1 : Hid (∀ u : World, u.heap[w.heap.size]? = some (.cells CS 38 (0, 0)) → u.cell? ⟨w.heap.size, 1, none⟩ = some (.string a)) := fun u hu => cell_of hu (k := 1) (by rw [hCS]; rfl)
  have HJ2 : Hid (∀ u : World, u.heap[w.heap.size]? = some (.cells CS 38 (0, 0)) → u.cell? ⟨w.heap.size, 2, none⟩ = some (.string b)) := fun u hu => cell_of hu (k := 2) (by rw [hCS]; rfl)
  have HJ3 : Hid (∀ u : World, u.heap[w.heap.size]? = some (.cells CS 38 (0, 0)) → u.cell? ⟨w.heap.size, 3, none⟩ = some (.slice dA dat.length dc)) := fun u hu => cell_of hu (k := 3) (by rw [hCS]; rfl)
  have HJ4 : Hid (∀ u : World, u.heap[w.heap.size]? = some (.cells CS 38 (0, 0)) → u.cell? ⟨w.heap.size, 4, none⟩ = some (.slice kA kp.length kc)) := fun u hu => cell_of hu (k := 4) (by rw [hCS]; rfl)
  obtain ⟨wb, hwb⟩ : ∃ wb, wb = w.alloc (.cells CS 38) := ⟨_, rfl⟩
  rw [← hwb] at HB
  have HXB : Hid (Ext w wb) := by rw [hwb]; exact ext_alloc _ _
  have HOK : Hid (∀ u, Ext w0 u → StpOk u ⟨2, a, b, dat, dA, dc, kp, kA, kc⟩) := fun u hu => hx.ext hu
  rw [show Stp.val ⟨2, a, b, dat, dA, dc, kp, kA, kc⟩ = .agg CS by rw [hCS]; rfl]
  have q0 := HJ0.out wb HB.out.p.2
  have q1 := HJ1.out wb HB.out.p.2
  have q2 := HJ2.out wb HB.out.p.2
  have q3 := HJ3.out wb HB.out.p.2
  have q4 := HJ4.out wb HB.out.p.2
  clear h hP hx hlen hCS
  try clear hk
  obtain ⟨x, hx⟩ : ∃ x, x = seekN F a.data.toList := ⟨_, rfl⟩
  have HXE := Lib.hid hx
  obtain ⟨F', hF'⟩ : ∃ F', F' = iff0 x (syn F a.data.toList) F := ⟨_, rfl⟩
  have HFE := Lib.hid hF'
  have hst : stepF room ⟨2, a, b, dat, dA, dc, kp, kA, kc⟩ F = F' := by rw [hF', hx]; simp [stepF]
  rw [hst]
  clear hst hx hF'
  go_enter Try.func15, Try.ntmps15
  go_upto_region 1 with (fail)
  rw [← hwb]
  clear hwb
  go_upto_region 11 with (fail)
  refine Sj.flow (by kernel_rfl) [Is (.pointer (some ⟨d, 0, none⟩)), Is (.pointer (some ⟨r, 0, none⟩)), Is (.pointer (some ⟨d, 0, none⟩)), Is (.pointer (some ⟨w.heap.size, 1, none⟩)), Is (.string a), Is (.int .i64 x), Is (.int .i64 x), Is (.pointer (some ⟨r, 0, none⟩)), Is (.pointer (some ⟨w.heap.size, 1, none⟩)), Is (.string a), Is (.int .i64 x), Is (.bool true), Is (.pointer (some ⟨d, 0, none⟩)), Is (.pointer (some ⟨r, 0, none⟩)), Is (.bool true)] 5 10 (fun u => u.heap[w.heap.size]? = some (.cells CS 38 (0, 0))) (fun v u => v = .int .i64 x ∧ Mid w0 d r room F' F G L (fun u => P u ∧ u.heap[w.heap.size]? = some (.cells CS 38 (0, 0))) u) (fun v u => v = .int .i64 x ∧ ∃ G', Bo w0 d r room F' G' L (fun u => P u ∧ u.heap[w.heap.size]? = some (.cells CS 38 (0, 0))) u) (by kernel_rfl) (by kernel_rfl) (by kernel_rfl) ?hj ?hs ?ht (fun f1 => ?obl) ?fin
  case hj => exact HB.out.p.2
  case hs => exact fun v u h => ⟨h.2.p.2.2, fun _ => h.1⟩
  case ht => exact fun v u ⟨h1, _, h2⟩ => ⟨h2.p.2, fun _ => h1⟩
  case fin =>
    intro g1 u hg hfi
    simp only [puts, Act.put, List.setIfInBounds_toArray, List.set_cons_zero, List.set_cons_succ]
    have e1 : g1 12 = .pointer (some ⟨d, 0, none⟩) := hg 12 (by decide)
    have e2 : g1 13 = .pointer (some ⟨r, 0, none⟩) := hg 13 (by decide)
    have e3 : g1 14 = .bool true := hg 14 (by decide)
    rw [e1, e2, e3]
    obtain ⟨_, G', hbo⟩ := hfi
    have HBO := Lib.hid hbo
    clear e1 e2 e3 hg hbo q0 q1 q2 q3 q4
    go_wp2_with fail
    try simp only [Exit.inBlock, Exit.then]
    refine bodyPost_ret (results_tmp3 rfl _ _ _) rfl ?_
    exact ⟨d, r, G', rfl, HBO.out.imp (fun u h => h.1), .inl rfl⟩
  case obl =>
    refine ⟨fun u u' hu hj hd => ?_, ?_⟩
    · go_simp
      exact ⟨rfl, rfl⟩
    refine ⟨fun u u' hu hj hd => ?_, ?_⟩
    · simp only [Act.put, List.setIfInBounds_toArray, List.set_cons_zero, List.set_cons_succ]
      go_simp
      exact ⟨rfl, rfl⟩
    refine ⟨fun u u' hu hj hd => ?_, ?_⟩
    · simp only [Act.put, List.setIfInBounds_toArray, List.set_cons_zero, List.set_cons_succ]
      go_simp
      exact ⟨rfl, rfl⟩
    refine ⟨fun u u' hu hj hd => ?_, ?_⟩
    · simp only [Act.put, List.setIfInBounds_toArray, List.set_cons_zero, List.set_cons_succ]
      go_simp
      exact ⟨rfl, rfl⟩
    refine ⟨fun u u' hu hj hd => ?_, ?_⟩
    · simp only [Act.put, List.setIfInBounds_toArray, List.set_cons_zero, List.set_cons_succ]
      have e3 : f1 3 = .pointer (some ⟨w.heap.size, 1, none⟩) := hd 3 (by kernel_rfl)
      have q0 := HJ1.out u' hj
      go_simp
      exact ⟨rfl, rfl⟩
    refine ⟨fun u hu hd => ?_, ?_⟩
    · simp only [Act.put, List.setIfInBounds_toArray, List.set_cons_zero, List.set_cons_succ]
      have e2 : f1 2 = .pointer (some ⟨d, 0, none⟩) := hd 2 (by kernel_rfl)
      have e4 : f1 4 = .string a := hd 4 (by kernel_rfl)
      have HM := Lib.hid (sync_mid (HB.out.ext (Ext.trans (Ext.drew wb) hu)) HA.out HXE.out)
      rw [← HFE.out] at HM
      clear hd
      go_simp
      refine HM.out.mono ?_
      rintro e9 w9 ⟨rfl, hm9⟩
      exact ⟨_, rfl, rfl, hm9⟩
    refine ⟨fun u u' hu hj hd => ?_, ?_⟩
    · simp only [Act.put, List.setIfInBounds_toArray, List.set_cons_zero, List.set_cons_succ]
      have e5 : f1 5 = .int .i64 x := hd 5 (by kernel_rfl)
      clear hd
      go_simp
      refine (num_any _ _).mono ?_
      rintro e9 w9 ⟨rfl, rfl⟩
      exact ⟨_, rfl, rfl, rfl⟩
    refine ⟨fun u u' hu hj hd => ?_, ?_⟩
    · simp only [Act.put, List.setIfInBounds_toArray, List.set_cons_zero, List.set_cons_succ]
      go_simp
      exact ⟨rfl, rfl⟩
    refine ⟨fun u u' hu hj hd => ?_, ?_⟩
    · simp only [Act.put, List.setIfInBounds_toArray, List.set_cons_zero, List.set_cons_succ]
      go_simp
      exact ⟨rfl, rfl⟩
    refine ⟨fun u u' hu hj hd => ?_, ?_⟩
    · simp only [Act.put, List.setIfInBounds_toArray, List.set_cons_zero, List.set_cons_succ]
      have e8 : f1 8 = .pointer (some ⟨w.heap.size, 1, none⟩) := hd 8 (by kernel_rfl)
      have q0 := HJ1.out u' hj
      go_simp
      exact ⟨rfl, rfl⟩
    refine ⟨fun u1 u2 hu hd hs => ?_, ?_⟩
    · simp only [Act.put, List.setIfInBounds_toArray, List.set_cons_zero, List.set_cons_succ]
      have e7 : f1 7 = .pointer (some ⟨r, 0, none⟩) := hd 7 (by kernel_rfl)
      have e9 : f1 9 = .string a := hd 9 (by kernel_rfl)
      have hs9 := hs.2
      rw [HFE.out] at hs9
      have HM := Lib.hid (sync_end hs9 HA.out HXE.out HSB.out)
      rw [← HFE.out] at HM
      clear hd hs hs9
      go_simp
      refine HM.out.mono ?_
      rintro e9 w9 ⟨rfl, hm9⟩
      exact ⟨_, rfl, rfl, hm9⟩
    refine ⟨fun u u' hu hj hd => ?_, ?_⟩
    · simp only [Act.put, List.setIfInBounds_toArray, List.set_cons_zero, List.set_cons_succ]
      have e6 : f1 6 = .int .i64 x := hd 6 (by kernel_rfl)
      have e10 : f1 10 = .int .i64 x := hd 10 (by kernel_rfl)
      have hxx : (x == x) = true := by simp
      clear hd
      go_simp
      exact ⟨rfl, rfl⟩
    refine ⟨fun u u' hu hj hd => ?_, ?_⟩
    · simp only [Act.put, List.setIfInBounds_toArray, List.set_cons_zero, List.set_cons_succ]
      have e0 : f1 0 = .pointer (some ⟨d, 0, none⟩) := hd 0 (by kernel_rfl)
      go_simp
      exact ⟨rfl, rfl⟩
    refine ⟨fun u u' hu hj hd => ?_, ?_⟩
    · simp only [Act.put, List.setIfInBounds_toArray, List.set_cons_zero, List.set_cons_succ]
      have e1 : f1 1 = .pointer (some ⟨r, 0, none⟩) := hd 1 (by kernel_rfl)
      go_simp
      exact ⟨rfl, rfl⟩
    refine ⟨fun u u' hu hj hd => ?_, ?_⟩
    · simp only [Act.put, List.setIfInBounds_toArray, List.set_cons_zero, List.set_cons_succ]
      have e11 : f1 11 = .bool true := hd 11 (by kernel_rfl)
      go_simp
      exact ⟨rfl, rfl⟩
    trivial

set_option maxRecDepth 100000 in
set_option maxHeartbeats 16000000 in
theorem do4_any {w0 w : World} {d r room : Nat} {F : List Fl} {G : List RFl} {L : List Dk} {P : World → Prop} (h : Bo w0 d r room F G L P w) (hP : Stab r P) {x : Stp} (hx : StpOk w0 x) (hlen : x.dat.length ≤ 300000) (hk : x.kind = 4) :
    Calls Try.prog 15 #[.pointer (some ⟨d, 0, none⟩), .pointer (some ⟨r, 0, none⟩), x.val] w (DoThen w0 r room (stepF room x F) L P w.heap.size) := by
  obtain ⟨kd, a, b, dat, dA, dc, kp, kA, kc⟩ := x
  obtain rfl : kd = 4 := hk
  obtain ⟨CS, hCS⟩ : ∃ CS, CS = (#[.int .i64 4, .string a, .string b, .slice dA dat.length dc, .slice kA kp.length kc] : Array Value) := ⟨_, rfl⟩
  have HB := Lib.hid (h.boxed CS 38)
  have HSB : Hid (Stab r (fun u => P u ∧ u.heap[w.heap.size]? = some (.cells CS 38 (0, 0)))) := hP.and (Stab.cells (by decide))
  have HXO := Lib.hid hx
  have HLE : Hid (dat.length ≤ 300000) := hlen
  have HA : Hid (a.size ≤ maxLen) := hx.a
  have HBS : Hid (b.size ≤ maxLen) := hx.b
  have HJ0 : Hid (∀ u : World, u.heap[w.heap.size]? = some (.cells CS 38 (0, 0)) → u.cell? ⟨w.heap.size, 0, none⟩ = some (.int .i64 4)) := fun u hu => cell_of hu (k := 0) (by rw [hCS]; rfl)
  have HJ1 : Hid (∀ u : World, u.heap[w.heap.size]? = some (.cells CS 38 (0, 0)) → u.cell? ⟨w.heap.size, 1, none⟩ = some (.string a)) := fun u hu => cell_of hu (k := 1) (by rw [hCS]; rfl)
  have HJ2 : Hid (∀ u : World, u.heap[w.heap.size]? = some (.cells CS 38 (0, 0)) → u.cell? ⟨w.heap.size, 2, none⟩ = some (.string b)) := fun u hu => cell_of hu (k := 2) (by rw [hCS]; rfl)
  have HJ3 : Hid (∀ u : World, u.heap[w.heap.size]? = some (.cells CS 38 (0, 0)) → u.cell? ⟨w.heap.size, 3, none⟩ = some (.slice dA dat.length dc)) := fun u hu => cell_of hu (k := 3) (by rw [hCS]; rfl)
  have HJ4 : Hid (∀ u : World, u.heap[w.heap.size]? = some (.cells CS 38 (0, 0)) → u.cell? ⟨w.heap.size, 4, none⟩ = some (.slice kA kp.length kc)) := fun u hu => cell_of hu (k := 4) (by rw [hCS]; rfl)
  obtain ⟨wb, hwb⟩ : ∃ wb, wb = w.alloc (.cells CS 38) := ⟨_, rfl⟩
  rw [← hwb] at HB
  have HXB : Hid (Ext w wb) := by rw [hwb]; exact ext_alloc _ _
  have HOK : Hid (∀ u, Ext w0 u → StpOk u ⟨4, a, b, dat, dA, dc, kp, kA, kc⟩) := fun u hu => hx.ext hu
  rw [show Stp.val ⟨4, a, b, dat, dA, dc, kp, kA, kc⟩ = .agg CS by rw [hCS]; rfl]
  have q0 := HJ0.out wb HB.out.p.2
  have q1 := HJ1.out wb HB.out.p.2
  have q2 := HJ2.out wb HB.out.p.2
  have q3 := HJ3.out wb HB.out.p.2
  have q4 := HJ4.out wb HB.out.p.2
  clear h hP hx hlen hCS
  try clear hk
  obtain ⟨x, hx⟩ : ∃ x, x = seekN F a.data.toList := ⟨_, rfl⟩
  have HXE := Lib.hid hx
  obtain ⟨F', hF'⟩ : ∃ F', F' = iff0 x (del F a.data.toList) F := ⟨_, rfl⟩
  have HFE := Lib.hid hF'
  have hst : stepF room ⟨4, a, b, dat, dA, dc, kp, kA, kc⟩ F = F' := by rw [hF', hx]; simp [stepF]
  rw [hst]
  clear hst hx hF'
  go_enter Try.func15, Try.ntmps15
  go_upto_region 1 with (fail)
  rw [← hwb]
  clear hwb
  go_upto_region 15 with (fail)
  refine Sj.flow (by kernel_rfl) [Is (.pointer (some ⟨d, 0, none⟩)), Is (.pointer (some ⟨r, 0, none⟩)), Is (.pointer (some ⟨d, 0, none⟩)), Is (.pointer (some ⟨w.heap.size, 1, none⟩)), Is (.string a), Is (.int .i64 x), Is (.int .i64 x), Is (.pointer (some ⟨r, 0, none⟩)), Is (.pointer (some ⟨w.heap.size, 1, none⟩)), Is (.string a), Is (.int .i64 x), Is (.bool true), Is (.pointer (some ⟨d, 0, none⟩)), Is (.pointer (some ⟨r, 0, none⟩)), Is (.bool true)] 5 10 (fun u => u.heap[w.heap.size]? = some (.cells CS 38 (0, 0))) (fun v u => v = .int .i64 x ∧ Mid w0 d r room F' F G L (fun u => P u ∧ u.heap[w.heap.size]? = some (.cells CS 38 (0, 0))) u) (fun v u => v = .int .i64 x ∧ ∃ G', Bo w0 d r room F' G' L (fun u => P u ∧ u.heap[w.heap.size]? = some (.cells CS 38 (0, 0))) u) (by kernel_rfl) (by kernel_rfl) (by kernel_rfl) ?hj ?hs ?ht (fun f1 => ?obl) ?fin
  case hj => exact HB.out.p.2
  case hs => exact fun v u h => ⟨h.2.p.2.2, fun _ => h.1⟩
  case ht => exact fun v u ⟨h1, _, h2⟩ => ⟨h2.p.2, fun _ => h1⟩
  case fin =>
    intro g1 u hg hfi
    simp only [puts, Act.put, List.setIfInBounds_toArray, List.set_cons_zero, List.set_cons_succ]
    have e1 : g1 12 = .pointer (some ⟨d, 0, none⟩) := hg 12 (by decide)
    have e2 : g1 13 = .pointer (some ⟨r, 0, none⟩) := hg 13 (by decide)
    have e3 : g1 14 = .bool true := hg 14 (by decide)
    rw [e1, e2, e3]
    obtain ⟨_, G', hbo⟩ := hfi
    have HBO := Lib.hid hbo
    clear e1 e2 e3 hg hbo q0 q1 q2 q3 q4
    go_wp2_with fail
    try simp only [Exit.inBlock, Exit.then]
    refine bodyPost_ret (results_tmp3 rfl _ _ _) rfl ?_
    exact ⟨d, r, G', rfl, HBO.out.imp (fun u h => h.1), .inl rfl⟩
  case obl =>
    refine ⟨fun u u' hu hj hd => ?_, ?_⟩
    · go_simp
      exact ⟨rfl, rfl⟩
    refine ⟨fun u u' hu hj hd => ?_, ?_⟩
    · simp only [Act.put, List.setIfInBounds_toArray, List.set_cons_zero, List.set_cons_succ]
      go_simp
      exact ⟨rfl, rfl⟩
    refine ⟨fun u u' hu hj hd => ?_, ?_⟩
    · simp only [Act.put, List.setIfInBounds_toArray, List.set_cons_zero, List.set_cons_succ]
      go_simp
      exact ⟨rfl, rfl⟩
    refine ⟨fun u u' hu hj hd => ?_, ?_⟩
    · simp only [Act.put, List.setIfInBounds_toArray, List.set_cons_zero, List.set_cons_succ]
      go_simp
      exact ⟨rfl, rfl⟩
    refine ⟨fun u u' hu hj hd => ?_, ?_⟩
    · simp only [Act.put, List.setIfInBounds_toArray, List.set_cons_zero, List.set_cons_succ]
      have e3 : f1 3 = .pointer (some ⟨w.heap.size, 1, none⟩) := hd 3 (by kernel_rfl)
      have q0 := HJ1.out u' hj
      go_simp
      exact ⟨rfl, rfl⟩
    refine ⟨fun u hu hd => ?_, ?_⟩
    · simp only [Act.put, List.setIfInBounds_toArray, List.set_cons_zero, List.set_cons_succ]
      have e2 : f1 2 = .pointer (some ⟨d, 0, none⟩) := hd 2 (by kernel_rfl)
      have e4 : f1 4 = .string a := hd 4 (by kernel_rfl)
      have HM := Lib.hid (remove_mid (HB.out.ext (Ext.trans (Ext.drew wb) hu)) HA.out HXE.out)
      rw [← HFE.out] at HM
      clear hd
      go_simp
      refine HM.out.mono ?_
      rintro e9 w9 ⟨rfl, hm9⟩
      exact ⟨_, rfl, rfl, hm9⟩
    refine ⟨fun u u' hu hj hd => ?_, ?_⟩
    · simp only [Act.put, List.setIfInBounds_toArray, List.set_cons_zero, List.set_cons_succ]
      have e5 : f1 5 = .int .i64 x := hd 5 (by kernel_rfl)
      clear hd
      go_simp
      refine (num_any _ _).mono ?_
      rintro e9 w9 ⟨rfl, rfl⟩
      exact ⟨_, rfl, rfl, rfl⟩
    refine ⟨fun u u' hu hj hd => ?_, ?_⟩
    · simp only [Act.put, List.setIfInBounds_toArray, List.set_cons_zero, List.set_cons_succ]
      go_simp
      exact ⟨rfl, rfl⟩
    refine ⟨fun u u' hu hj hd => ?_, ?_⟩
    · simp only [Act.put, List.setIfInBounds_toArray, List.set_cons_zero, List.set_cons_succ]
      go_simp
      exact ⟨rfl, rfl⟩
    refine ⟨fun u u' hu hj hd => ?_, ?_⟩
    · simp only [Act.put, List.setIfInBounds_toArray, List.set_cons_zero, List.set_cons_succ]
      have e8 : f1 8 = .pointer (some ⟨w.heap.size, 1, none⟩) := hd 8 (by kernel_rfl)
      have q0 := HJ1.out u' hj
      go_simp
      exact ⟨rfl, rfl⟩
    refine ⟨fun u1 u2 hu hd hs => ?_, ?_⟩
    · simp only [Act.put, List.setIfInBounds_toArray, List.set_cons_zero, List.set_cons_succ]
      have e7 : f1 7 = .pointer (some ⟨r, 0, none⟩) := hd 7 (by kernel_rfl)
      have e9 : f1 9 = .string a := hd 9 (by kernel_rfl)
      have hs9 := hs.2
      rw [HFE.out] at hs9
      have HM := Lib.hid (remove_end hs9 HA.out HXE.out HSB.out)
      rw [← HFE.out] at HM
      clear hd hs hs9
      go_simp
      refine HM.out.mono ?_
      rintro e9 w9 ⟨rfl, hm9⟩
      exact ⟨_, rfl, rfl, hm9⟩
    refine ⟨fun u u' hu hj hd => ?_, ?_⟩
    · simp only [Act.put, List.setIfInBounds_toArray, List.set_cons_zero, List.set_cons_succ]
      have e6 : f1 6 = .int .i64 x := hd 6 (by kernel_rfl)
      have e10 : f1 10 = .int .i64 x := hd 10 (by kernel_rfl)
      have hxx : (x == x) = true := by simp
      clear hd
      go_simp
      exact ⟨rfl, rfl⟩
    refine ⟨fun u u' hu hj hd => ?_, ?_⟩
    · simp only [Act.put, List.setIfInBounds_toArray, List.set_cons_zero, List.set_cons_succ]
      have e0 : f1 0 = .pointer (some ⟨d, 0, none⟩) := hd 0 (by kernel_rfl)
      go_simp
      exact ⟨rfl, rfl⟩
    refine ⟨fun u u' hu hj hd => ?_, ?_⟩
    · simp only [Act.put, List.setIfInBounds_toArray, List.set_cons_zero, List.set_cons_succ]
      have e1 : f1 1 = .pointer (some ⟨r, 0, none⟩) := hd 1 (by kernel_rfl)
      go_simp
      exact ⟨rfl, rfl⟩
    refine ⟨fun u u' hu hj hd => ?_, ?_⟩
    · simp only [Act.put, List.setIfInBounds_toArray, List.set_cons_zero, List.set_cons_succ]
      have e11 : f1 11 = .bool true := hd 11 (by kernel_rfl)
      go_simp
      exact ⟨rfl, rfl⟩
    trivial

set_option maxRecDepth 100000 in
set_option maxHeartbeats 16000000 in
theorem do3_any {w0 w : World} {d r room : Nat} {F : List Fl} {G : List RFl} {L : List Dk} {P : World → Prop} (h : Bo w0 d r room F G L P w) (hP : Stab r P) {x : Stp} (hx : StpOk w0 x) (hlen : x.dat.length ≤ 300000) (hk : x.kind = 3) :
    Calls Try.prog 15 #[.pointer (some ⟨d, 0, none⟩), .pointer (some ⟨r, 0, none⟩), x.val] w (DoThen w0 r room (stepF room x F) L P w.heap.size) := by
  obtain ⟨kd, a, b, dat, dA, dc, kp, kA, kc⟩ := x
  obtain rfl : kd = 3 := hk
  obtain ⟨CS, hCS⟩ : ∃ CS, CS = (#[.int .i64 3, .string a, .string b, .slice dA dat.length dc, .slice kA kp.length kc] : Array Value) := ⟨_, rfl⟩
  have HB := Lib.hid (h.boxed CS 38)
  have HSB : Hid (Stab r (fun u => P u ∧ u.heap[w.heap.size]? = some (.cells CS 38 (0, 0)))) := hP.and (Stab.cells (by decide))
  have HXO := Lib.hid hx
  have HLE : Hid (dat.length ≤ 300000) := hlen
  have HA : Hid (a.size ≤ maxLen) := hx.a
  have HBS : Hid (b.size ≤ maxLen) := hx.b
  have HJ0 : Hid (∀ u : World, u.heap[w.heap.size]? = some (.cells CS 38 (0, 0)) → u.cell? ⟨w.heap.size, 0, none⟩ = some (.int .i64 3)) := fun u hu => cell_of hu (k := 0) (by rw [hCS]; rfl)
  have HJ1 : Hid (∀ u : World, u.heap[w.heap.size]? = some (.cells CS 38 (0, 0)) → u.cell? ⟨w.heap.size, 1, none⟩ = some (.string a)) := fun u hu => cell_of hu (k := 1) (by rw [hCS]; rfl)
  have HJ2 : Hid (∀ u : World, u.heap[w.heap.size]? = some (.cells CS 38 (0, 0)) → u.cell? ⟨w.heap.size, 2, none⟩ = some (.string b)) := fun u hu => cell_of hu (k := 2) (by rw [hCS]; rfl)
  have HJ3 : Hid (∀ u : World, u.heap[w.heap.size]? = some (.cells CS 38 (0, 0)) → u.cell? ⟨w.heap.size, 3, none⟩ = some (.slice dA dat.length dc)) := fun u hu => cell_of hu (k := 3) (by rw [hCS]; rfl)
  have HJ4 : Hid (∀ u : World, u.heap[w.heap.size]? = some (.cells CS 38 (0, 0)) → u.cell? ⟨w.heap.size, 4, none⟩ = some (.slice kA kp.length kc)) := fun u hu => cell_of hu (k := 4) (by rw [hCS]; rfl)
  obtain ⟨wb, hwb⟩ : ∃ wb, wb = w.alloc (.cells CS 38) := ⟨_, rfl⟩
  rw [← hwb] at HB
  have HXB : Hid (Ext w wb) := by rw [hwb]; exact ext_alloc _ _
  have HOK : Hid (∀ u, Ext w0 u → StpOk u ⟨3, a, b, dat, dA, dc, kp, kA, kc⟩) := fun u hu => hx.ext hu
  rw [show Stp.val ⟨3, a, b, dat, dA, dc, kp, kA, kc⟩ = .agg CS by rw [hCS]; rfl]
  have q0 := HJ0.out wb HB.out.p.2
  have q1 := HJ1.out wb HB.out.p.2
  have q2 := HJ2.out wb HB.out.p.2
  have q3 := HJ3.out wb HB.out.p.2
  have q4 := HJ4.out wb HB.out.p.2
  clear h hP hx hlen hCS
  try clear hk
  obtain ⟨x, hx⟩ : ∃ x, x = seek2 F a.data.toList b.data.toList := ⟨_, rfl⟩
  have HXE := Lib.hid hx
  obtain ⟨F', hF'⟩ : ∃ F', F' = iff0 x (ren F a.data.toList b.data.toList) F := ⟨_, rfl⟩
  have HFE := Lib.hid hF'
  have hst : stepF room ⟨3, a, b, dat, dA, dc, kp, kA, kc⟩ F = F' := by rw [hF', hx]; simp [stepF]
  rw [hst]
  clear hst hx hF'
  go_enter Try.func15, Try.ntmps15
  go_upto_region 1 with (fail)
  rw [← hwb]
  clear hwb
  go_upto_region 13 with (fail)
  refine Sj.flow (by kernel_rfl) [Is (.pointer (some ⟨d, 0, none⟩)), Is (.pointer (some ⟨r, 0, none⟩)), Is (.pointer (some ⟨d, 0, none⟩)), Is (.pointer (some ⟨w.heap.size, 1, none⟩)), Is (.string a), Is (.pointer (some ⟨w.heap.size, 2, none⟩)), Is (.string b), Is (.int .i64 x), Is (.int .i64 x), Is (.pointer (some ⟨r, 0, none⟩)), Is (.pointer (some ⟨w.heap.size, 1, none⟩)), Is (.string a), Is (.pointer (some ⟨w.heap.size, 2, none⟩)), Is (.string b), Is (.int .i64 x), Is (.bool true), Is (.pointer (some ⟨d, 0, none⟩)), Is (.pointer (some ⟨r, 0, none⟩)), Is (.bool true)] 7 14 (fun u => u.heap[w.heap.size]? = some (.cells CS 38 (0, 0))) (fun v u => v = .int .i64 x ∧ Mid w0 d r room F' F G L (fun u => P u ∧ u.heap[w.heap.size]? = some (.cells CS 38 (0, 0))) u) (fun v u => v = .int .i64 x ∧ ∃ G', Bo w0 d r room F' G' L (fun u => P u ∧ u.heap[w.heap.size]? = some (.cells CS 38 (0, 0))) u) (by kernel_rfl) (by kernel_rfl) (by kernel_rfl) ?hj ?hs ?ht (fun f1 => ?obl) ?fin
  case hj => exact HB.out.p.2
  case hs => exact fun v u h => ⟨h.2.p.2.2, fun _ => h.1⟩
  case ht => exact fun v u ⟨h1, _, h2⟩ => ⟨h2.p.2, fun _ => h1⟩
  case fin =>
    intro g1 u hg hfi
    simp only [puts, Act.put, List.setIfInBounds_toArray, List.set_cons_zero, List.set_cons_succ]
    have e1 : g1 16 = .pointer (some ⟨d, 0, none⟩) := hg 16 (by decide)
    have e2 : g1 17 = .pointer (some ⟨r, 0, none⟩) := hg 17 (by decide)
    have e3 : g1 18 = .bool true := hg 18 (by decide)
    rw [e1, e2, e3]
    obtain ⟨_, G', hbo⟩ := hfi
    have HBO := Lib.hid hbo
    clear e1 e2 e3 hg hbo q0 q1 q2 q3 q4
    go_wp2_with fail
    try simp only [Exit.inBlock, Exit.then]
    refine bodyPost_ret (results_tmp3 rfl _ _ _) rfl ?_
    exact ⟨d, r, G', rfl, HBO.out.imp (fun u h => h.1), .inl rfl⟩
  case obl =>
    refine ⟨fun u u' hu hj hd => ?_, ?_⟩
    · go_simp
      exact ⟨rfl, rfl⟩
    refine ⟨fun u u' hu hj hd => ?_, ?_⟩
    · simp only [Act.put, List.setIfInBounds_toArray, List.set_cons_zero, List.set_cons_succ]
      go_simp
      exact ⟨rfl, rfl⟩
    refine ⟨fun u u' hu hj hd => ?_, ?_⟩
    · simp only [Act.put, List.setIfInBounds_toArray, List.set_cons_zero, List.set_cons_succ]
      go_simp
      exact ⟨rfl, rfl⟩
    refine ⟨fun u u' hu hj hd => ?_, ?_⟩
    · simp only [Act.put, List.setIfInBounds_toArray, List.set_cons_zero, List.set_cons_succ]
      go_simp
      exact ⟨rfl, rfl⟩
    refine ⟨fun u u' hu hj hd => ?_, ?_⟩
    · simp only [Act.put, List.setIfInBounds_toArray, List.set_cons_zero, List.set_cons_succ]
      have e3 : f1 3 = .pointer (some ⟨w.heap.size, 1, none⟩) := hd 3 (by kernel_rfl)
      have q0 := HJ1.out u' hj
      go_simp
      exact ⟨rfl, rfl⟩
    refine ⟨fun u u' hu hj hd => ?_, ?_⟩
    · simp only [Act.put, List.setIfInBounds_toArray, List.set_cons_zero, List.set_cons_succ]
      go_simp
      exact ⟨rfl, rfl⟩
    refine ⟨fun u u' hu hj hd => ?_, ?_⟩
    · simp only [Act.put, List.setIfInBounds_toArray, List.set_cons_zero, List.set_cons_succ]
      have e5 : f1 5 = .pointer (some ⟨w.heap.size, 2, none⟩) := hd 5 (by kernel_rfl)
      have q0 := HJ2.out u' hj
      go_simp
      exact ⟨rfl, rfl⟩
    refine ⟨fun u hu hd => ?_, ?_⟩
    · simp only [Act.put, List.setIfInBounds_toArray, List.set_cons_zero, List.set_cons_succ]
      have e2 : f1 2 = .pointer (some ⟨d, 0, none⟩) := hd 2 (by kernel_rfl)
      have e4 : f1 4 = .string a := hd 4 (by kernel_rfl)
      have e6 : f1 6 = .string b := hd 6 (by kernel_rfl)
      have HM := Lib.hid (rename_mid (HB.out.ext (Ext.trans (Ext.drew wb) hu)) HA.out HBS.out HXE.out)
      rw [← HFE.out] at HM
      clear hd
      go_simp
      refine HM.out.mono ?_
      rintro e9 w9 ⟨rfl, hm9⟩
      exact ⟨_, rfl, rfl, hm9⟩
    refine ⟨fun u u' hu hj hd => ?_, ?_⟩
    · simp only [Act.put, List.setIfInBounds_toArray, List.set_cons_zero, List.set_cons_succ]
      have e7 : f1 7 = .int .i64 x := hd 7 (by kernel_rfl)
      clear hd
      go_simp
      refine (num_any _ _).mono ?_
      rintro e9 w9 ⟨rfl, rfl⟩
      exact ⟨_, rfl, rfl, rfl⟩
    refine ⟨fun u u' hu hj hd => ?_, ?_⟩
    · simp only [Act.put, List.setIfInBounds_toArray, List.set_cons_zero, List.set_cons_succ]
      go_simp
      exact ⟨rfl, rfl⟩
    refine ⟨fun u u' hu hj hd => ?_, ?_⟩
    · simp only [Act.put, List.setIfInBounds_toArray, List.set_cons_zero, List.set_cons_succ]
      go_simp
      exact ⟨rfl, rfl⟩
    refine ⟨fun u u' hu hj hd => ?_, ?_⟩
    · simp only [Act.put, List.setIfInBounds_toArray, List.set_cons_zero, List.set_cons_succ]
      have e10 : f1 10 = .pointer (some ⟨w.heap.size, 1, none⟩) := hd 10 (by kernel_rfl)
      have q0 := HJ1.out u' hj
      go_simp
      exact ⟨rfl, rfl⟩
    refine ⟨fun u u' hu hj hd => ?_, ?_⟩
    · simp only [Act.put, List.setIfInBounds_toArray, List.set_cons_zero, List.set_cons_succ]
      go_simp
      exact ⟨rfl, rfl⟩
    refine ⟨fun u u' hu hj hd => ?_, ?_⟩
    · simp only [Act.put, List.setIfInBounds_toArray, List.set_cons_zero, List.set_cons_succ]
      have e12 : f1 12 = .pointer (some ⟨w.heap.size, 2, none⟩) := hd 12 (by kernel_rfl)
      have q0 := HJ2.out u' hj
      go_simp
      exact ⟨rfl, rfl⟩
    refine ⟨fun u1 u2 hu hd hs => ?_, ?_⟩
    · simp only [Act.put, List.setIfInBounds_toArray, List.set_cons_zero, List.set_cons_succ]
      have e9 : f1 9 = .pointer (some ⟨r, 0, none⟩) := hd 9 (by kernel_rfl)
      have e11 : f1 11 = .string a := hd 11 (by kernel_rfl)
      have e13 : f1 13 = .string b := hd 13 (by kernel_rfl)
      have hs9 := hs.2
      rw [HFE.out] at hs9
      have HM := Lib.hid (rename_end hs9 HA.out HBS.out HXE.out HSB.out)
      rw [← HFE.out] at HM
      clear hd hs hs9
      go_simp
      refine HM.out.mono ?_
      rintro e9 w9 ⟨rfl, hm9⟩
      exact ⟨_, rfl, rfl, hm9⟩
    refine ⟨fun u u' hu hj hd => ?_, ?_⟩
    · simp only [Act.put, List.setIfInBounds_toArray, List.set_cons_zero, List.set_cons_succ]
      have e8 : f1 8 = .int .i64 x := hd 8 (by kernel_rfl)
      have e14 : f1 14 = .int .i64 x := hd 14 (by kernel_rfl)
      have hxx : (x == x) = true := by simp
      clear hd
      go_simp
      exact ⟨rfl, rfl⟩
    refine ⟨fun u u' hu hj hd => ?_, ?_⟩
    · simp only [Act.put, List.setIfInBounds_toArray, List.set_cons_zero, List.set_cons_succ]
      have e0 : f1 0 = .pointer (some ⟨d, 0, none⟩) := hd 0 (by kernel_rfl)
      go_simp
      exact ⟨rfl, rfl⟩
    refine ⟨fun u u' hu hj hd => ?_, ?_⟩
    · simp only [Act.put, List.setIfInBounds_toArray, List.set_cons_zero, List.set_cons_succ]
      have e1 : f1 1 = .pointer (some ⟨r, 0, none⟩) := hd 1 (by kernel_rfl)
      go_simp
      exact ⟨rfl, rfl⟩
    refine ⟨fun u u' hu hj hd => ?_, ?_⟩
    · simp only [Act.put, List.setIfInBounds_toArray, List.set_cons_zero, List.set_cons_succ]
      have e15 : f1 15 = .bool true := hd 15 (by kernel_rfl)
      go_simp
      exact ⟨rfl, rfl⟩
    trivial

set_option maxRecDepth 100000 in
set_option maxHeartbeats 16000000 in
theorem do5_any {w0 w : World} {d r room : Nat} {F : List Fl} {G : List RFl} {L : List Dk} {P : World → Prop} (h : Bo w0 d r room F G L P w) (hP : Stab r P) {x : Stp} (hx : StpOk w0 x) (hlen : x.dat.length ≤ 300000) (hk : x.kind = 5) :
    Calls Try.prog 15 #[.pointer (some ⟨d, 0, none⟩), .pointer (some ⟨r, 0, none⟩), x.val] w (DoThen w0 r room (stepF room x F) L P w.heap.size) := by
  obtain ⟨kd, a, b, dat, dA, dc, kp, kA, kc⟩ := x
  obtain rfl : kd = 5 := hk
  obtain ⟨CS, hCS⟩ : ∃ CS, CS = (#[.int .i64 5, .string a, .string b, .slice dA dat.length dc, .slice kA kp.length kc] : Array Value) := ⟨_, rfl⟩
  have HB := Lib.hid (h.boxed CS 38)
  have HSB : Hid (Stab r (fun u => P u ∧ u.heap[w.heap.size]? = some (.cells CS 38 (0, 0)))) := hP.and (Stab.cells (by decide))
  have HXO := Lib.hid hx
  have HLE : Hid (dat.length ≤ 300000) := hlen
  have HA : Hid (a.size ≤ maxLen) := hx.a
  have HBS : Hid (b.size ≤ maxLen) := hx.b
  have HJ0 : Hid (∀ u : World, u.heap[w.heap.size]? = some (.cells CS 38 (0, 0)) → u.cell? ⟨w.heap.size, 0, none⟩ = some (.int .i64 5)) := fun u hu => cell_of hu (k := 0) (by rw [hCS]; rfl)
  have HJ1 : Hid (∀ u : World, u.heap[w.heap.size]? = some (.cells CS 38 (0, 0)) → u.cell? ⟨w.heap.size, 1, none⟩ = some (.string a)) := fun u hu => cell_of hu (k := 1) (by rw [hCS]; rfl)
  have HJ2 : Hid (∀ u : World, u.heap[w.heap.size]? = some (.cells CS 38 (0, 0)) → u.cell? ⟨w.heap.size, 2, none⟩ = some (.string b)) := fun u hu => cell_of hu (k := 2) (by rw [hCS]; rfl)
  have HJ3 : Hid (∀ u : World, u.heap[w.heap.size]? = some (.cells CS 38 (0, 0)) → u.cell? ⟨w.heap.size, 3, none⟩ = some (.slice dA dat.length dc)) := fun u hu => cell_of hu (k := 3) (by rw [hCS]; rfl)
  have HJ4 : Hid (∀ u : World, u.heap[w.heap.size]? = some (.cells CS 38 (0, 0)) → u.cell? ⟨w.heap.size, 4, none⟩ = some (.slice kA kp.length kc)) := fun u hu => cell_of hu (k := 4) (by rw [hCS]; rfl)
  obtain ⟨wb, hwb⟩ : ∃ wb, wb = w.alloc (.cells CS 38) := ⟨_, rfl⟩
  rw [← hwb] at HB
  have HXB : Hid (Ext w wb) := by rw [hwb]; exact ext_alloc _ _
  have HOK : Hid (∀ u, Ext w0 u → StpOk u ⟨5, a, b, dat, dA, dc, kp, kA, kc⟩) := fun u hu => hx.ext hu
  rw [show Stp.val ⟨5, a, b, dat, dA, dc, kp, kA, kc⟩ = .agg CS by rw [hCS]; rfl]
  have q0 := HJ0.out wb HB.out.p.2
  have q1 := HJ1.out wb HB.out.p.2
  have q2 := HJ2.out wb HB.out.p.2
  have q3 := HJ3.out wb HB.out.p.2
  have q4 := HJ4.out wb HB.out.p.2
  clear h hP hx hlen hCS
  try clear hk
  obtain ⟨x, hx⟩ : ∃ x, x = crashN F kp := ⟨_, rfl⟩
  have HXE := Lib.hid hx
  obtain ⟨F', hF'⟩ : ∃ F', F' = iff0 x (F.map (crashed kp)) F := ⟨_, rfl⟩
  have HFE := Lib.hid hF'
  have hst : stepF room ⟨5, a, b, dat, dA, dc, kp, kA, kc⟩ F = F' := by rw [hF', hx]; simp [stepF]
  rw [hst]
  clear hst hx hF'
  go_enter Try.func15, Try.ntmps15
  go_upto_region 1 with (fail)
  rw [← hwb]
  clear hwb
  have HCR := Lib.hid (crash_live HB.out.live (c := kc) (HOK.out wb HB.out.base).keep rfl HXE.out)
  have HT := Lib.hid HB.out.tie
  go_wp2_with fail
  refine HCR.out.mono ?_
  rintro e w1 (⟨hx0, rfl, hl1⟩ | ⟨hx0, d', rfl, hl1⟩)
  · have HL1 := Lib.hid hl1
    have HX0 := Lib.hid hx0
    have p4 := HJ4.out w1 HL1.out.here.2.2.2
    have HC2 := Lib.hid (crash_ref HL1.out HT.out HL1.out.here.2.1.size (c := kc) (HOK.out w1 HL1.out.here.2.1).keep rfl HXE.out)
    clear hl1 hx0 q0 q1 q2 q3 q4
    go_wp2_with fail
    refine HC2.out.mono ?_
    rintro e w2 (⟨_, rfl, hl2⟩ | ⟨hx0, _⟩)
    rotate_left
    · exact absurd hx0 HX0.out
    have HBO : Hid (Bo w0 d r room F G L (fun u => P u ∧ u.heap[w.heap.size]? = some (.cells CS 38 (0, 0))) w2) := ⟨hl2, HT.out⟩
    have HFF : Hid (F' = F) := by rw [HFE.out]; exact iff0_ne HX0.out _ _
    have hxx : (x != x) = false := by simp
    clear hl2 p4
    go_wp2_with fail
    refine (num_any _ _).mono ?_
    rintro e w3 ⟨rfl, hw⟩
    subst hw
    go_wp2_with fail
    try simp only [Exit.inBlock, Exit.then]
    refine bodyPost_ret (results_tmp3 rfl _ _ _) rfl ?_
    exact ⟨d, r, G, rfl, by rw [HFF.out]; exact HBO.out.imp (fun u h => h.1), .inl rfl⟩
  · have HL1 := Lib.hid hl1
    subst hx0
    have p4 := HJ4.out w1 HL1.out.here.2.2.2
    have HSZ : Hid (w.heap.size ≤ w1.heap.size) := Nat.le_of_lt (Array.getElem?_eq_some_iff.1 HL1.out.here.2.2.2).1
    have HC2 := Lib.hid (crash_ref HL1.out HT.out HL1.out.here.2.1.size (c := kc) (HOK.out w1 HL1.out.here.2.1).keep rfl HXE.out)
    clear hl1 q0 q1 q2 q3 q4
    go_wp2_with fail
    refine HC2.out.mono ?_
    rintro e w2 (⟨hx0, _⟩ | ⟨_, r', G', rfl, hr', hl2, ht2⟩)
    · exact absurd rfl hx0
    have HBO : Hid (Bo w0 d' r' room F' G' L P w2) := by
      rw [show F' = F.map (crashed kp) from HFE.out]
      exact ⟨hl2.swap.drop.imp fun u hu => ⟨hu.1, hu.2.2.1, hu.2.2.2.1⟩, ht2⟩
    have HR := Lib.hid hr'
    clear hl2 ht2 hr' p4
    go_wp2_with fail
    refine (num_any _ _).mono ?_
    rintro e w3 ⟨rfl, hw⟩
    subst hw
    go_wp2_with fail
    try simp only [Exit.inBlock, Exit.then]
    refine bodyPost_ret (results_tmp3 rfl _ _ _) rfl ?_
    exact ⟨d', r', G', rfl, HBO.out, .inr (Nat.le_trans HSZ.out HR.out)⟩

set_option maxRecDepth 100000 in
set_option maxHeartbeats 16000000 in
theorem do6_any {w0 w : World} {d r room : Nat} {F : List Fl} {G : List RFl} {L : List Dk} {P : World → Prop} (h : Bo w0 d r room F G L P w) (hP : Stab r P) {x : Stp} (hx : StpOk w0 x) (hlen : x.dat.length ≤ 300000) (hk : x.kind = 6) :
    Calls Try.prog 15 #[.pointer (some ⟨d, 0, none⟩), .pointer (some ⟨r, 0, none⟩), x.val] w (DoThen w0 r room (F) L P w.heap.size) := by
  obtain ⟨kd, a, b, dat, dA, dc, kp, kA, kc⟩ := x
  obtain rfl : kd = 6 := hk
  obtain ⟨CS, hCS⟩ : ∃ CS, CS = (#[.int .i64 6, .string a, .string b, .slice dA dat.length dc, .slice kA kp.length kc] : Array Value) := ⟨_, rfl⟩
  have HB := Lib.hid (h.boxed CS 38)
  have HSB : Hid (Stab r (fun u => P u ∧ u.heap[w.heap.size]? = some (.cells CS 38 (0, 0)))) := hP.and (Stab.cells (by decide))
  have HXO := Lib.hid hx
  have HLE : Hid (dat.length ≤ 300000) := hlen
  have HA : Hid (a.size ≤ maxLen) := hx.a
  have HBS : Hid (b.size ≤ maxLen) := hx.b
  have HJ0 : Hid (∀ u : World, u.heap[w.heap.size]? = some (.cells CS 38 (0, 0)) → u.cell? ⟨w.heap.size, 0, none⟩ = some (.int .i64 6)) := fun u hu => cell_of hu (k := 0) (by rw [hCS]; rfl)
  have HJ1 : Hid (∀ u : World, u.heap[w.heap.size]? = some (.cells CS 38 (0, 0)) → u.cell? ⟨w.heap.size, 1, none⟩ = some (.string a)) := fun u hu => cell_of hu (k := 1) (by rw [hCS]; rfl)
  have HJ2 : Hid (∀ u : World, u.heap[w.heap.size]? = some (.cells CS 38 (0, 0)) → u.cell? ⟨w.heap.size, 2, none⟩ = some (.string b)) := fun u hu => cell_of hu (k := 2) (by rw [hCS]; rfl)
  have HJ3 : Hid (∀ u : World, u.heap[w.heap.size]? = some (.cells CS 38 (0, 0)) → u.cell? ⟨w.heap.size, 3, none⟩ = some (.slice dA dat.length dc)) := fun u hu => cell_of hu (k := 3) (by rw [hCS]; rfl)
  have HJ4 : Hid (∀ u : World, u.heap[w.heap.size]? = some (.cells CS 38 (0, 0)) → u.cell? ⟨w.heap.size, 4, none⟩ = some (.slice kA kp.length kc)) := fun u hu => cell_of hu (k := 4) (by rw [hCS]; rfl)
  obtain ⟨wb, hwb⟩ : ∃ wb, wb = w.alloc (.cells CS 38) := ⟨_, rfl⟩
  rw [← hwb] at HB
  have HXB : Hid (Ext w wb) := by rw [hwb]; exact ext_alloc _ _
  have HOK : Hid (∀ u, Ext w0 u → StpOk u ⟨6, a, b, dat, dA, dc, kp, kA, kc⟩) := fun u hu => hx.ext hu
  rw [show Stp.val ⟨6, a, b, dat, dA, dc, kp, kA, kc⟩ = .agg CS by rw [hCS]; rfl]
  have q0 := HJ0.out wb HB.out.p.2
  have q1 := HJ1.out wb HB.out.p.2
  have q2 := HJ2.out wb HB.out.p.2
  have q3 := HJ3.out wb HB.out.p.2
  have q4 := HJ4.out wb HB.out.p.2
  clear h hP hx hlen hCS
  try clear hk
  go_enter Try.func15, Try.ntmps15
  go_upto_region 1 with (fail)
  rw [← hwb]
  clear hwb
  go_wp2_with fail
  refine (copy_live HB.out.live).mono ?_
  rintro e w1 ⟨d', rfl, hl1⟩
  have HL1 := Lib.hid hl1
  have HT := Lib.hid HB.out.tie
  have HSZ : Hid (w.heap.size ≤ w1.heap.size) := Nat.le_of_lt (Array.getElem?_eq_some_iff.1 HL1.out.here.2.2.2).1
  clear hl1 q0 q1 q2 q3 q4
  go_wp2_with fail
  refine (copy_ref HL1.out HL1.out.here.2.1.size).mono ?_
  rintro e w2 ⟨r', rfl, hr', hl2⟩
  have HL2 := Lib.hid hl2.swap
  have HR := Lib.hid hr'
  clear hl2 hr'
  go_wp2_with fail
  refine (copy_live HL2.out).mono ?_
  rintro e w3 ⟨d'', rfl, hl3⟩
  have HBO : Hid (Bo w0 d' r' room F G L P w3) := ⟨hl3.drop.drop.imp fun u hu => ⟨hu.1, hu.2.2.1, hu.2.2.2.1⟩, HT.out⟩
  clear hl3
  go_wp2_with fail
  try simp only [Exit.inBlock, Exit.then]
  refine bodyPost_ret (results_tmp3 rfl _ _ _) rfl ?_
  exact ⟨d', r', G, rfl, HBO.out, .inr (Nat.le_trans HSZ.out HR.out)⟩

set_option maxRecDepth 100000 in
set_option maxHeartbeats 16000000 in
theorem do0_any {w0 w : World} {d r room : Nat} {F : List Fl} {G : List RFl} {L : List Dk} {P : World → Prop} (h : Bo w0 d r room F G L P w) (hP : Stab r P) {x : Stp} (hx : StpOk w0 x) (hlen : x.dat.length ≤ 300000) (hk : x.kind ≠ 1 ∧ x.kind ≠ 2 ∧ x.kind ≠ 3 ∧ x.kind ≠ 4 ∧ x.kind ≠ 5 ∧ x.kind ≠ 6) :
    Calls Try.prog 15 #[.pointer (some ⟨d, 0, none⟩), .pointer (some ⟨r, 0, none⟩), x.val] w (DoThen w0 r room (F) L P w.heap.size) := by
  obtain ⟨kd, a, b, dat, dA, dc, kp, kA, kc⟩ := x
  obtain ⟨CS, hCS⟩ : ∃ CS, CS = (#[.int .i64 kd, .string a, .string b, .slice dA dat.length dc, .slice kA kp.length kc] : Array Value) := ⟨_, rfl⟩
  have HB := Lib.hid (h.boxed CS 38)
  have HSB : Hid (Stab r (fun u => P u ∧ u.heap[w.heap.size]? = some (.cells CS 38 (0, 0)))) := hP.and (Stab.cells (by decide))
  have HXO := Lib.hid hx
  have HLE : Hid (dat.length ≤ 300000) := hlen
  have HA : Hid (a.size ≤ maxLen) := hx.a
  have HBS : Hid (b.size ≤ maxLen) := hx.b
  have HJ0 : Hid (∀ u : World, u.heap[w.heap.size]? = some (.cells CS 38 (0, 0)) → u.cell? ⟨w.heap.size, 0, none⟩ = some (.int .i64 kd)) := fun u hu => cell_of hu (k := 0) (by rw [hCS]; rfl)
  have HJ1 : Hid (∀ u : World, u.heap[w.heap.size]? = some (.cells CS 38 (0, 0)) → u.cell? ⟨w.heap.size, 1, none⟩ = some (.string a)) := fun u hu => cell_of hu (k := 1) (by rw [hCS]; rfl)
  have HJ2 : Hid (∀ u : World, u.heap[w.heap.size]? = some (.cells CS 38 (0, 0)) → u.cell? ⟨w.heap.size, 2, none⟩ = some (.string b)) := fun u hu => cell_of hu (k := 2) (by rw [hCS]; rfl)
  have HJ3 : Hid (∀ u : World, u.heap[w.heap.size]? = some (.cells CS 38 (0, 0)) → u.cell? ⟨w.heap.size, 3, none⟩ = some (.slice dA dat.length dc)) := fun u hu => cell_of hu (k := 3) (by rw [hCS]; rfl)
  have HJ4 : Hid (∀ u : World, u.heap[w.heap.size]? = some (.cells CS 38 (0, 0)) → u.cell? ⟨w.heap.size, 4, none⟩ = some (.slice kA kp.length kc)) := fun u hu => cell_of hu (k := 4) (by rw [hCS]; rfl)
  obtain ⟨wb, hwb⟩ : ∃ wb, wb = w.alloc (.cells CS 38) := ⟨_, rfl⟩
  rw [← hwb] at HB
  have HXB : Hid (Ext w wb) := by rw [hwb]; exact ext_alloc _ _
  have HOK : Hid (∀ u, Ext w0 u → StpOk u ⟨kd, a, b, dat, dA, dc, kp, kA, kc⟩) := fun u hu => hx.ext hu
  rw [show Stp.val ⟨kd, a, b, dat, dA, dc, kp, kA, kc⟩ = .agg CS by rw [hCS]; rfl]
  have q0 := HJ0.out wb HB.out.p.2
  have q1 := HJ1.out wb HB.out.p.2
  have q2 := HJ2.out wb HB.out.p.2
  have q3 := HJ3.out wb HB.out.p.2
  have q4 := HJ4.out wb HB.out.p.2
  have z1 : (kd == 1) = false := by simpa using hk.1
  have z2 : (kd == 2) = false := by simpa using hk.2.1
  have z3 : (kd == 3) = false := by simpa using hk.2.2.1
  have z4 : (kd == 4) = false := by simpa using hk.2.2.2.1
  have z5 : (kd == 5) = false := by simpa using hk.2.2.2.2.1
  have z6 : (kd == 6) = false := by simpa using hk.2.2.2.2.2
  clear h hP hx hlen hCS
  try clear hk
  go_enter Try.func15, Try.ntmps15
  go_upto_region 1 with (fail)
  rw [← hwb]
  clear hwb
  go_wp2_with fail
  try simp only [Exit.inBlock, Exit.then]
  refine bodyPost_ret (results_tmp3 rfl _ _ _) rfl ?_
  exact ⟨d, r, G, rfl, HB.out.imp (fun u h => h.1), .inl rfl⟩

theorem own_map {B : Nat} {l : List Nat} {g n c : Nat} {u : World} (h : Own B l (.slice (some ⟨g, 0, none⟩) n c) u) : u.heap[g]? ≠ some (.map #[] 0) := fun e => by
  obtain ⟨cur, h1⟩ := row_not h (k := g) rfl
  rw [e] at h1
  injection h1 with h1
  cases h1

set_option maxRecDepth 100000 in
set_option maxHeartbeats 16000000 in
theorem do1_any {w0 w : World} {d r room : Nat} {F : List Fl} {G : List RFl} {L : List Dk} {P : World → Prop} (h : Bo w0 d r room F G L P w) (hP : Stab r P) {x : Stp} (hx : StpOk w0 x) (hlen : x.dat.length ≤ 300000) (hk : x.kind = 1) :
    Calls Try.prog 15 #[.pointer (some ⟨d, 0, none⟩), .pointer (some ⟨r, 0, none⟩), x.val] w (DoThen w0 r room (stepF room x F) L P w.heap.size) := by
  obtain ⟨kd, a, b, dat, dA, dc, kp, kA, kc⟩ := x
  obtain rfl : kd = 1 := hk
  obtain ⟨CS, hCS⟩ : ∃ CS, CS = (#[.int .i64 1, .string a, .string b, .slice dA dat.length dc, .slice kA kp.length kc] : Array Value) := ⟨_, rfl⟩
  have HB := Lib.hid (h.boxed CS 38)
  have HSB : Hid (Stab r (fun u => P u ∧ u.heap[w.heap.size]? = some (.cells CS 38 (0, 0)))) := hP.and (Stab.cells (by decide))
  have HXO := Lib.hid hx
  have HLE : Hid (dat.length ≤ 300000) := hlen
  have HA : Hid (a.size ≤ maxLen) := hx.a
  have HBS : Hid (b.size ≤ maxLen) := hx.b
  have HJ0 : Hid (∀ u : World, u.heap[w.heap.size]? = some (.cells CS 38 (0, 0)) → u.cell? ⟨w.heap.size, 0, none⟩ = some (.int .i64 1)) := fun u hu => cell_of hu (k := 0) (by rw [hCS]; rfl)
  have HJ1 : Hid (∀ u : World, u.heap[w.heap.size]? = some (.cells CS 38 (0, 0)) → u.cell? ⟨w.heap.size, 1, none⟩ = some (.string a)) := fun u hu => cell_of hu (k := 1) (by rw [hCS]; rfl)
  have HJ2 : Hid (∀ u : World, u.heap[w.heap.size]? = some (.cells CS 38 (0, 0)) → u.cell? ⟨w.heap.size, 2, none⟩ = some (.string b)) := fun u hu => cell_of hu (k := 2) (by rw [hCS]; rfl)
  have HJ3 : Hid (∀ u : World, u.heap[w.heap.size]? = some (.cells CS 38 (0, 0)) → u.cell? ⟨w.heap.size, 3, none⟩ = some (.slice dA dat.length dc)) := fun u hu => cell_of hu (k := 3) (by rw [hCS]; rfl)
  have HJ4 : Hid (∀ u : World, u.heap[w.heap.size]? = some (.cells CS 38 (0, 0)) → u.cell? ⟨w.heap.size, 4, none⟩ = some (.slice kA kp.length kc)) := fun u hu => cell_of hu (k := 4) (by rw [hCS]; rfl)
  obtain ⟨wb, hwb⟩ : ∃ wb, wb = w.alloc (.cells CS 38) := ⟨_, rfl⟩
  rw [← hwb] at HB
  have HXB : Hid (Ext w wb) := by rw [hwb]; exact ext_alloc _ _
  have HOK : Hid (∀ u, Ext w0 u → StpOk u ⟨1, a, b, dat, dA, dc, kp, kA, kc⟩) := fun u hu => hx.ext hu
  rw [show Stp.val ⟨1, a, b, dat, dA, dc, kp, kA, kc⟩ = .agg CS by rw [hCS]; rfl]
  have q0 := HJ0.out wb HB.out.p.2
  have q1 := HJ1.out wb HB.out.p.2
  have q2 := HJ2.out wb HB.out.p.2
  have q3 := HJ3.out wb HB.out.p.2
  have q4 := HJ4.out wb HB.out.p.2
  clear h hP hx hlen hCS
  try clear hk
  obtain ⟨x, hx⟩ : ∃ x, x = appN F room dat.length a.data.toList := ⟨_, rfl⟩
  have HXE := Lib.hid hx
  obtain ⟨F', hF'⟩ : ∃ F', F' = iff0 x (app F a.data.toList (nat8 dat)) F := ⟨_, rfl⟩
  have HFE := Lib.hid hF'
  have hst : stepF room ⟨1, a, b, dat, dA, dc, kp, kA, kc⟩ F = F' := by rw [hF', hx]; simp [stepF]
  rw [hst]
  clear hst hx hF'
  go_enter Try.func15, Try.ntmps15
  go_upto_region 1 with (fail)
  rw [← hwb]
  clear hwb
  have HNU := Lib.hid HB.out.nums
  have HT := Lib.hid HB.out.tie
  have HLE2 := Lib.hid HB.out.le
  have HDP := Lib.hid HB.out.live.deep
  have HDT : Hid (Bs wb 0 wb.heap.size (.slice dA dat.length dc) (nat8 dat)) := (HOK.out wb HB.out.base).dat
  have hmI : (dat.length : Int) ≤ 300000 := by have := HLE.out; omega
  go_wp2_with (at_builtin; refine wpList_addbytes rfl (.const (.slice none 0 0)) (.tmp 21) rfl wb.heap.size _ [] rfl (Own.nil _ _) 0 wb.heap.size _ (nat8 dat) rfl HDT.out (by have := HLE.out; rw [nat8_len]; simp; omega) (Nat.le_refl _) ?_)
  intro A1 c1 w1 ho hb
  try simp only [nat8_len] at ho ⊢
  have HX1 : Hid (Ext wb w1) := hb wb (Below.refl _ _)
  have HO1 : Hid (Own wb.heap.size (nat8 dat) (.slice A1 dat.length c1) w1) := ho
  have HL1 : Hid (Lives w0.heap.size ((d, room, F) :: L) (fun u => Deep wb.heap.size (fun u => RD u w0.heap.size r room G ∧ (Ext w0 u ∧ (fun u => P u ∧ u.heap[w.heap.size]? = some (.cells CS 38 (0, 0))) u)) u ∧ ∃ l : List Nat, l.length = dat.length ∧ (∀ y ∈ l, y < 256) ∧ Own wb.heap.size l (.slice A1 dat.length c1) u) w1) := (HDP.out.add (Q := fun u => Own wb.heap.size (nat8 dat) (.slice A1 dat.length c1) u) HX1.out (fun w'' hk _ => HO1.out.kept fun g hg => hk g (HO1.out.lt hg).1 (HO1.out.lt hg).2)).imp fun u hu => ⟨hu.1, nat8 dat, nat8_len _, nat8_lt _, hu.2⟩
  have p1 := HJ1.out w1 HL1.out.here.1.here.2.2.2
  have HAL := Lib.hid (append_live HL1.out HA.out (vb := .slice A1 dat.length c1) HO1.out.bs (Nat.le_refl _) (nat8_lt dat) (by rw [nat8_len]; exact HXE.out) HFE.out)
  clear ho hb q0 q1 q2 q3 q4
  go_wp2_with fail
  refine HAL.out.mono ?_
  rintro e w2 ⟨rfl, hl2⟩
  have HL2 := Lib.hid hl2
  clear hl2 p1 HAL
  go_wp2_with fail
  refine (num_any _ _).mono ?_
  rintro e w3 ⟨rfl, hw⟩
  subst hw
  go_wp2_with fail
  go_loopw [11] (fun i wr => ∃ j : Nat, j ≤ dat.length ∧ i = .int .i64 (j : Int) ∧ Hid (Lives w0.heap.size ((d, room, F') :: L) (fun u => Deep wb.heap.size (fun u => RD u w0.heap.size r room G ∧ (Ext w0 u ∧ (fun u => P u ∧ u.heap[w.heap.size]? = some (.cells CS 38 (0, 0))) u)) u ∧ ∃ l : List Nat, l.length = dat.length ∧ (∀ y ∈ l, y < 256) ∧ Own wb.heap.size l (.slice A1 dat.length c1) u) wr)) (fun i _ => dat.length - (intOf i).toNat)
  case atStart => exact ⟨0, Nat.zero_le _, rfl, HL2⟩
  case round =>
    clear HL2 HL1
    obtain ⟨j, hj, rfl, HL⟩ := hrel
    by_cases hlt : j < dat.length
    · obtain ⟨_, l, hl, hl8, hown⟩ := HL.out.here
      obtain ⟨gb, cb, e, hgb, hgs, hlc⟩ := hown.block (by omega)
      injection e with e1 e2 e3
      subst e1 e3
      have hjl : j < l.length := by omega
      have hcell := hown.cell hjl
      have hfree := hown.free j
      obtain ⟨y, hy⟩ : ∃ y : Nat, y = l[j]'hjl := ⟨_, rfl⟩
      rw [← hy] at hcell
      have hy8 : y < 256 := by rw [hy]; exact hl8 _ (List.getElem_mem _)
      have hxr : bits .xor .u8 (y : Int) 1 = ((y ^^^ 1 : Nat) : Int) := u8_xor_nat y 1 hy8 (by omega)
      have HXL : Hid (y ^^^ 1 < 256) := Nat.xor_lt_two_pow (n := 8) hy8 (by omega)
      have HN : Hid (Lives w0.heap.size ((d, room, F') :: L) (fun u => Deep wb.heap.size (fun u => RD u w0.heap.size r room G ∧ (Ext w0 u ∧ (fun u => P u ∧ u.heap[w.heap.size]? = some (.cells CS 38 (0, 0))) u)) u ∧ ∃ l : List Nat, l.length = dat.length ∧ (∀ y ∈ l, y < 256) ∧ Own wb.heap.size l (.slice (some ⟨gb, 0, none⟩) dat.length c1) u) (wr.setCell ⟨gb, j, none⟩ (.int .u8 ((y ^^^ 1 : Nat) : Int)))) := by
        have hset := hown.set j (y ^^^ 1)
        refine HL.out.chg gb hgs (fun u hu => by obtain ⟨_, l1, _, _, h4⟩ := hu; exact own_map h4) (Chg.setCell (S := fun i => i = gb) _ _ _ rfl) fun u u' hu hc hb => ?_
        refine ⟨hu.1.chg hc fun q hq => by rw [hq]; exact hgb, l.set j (y ^^^ 1), by rw [List.length_set]; exact hl, fun q hq => ?_, hset.kept fun g hg => ?_⟩
        · rcases List.mem_or_eq_of_mem_set hq with h | h
          · exact hl8 q h
          · rw [h]; exact HXL.out
        · have hg2 : some gb = some g := hg
          injection hg2 with hg2
          rw [← hg2]
          exact hb
      have e1 : decide ((j : Int) < (dat.length : Int)) = true := decide_eq_true (by omega)
      have e1n : decide (j < dat.length) = true := decide_eq_true hlt
      have n1 : (0 : Int) ≤ (j : Int) := by omega
      have n2 : (j : Int) < (dat.length : Int) := by omega
      have HLT := Lib.hid hlt
      clear hl hl8 hown hgb hgs hlc hjl hy hy8 e2 HL hlt
      go_wp2_with fail
      go_roundw
      case rel => exact ⟨j + 1, by have := HLT.out; omega, by go_num, HN⟩
      case measure => have := HLT.out; simp [intOf]; omega
    · have e1 : decide ((j : Int) < (dat.length : Int)) = false := decide_eq_false (by omega)
      have e1n : decide (j < dat.length) = false := decide_eq_false hlt
      have HM : Hid (Mid w0 d r room F' F G L (fun u => P u ∧ u.heap[w.heap.size]? = some (.cells CS 38 (0, 0))) wr) := ⟨HL.out.imp fun u hu => hu.1.here, HT.out, HLE2.out⟩
      have p1 := HJ1.out wr HM.out.p.2.2
      have p3 := HJ3.out wr HM.out.p.2.2
      have HEN := Lib.hid (append_end HM.out HFE.out HNU.out.2 HA.out (HOK.out wr HM.out.p.1).dat (Nat.le_refl _) (M := dat.length) rfl (by have := HLE.out; omega) HXE.out HSB.out)
      have hxx : (x == x) = true := by simp
      go_wp2_with fail
      refine HEN.out.mono ?_
      rintro e w4 ⟨rfl, G', hbo⟩
      have HBO := Lib.hid hbo
      clear hbo p1 p3
      go_wp2_with fail
      try simp only [Exit.inBlock, Exit.then]
      refine bodyPost_ret (results_tmp3 rfl _ _ _) rfl ?_
      exact ⟨d, r, G', rfl, HBO.out.imp (fun u h => h.1), .inl rfl⟩

/-- A step of both disks. -/
theorem do_any {w0 w : World} {d r room : Nat} {F : List Fl} {G : List RFl} {L : List Dk} {P : World → Prop} (h : Bo w0 d r room F G L P w) (hP : Stab r P) {x : Stp} (hx : StpOk w0 x) (hlen : x.dat.length ≤ 300000) :
    Calls Try.prog 15 #[.pointer (some ⟨d, 0, none⟩), .pointer (some ⟨r, 0, none⟩), x.val] w (DoThen w0 r room (stepF room x F) L P w.heap.size) := by
  by_cases h1 : x.kind = 1
  · exact do1_any h hP hx hlen h1
  by_cases h2 : x.kind = 2
  · exact do2_any h hP hx hlen h2
  by_cases h3 : x.kind = 3
  · exact do3_any h hP hx hlen h3
  by_cases h4 : x.kind = 4
  · exact do4_any h hP hx hlen h4
  by_cases h5 : x.kind = 5
  · exact do5_any h hP hx hlen h5
  have e : stepF room x F = F := by unfold stepF; rw [if_neg h1, if_neg h2, if_neg h3, if_neg h4, if_neg h5]
  rw [e]
  by_cases h6 : x.kind = 6
  · exact do6_any h hP hx hlen h6
  · exact do0_any h hP hx hlen ⟨h1, h2, h3, h4, h5, h6⟩
end Go.Proofs.Ytenhfphgobalfaa

/- The law's made: disks behind steps. -/
namespace Go.Proofs.Ytenhfphgobalfaa
open Go.RowKit Go.Maps
attribute [local go_sem] Oper.semAt_some

theorem Stp.val_is (x : Stp) : x.val = .agg #[.int .i64 x.kind, .string x.a, .string x.b, .slice x.dA x.dat.length x.dc, .slice x.kA x.keep.length x.kc] := rfl
/-- A step, on the way to the law's do. -/
theorem do_at {w0 w : World} {d r room : Nat} {F : List Fl} {G : List RFl} {L : List Dk} {P : World → Prop} (h : Bo w0 d r room F G L P w) (hP : Stab r P) {x : Stp} (hx : StpOk w0 x) (hlen : x.dat.length ≤ 300000) :
    Calls Try.prog 15 #[.pointer (some ⟨d, 0, none⟩), .pointer (some ⟨r, 0, none⟩), .agg #[.int .i64 x.kind, .string x.a, .string x.b, .slice x.dA x.dat.length x.dc, .slice x.kA x.keep.length x.kc]] w (DoThen w0 r room (stepF room x F) L P w.heap.size) := by
  have h1 := do_any h hP hx hlen
  rw [Stp.val_is] at h1
  exact h1
theorem made_bad {A : Option Addr} {N c : Nat} {x : Int} (h1 : -9223372036854775808 ≤ x) (h2 : x ≤ 9223372036854775807) (h : x < 1024 ∨ 1048576 < x) (w : World) :
    Calls Try.prog 17 #[.int .i64 x, .slice A N c] w fun e w' => e = .returned (.tuple #[.pointer none, .pointer none]) ∧ Ext w w' := by
  have HN := Lib.hid (new_no h1 h2 h w)
  have HR := Lib.hid (newRef_no x w ⟨h1, h2⟩ h)
  clear h1 h2 h
  go_enter Try.func17, Try.ntmps17
  go_wp2_with fail
  refine HN.out.mono ?_
  rintro e w1 ⟨rfl, hw⟩
  subst hw
  go_wp2_with fail
  refine HR.out.mono ?_
  rintro e w1 ⟨rfl, hw⟩
  subst hw
  go_wp2_with fail
  try simp only [Exit.inBlock, Exit.then]
  refine bodyPost_ret (results_tmp2 rfl _ _ _) rfl ?_
  exact ⟨rfl, Ext.refl _⟩

set_option maxRecDepth 100000 in
set_option maxHeartbeats 8000000 in
theorem made_yes {w : World} {A : Option Addr} {c : Nat} {X : List Stp} (h : Stps w A X) (hlen : X.length ≤ 1000) (hd : ∀ x ∈ X, x.dat.length ≤ 300000) {room : Nat} (h1 : 1024 ≤ room) (h2 : room ≤ 1048576) :
    Calls Try.prog 17 #[.int .i64 (room : Int), .slice A X.length c] w fun e w' => ∃ d r F G, e = .returned (.tuple #[.pointer (some ⟨d, 0, none⟩), .pointer (some ⟨r, 0, none⟩)]) ∧ Bo w d r room F G [] (fun _ => True) w' := by
  have HE := Lib.hid h
  have HDL := Lib.hid hd
  have HNY := Lib.hid (new_yes h1 h2 w)
  have HRY := Lib.hid (fun u => newRef_yes room u ⟨h1, h2⟩)
  obtain ⟨N, hN⟩ : ∃ N, N = X.length := ⟨_, rfl⟩
  have HN := Lib.hid hN
  have hNI : (N : Int) ≤ 1000 := by omega
  rw [← hN]
  clear h hd hlen hN h1 h2
  go_enter Try.func17, Try.ntmps17
  go_wp2_with fail
  refine HNY.out.mono ?_
  rintro e w1 ⟨d, rfl, hdd, hb⟩
  have HD := Lib.hid hdd
  have HX1 : Hid (Ext w w1) := hb
  clear hdd hb
  go_wp2_with fail
  refine (HRY.out w1).mono ?_
  rintro e w2 ⟨r, rfl, hr, hx2⟩
  have HBO : Hid (Bo w d r room [] [] [] (fun _ => True) w2) := Bo.new HD.out HX1.out hr hx2
  clear hr hx2 HD HX1
  go_wp2_with fail
  refine (num_any _ _).mono ?_
  rintro e w2' ⟨rfl, hw⟩
  subst hw
  go_wp2_with fail
  go_loopw [6, 8, 9, 10, 11, 12] (fun dv rv i _ _ _ wr => ∃ (k d r : Nat) (F : List Fl) (G : List RFl), k ≤ N ∧ i = .int .i64 (k : Int) ∧ dv = .pointer (some ⟨d, 0, none⟩) ∧ rv = .pointer (some ⟨r, 0, none⟩) ∧ Hid (Bo w d r room F G [] (fun _ => True) wr)) (fun _ _ i _ _ _ _ => N - (intOf i).toNat)
  case atStart => exact ⟨0, d, r, [], [], Nat.zero_le _, rfl, rfl, rfl, HBO⟩
  case round =>
    clear HBO
    obtain ⟨k, d, r, F, G, hk, rfl, rfl, rfl, HB⟩ := hrel
    by_cases hlt : k < N
    · have e1 : decide ((k : Int) < (N : Int)) = true := decide_eq_true (by omega)
      have e1n : decide (k < N) = true := decide_eq_true hlt
      have hkX : k < X.length := by rw [← HN.out]; exact hlt
      obtain ⟨x, hx⟩ : ∃ x, x = X[k]'hkX := ⟨_, rfl⟩
      have hxm : x ∈ X := by rw [hx]; exact List.getElem_mem hkX
      obtain ⟨b, oo, rfl, hbl, hcells⟩ := HE.out.at_ k hkX
      rw [← hx] at hcells
      have c0 : wr.cell? ⟨b, oo + k * 5, none⟩ = some (.int .i64 x.kind) := ext_cell HB.out.base (hcells 0 _ rfl)
      have c1 := ext_cell HB.out.base (hcells 1 _ rfl)
      have c2 := ext_cell HB.out.base (hcells 2 _ rfl)
      have c3 := ext_cell HB.out.base (hcells 3 _ rfl)
      have c4 := ext_cell HB.out.base (hcells 4 _ rfl)
      have n1 : (0 : Int) ≤ (k : Int) := by omega
      have n2 : (k : Int) < (N : Int) := by omega
      have HDO := Lib.hid (do_at HB.out (Stab.true r) (HE.out.each x hxm) (HDL.out x hxm))
      have HLT := Lib.hid hlt
      clear hkX hx hxm hbl hcells hlt hk
      go_wp2_with fail
      refine HDO.out.mono ?_
      rintro e w3 ⟨d', r', G', rfl, hbo, _⟩
      have HB3 := Lib.hid hbo
      clear hbo c0 c1 c2 c3 c4
      go_wp2_with fail
      go_roundw
      case rel => exact ⟨k + 1, d', r', _, G', by have := HLT.out; omega, by go_num, rfl, rfl, HB3⟩
      case measure => have := HLT.out; simp [intOf]; omega
    · have e1 : decide ((k : Int) < (N : Int)) = false := decide_eq_false (by omega)
      have e1n : decide (k < N) = false := decide_eq_false hlt
      go_wp2_with fail
      try simp only [Exit.inBlock, Exit.then]
      refine bodyPost_ret (results_tmp2 rfl _ _ _) rfl ?_
      exact ⟨d, r, F, G, rfl, HB.out⟩
end Go.Proofs.Ytenhfphgobalfaa
