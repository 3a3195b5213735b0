/- wire.whole: a reading on a copy of the reader, which counts where it went through. -/
import Derived.Test.YtcofnbeemfhcpaaWnumber
namespace Go.Proofs.Ytcofnbeemfhcpaa
open Go.ChangeShapes Go.WideShapes Go.ChangeAt Go.RowKit

theorem grown_two {w w1 : World} {o1 o2 : Obj} (r : Nat) (u b : Value) (hr : r < w.heap.size) (hg : ((w.alloc o1).alloc o2).grownBy w1 (some (w.heap.size + 1))) :
    w.grownBy ((w1.setCell ⟨r, 0, none⟩ u).setCell ⟨r, 1, none⟩ b) (some r) := by
  refine ⟨hg.os, hg.tape, hg.output, ?_, fun i hi hne => ?_⟩
  · have := hg.size; simp at this; simp [World.setCell]; omega
  · have h1 := hg.block i (by simp; omega) (by intro h; injection h with h; omega)
    rw [Below.heap_setCell _ _ _ _ (by rintro rfl; exact hne rfl), Below.heap_setCell _ _ _ _ (by rintro rfl; exact hne rfl), h1, Below.heap_alloc _ _ _ (by simp; omega), Below.heap_alloc _ _ _ hi]

/-- The copy that is read, in the world in which the reading begins. -/
theorem rd_copy {w : World} {r lo hi : Nat} {l : List Nat} {v : Value} (h : Rd w r lo hi l) (h1 : RObj w r v true) :
    Rd ((w.alloc (.cells #[v, .bool true] 56)).alloc (.cells #[v, .bool true] 56)) (w.heap.size + 1) lo hi l := by
  obtain ⟨v', h2, h3⟩ := h.ex
  have e : v' = v := by
    have a := h1.c0
    rw [h2.c0] at a
    injection a
  subst e
  have ht := h.top
  refine ⟨⟨v', ?_, (h3.alloc ht _).alloc (by simp; omega) _⟩, .inr (by omega), by simp; omega, h.byt⟩
  have := RObj.new (w.alloc (.cells #[v', .bool true] 56)) v' true
  simpa using this

/-- What a reading answers: a value and what is left behind it, or an error. -/
def ReadPost (ok : Value → List Nat → Prop) (err : Value → Int → Prop) (w : World) (r lo hi : Nat) (l : List Nat) (e : Ending) (w' : World) : Prop :=
  (∃ v rest, ok v rest ∧ e = .returned (.tuple #[v, .int .i64 0]) ∧ Rd w' r lo hi rest ∧ w.grownBy w' (some r)) ∨
  (∃ v n, err v n ∧ n ≠ 0 ∧ e = .returned (.tuple #[v, .int .i64 n]) ∧ Rd w' r lo hi l ∧ w.grownBy w' (some r))

/-- A reading that may have gone on beside an error. -/
def LoosePost (ok : Value → List Nat → World → Prop) (err : Int → Prop) (w : World) (r lo hi : Nat) (e : Ending) (w' : World) : Prop :=
  (∃ v rest, ok v rest w' ∧ e = .returned (.tuple #[v, .int .i64 0]) ∧ Rd w' r lo hi rest ∧ w.grownBy w' (some r)) ∨
  (∃ v n, err n ∧ n ≠ 0 ∧ e = .returned (.tuple #[v, .int .i64 n]) ∧ w.grownBy w' (some r))

/-- The same behind whole: beside an error the zero value, and the reader as it was. -/
def WholePost (zero : Value) (ok : Value → List Nat → World → Prop) (err : Int → Prop) (w : World) (r lo hi : Nat) (l : List Nat) (e : Ending) (w' : World) : Prop :=
  (∃ v rest, ok v rest w' ∧ e = .returned (.tuple #[v, .int .i64 0]) ∧ Rd w' r lo hi rest ∧ w.grownBy w' (some r)) ∨
  (∃ n, err n ∧ n ≠ 0 ∧ e = .returned (.tuple #[zero, .int .i64 n]) ∧ Rd w' r lo hi l ∧ w.grownBy w' (some r))

/-- A property of answers that stores into readers do not touch. -/
def Holds2 (ok : Value → List Nat → World → Prop) (B : Nat) : Prop := ∀ v rest w b o u, ok v rest w → b < B → ok v rest (w.setCell ⟨b, o, none⟩ u)

set_option maxHeartbeats 1000000 in
theorem whole_u64 (ok : Value → List Nat → World → Prop) (err : Int → Prop) (r lo hi : Nat) (l : List Nat) (w : World) (h : Rd w r lo hi l) (hok : Holds2 ok w.heap.size)
    (hread : ∀ v, Rd ((w.alloc (.cells #[v, .bool true] 56)).alloc (.cells #[v, .bool true] 56)) (w.heap.size + 1) lo hi l →
      Calls Try.prog 30 #[.pointer (some ⟨w.heap.size + 1, 0, none⟩)] ((w.alloc (.cells #[v, .bool true] 56)).alloc (.cells #[v, .bool true] 56))
        (LoosePost ok err ((w.alloc (.cells #[v, .bool true] 56)).alloc (.cells #[v, .bool true] 56)) (w.heap.size + 1) lo hi)) :
    Calls Try.prog 29 #[.pointer (some ⟨r, 0, none⟩), .func (.func 30) #[] #[]] w (WholePost (.int .u64 0) ok err w r lo hi l) := by
  obtain ⟨v, h1, hB⟩ := h.ex
  have hB' := hB
  obtain ⟨A, c, rfl, hlc, hcm, hnil, hby⟩ := hB
  have HC := Lib.hid (hread _ (rd_copy h h1))
  have HO := Lib.hid hok
  have c0 := h1.c0
  have c1 := h1.c1
  have f0 := h1.f0
  have f1 := h1.f1
  have hr := h1.lt
  have H1 := Lib.hid h1
  have HR := Lib.hid h
  have HB := Lib.hid hB'
  clear h h1 hlc hcm hnil hby hread hB' hok
  go_enter Try.func29, Try.ntmps29
  go_wp2_with fail
  refine (none_open _ _ _ _ H1.out).mono ?_
  rintro e w1 ⟨rfl, rfl⟩
  go_wp2_with fail
  refine Calls.mono HC.out ?_
  rintro e w1 (⟨v1, rest, hv, rfl, hrd, hg⟩ | ⟨v1, n, hn, hn0, rfl, hg⟩)
  · have hr1 : RObj w1 r (.slice A l.length c) true := ((H1.out.alloc _).alloc _).grown hg (by intro h; injection h with h; omega)
    obtain ⟨v2, h2, hB2⟩ := hrd.ex
    have ap := HR.out.apart
    have hsz : w.heap.size < w1.heap.size := by have := hg.size; simp at this; omega
    have hfin : WholePost (.int .u64 0) ok err w r lo hi l (.returned (.tuple #[v1, .int .i64 0])) ((w1.setCell ⟨r, 0, none⟩ v2).setCell ⟨r, 1, none⟩ (.bool true)) := by
      refine .inl ⟨v1, rest, HO.out _ _ _ _ _ _ (HO.out _ _ _ _ _ _ hv hr) hr, rfl, ⟨⟨v2, (hr1.set v2).set1 true, (hB2.setCell (by simpa using ap) _).setCell (by simpa using ap) _⟩, ap, ?_, hrd.byt⟩, grown_two r v2 (.bool true) hr hg⟩
      have := HR.out.top
      simp [World.setCell]; omega
    have HF := Lib.hid hfin
    have d0 := h2.c0
    have d1 := h2.c1
    have e0 := hr1.c0
    have e1 := hr1.c1
    have g0 := hr1.f0
    have g1 := hr1.f1
    obtain ⟨A2, c2, rfl, _, _, _, _⟩ := hB2
    clear hfin hr1 hrd h2 hv
    go_wp2_with fail
    go_ret2
    exact HF.out
  · have hr1 : RObj w1 r (.slice A l.length c) true := ((H1.out.alloc _).alloc _).grown hg (by intro h; injection h with h; omega)
    have hw1 : RObj w1 w.heap.size (.slice A l.length c) true := ((RObj.new w _ _).alloc _).grown hg (by intro h; injection h with h; omega)
    have ap := HR.out.apart
    have top := HR.out.top
    have hsz : w.heap.size < w1.heap.size := by have := hg.size; simp at this; omega
    have hB1 : Bs w1 lo hi (.slice A l.length c) l := ((HB.out.alloc top _).alloc (by simp; omega) _).grown hg (by simp; omega) (fun k hk => by injection hk with hk; omega)
    have hfin : WholePost (.int .u64 0) ok err w r lo hi l (.returned (.tuple #[(.int .u64 0), .int .i64 n])) ((w1.setCell ⟨r, 0, none⟩ (.slice A l.length c)).setCell ⟨r, 1, none⟩ (.bool true)) := by
      refine .inr ⟨n, hn, hn0, rfl, ⟨⟨_, (hr1.set _).set1 true, (hB1.setCell (by simpa using ap) _).setCell (by simpa using ap) _⟩, ap, ?_, HR.out.byt⟩, grown_two r _ (.bool true) hr hg⟩
      simp [World.setCell]; omega
    have HF := Lib.hid hfin
    have d0 := hw1.c0
    have d1 := hw1.c1
    have e0 := hr1.c0
    have e1 := hr1.c1
    have g0 := hr1.f0
    have g1 := hr1.f1
    have hn0' : (n != 0) = true := by simpa using hn0
    clear hfin hr1 hw1 hB1
    go_wp2_with fail
    go_ret2
    exact HF.out

set_option maxHeartbeats 1000000 in
theorem whole_bytes (p : Nat) (ok : Value → List Nat → World → Prop) (err : Int → Prop) (r lo hi : Nat) (l : List Nat) (w : World) (h : Rd w r lo hi l) (hok : Holds2 ok w.heap.size)
    (hread : ∀ v, Rd ((w.alloc (.cells #[v, .bool true] 56)).alloc (.cells #[v, .bool true] 56)) (w.heap.size + 1) lo hi l →
      Calls Try.prog 27 #[.pointer (some ⟨w.heap.size + 1, 0, none⟩), .pointer (some ⟨p, 0, none⟩)] ((w.alloc (.cells #[v, .bool true] 56)).alloc (.cells #[v, .bool true] 56))
        (LoosePost ok err ((w.alloc (.cells #[v, .bool true] 56)).alloc (.cells #[v, .bool true] 56)) (w.heap.size + 1) lo hi)) :
    Calls Try.prog 26 #[.pointer (some ⟨r, 0, none⟩), .func (.func 27) #[] #[.pointer (some ⟨p, 0, none⟩)]] w (WholePost (.slice none 0 0) ok err w r lo hi l) := by
  obtain ⟨v, h1, hB⟩ := h.ex
  have hB' := hB
  obtain ⟨A, c, rfl, hlc, hcm, hnil, hby⟩ := hB
  have HC := Lib.hid (hread _ (rd_copy h h1))
  have HO := Lib.hid hok
  have c0 := h1.c0
  have c1 := h1.c1
  have f0 := h1.f0
  have f1 := h1.f1
  have hr := h1.lt
  have H1 := Lib.hid h1
  have HR := Lib.hid h
  have HB := Lib.hid hB'
  clear h h1 hlc hcm hnil hby hread hB' hok
  go_enter Try.func26, Try.ntmps26
  go_wp2_with fail
  refine (none_open _ _ _ _ H1.out).mono ?_
  rintro e w1 ⟨rfl, rfl⟩
  go_wp2_with fail
  refine Calls.mono HC.out ?_
  rintro e w1 (⟨v1, rest, hv, rfl, hrd, hg⟩ | ⟨v1, n, hn, hn0, rfl, hg⟩)
  · have hr1 : RObj w1 r (.slice A l.length c) true := ((H1.out.alloc _).alloc _).grown hg (by intro h; injection h with h; omega)
    obtain ⟨v2, h2, hB2⟩ := hrd.ex
    have ap := HR.out.apart
    have hsz : w.heap.size < w1.heap.size := by have := hg.size; simp at this; omega
    have hfin : WholePost (.slice none 0 0) ok err w r lo hi l (.returned (.tuple #[v1, .int .i64 0])) ((w1.setCell ⟨r, 0, none⟩ v2).setCell ⟨r, 1, none⟩ (.bool true)) := by
      refine .inl ⟨v1, rest, HO.out _ _ _ _ _ _ (HO.out _ _ _ _ _ _ hv hr) hr, rfl, ⟨⟨v2, (hr1.set v2).set1 true, (hB2.setCell (by simpa using ap) _).setCell (by simpa using ap) _⟩, ap, ?_, hrd.byt⟩, grown_two r v2 (.bool true) hr hg⟩
      have := HR.out.top
      simp [World.setCell]; omega
    have HF := Lib.hid hfin
    have d0 := h2.c0
    have d1 := h2.c1
    have e0 := hr1.c0
    have e1 := hr1.c1
    have g0 := hr1.f0
    have g1 := hr1.f1
    obtain ⟨A2, c2, rfl, _, _, _, _⟩ := hB2
    clear hfin hr1 hrd h2 hv
    go_wp2_with fail
    go_ret2
    exact HF.out
  · have hr1 : RObj w1 r (.slice A l.length c) true := ((H1.out.alloc _).alloc _).grown hg (by intro h; injection h with h; omega)
    have hw1 : RObj w1 w.heap.size (.slice A l.length c) true := ((RObj.new w _ _).alloc _).grown hg (by intro h; injection h with h; omega)
    have ap := HR.out.apart
    have top := HR.out.top
    have hsz : w.heap.size < w1.heap.size := by have := hg.size; simp at this; omega
    have hB1 : Bs w1 lo hi (.slice A l.length c) l := ((HB.out.alloc top _).alloc (by simp; omega) _).grown hg (by simp; omega) (fun k hk => by injection hk with hk; omega)
    have hfin : WholePost (.slice none 0 0) ok err w r lo hi l (.returned (.tuple #[(.slice none 0 0), .int .i64 n])) ((w1.setCell ⟨r, 0, none⟩ (.slice A l.length c)).setCell ⟨r, 1, none⟩ (.bool true)) := by
      refine .inr ⟨n, hn, hn0, rfl, ⟨⟨_, (hr1.set _).set1 true, (hB1.setCell (by simpa using ap) _).setCell (by simpa using ap) _⟩, ap, ?_, HR.out.byt⟩, grown_two r _ (.bool true) hr hg⟩
      simp [World.setCell]; omega
    have HF := Lib.hid hfin
    have d0 := hw1.c0
    have d1 := hw1.c1
    have e0 := hr1.c0
    have e1 := hr1.c1
    have g0 := hr1.f0
    have g1 := hr1.f1
    have hn0' : (n != 0) = true := by simpa using hn0
    clear hfin hr1 hw1 hB1
    go_wp2_with fail
    go_ret2
    exact HF.out

end Go.Proofs.Ytcofnbeemfhcpaa
