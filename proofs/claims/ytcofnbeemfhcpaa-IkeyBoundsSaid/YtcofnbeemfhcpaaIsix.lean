/- Six entries that may not be: the list of IkeyBounds. -/
import Derived.Test.YtcofnbeemfhcpaaItakes
import Derived.Test.YtcofnbeemfhcpaaIrise
import Derived.Test.YtcofnbeemfhcpaaIknown
import Derived.Test.YtcofnbeemfhcpaaIread
import Derived.Test.YtcofnbeemfhcpaaIlists
namespace Go.Proofs.Ytcofnbeemfhcpaa
open Go.ChangeShapes Go.WideShapes Go.ChangeAt Go.RowKit

theorem Bs.cut {w : World} {lo hi n c : Nat} {A : Option Addr} {l : List Nat} (h : Bs w lo hi (.slice A n c) l) (k : Nat) (hk : k ≤ l.length) : Bs w lo hi (.slice A k c) (l.take k) := by
  obtain ⟨A', c', e, h1, h2, h3, h4⟩ := h
  injection e with e1 e2 e3
  subst e1 e3
  refine ⟨A, c, by rw [List.length_take, Nat.min_eq_left hk], by rw [List.length_take]; omega, h2, h3, ?_⟩
  have h5 := Sl.take h4 k
  unfold By
  unfold bv at h5 ⊢
  rwa [List.map_take]

def sixL (A1 A2 : Option Addr) (k33 k32 v17 v16 : List Nat) : List (Ent × Hd) :=
  [(⟨k33, 2147483647, 1, v16⟩, ⟨A1, 33, A2, 65537⟩), (⟨k32, 2147483647, 1, v17⟩, ⟨A1, 33, A2, 65537⟩), (⟨k32, 2147483648, 1, v16⟩, ⟨A1, 33, A2, 65537⟩),
   (⟨k32, 2147483647, 3, v16⟩, ⟨A1, 33, A2, 65537⟩), (⟨[], 2147483647, 1, v16⟩, ⟨none, 0, A2, 65537⟩), (⟨k32, 0, 1, v16⟩, ⟨A1, 33, A2, 65537⟩)]

theorem six_may {A1 A2 : Option Addr} {k33 k32 v17 v16 : List Nat} (h1 : k33.length = 33) (h3 : v17.length = 65537) : ∀ p ∈ sixL A1 A2 k33 k32 v17 v16, p.1.may = false := by
  intro p hp
  unfold sixL at hp
  rw [Bool.eq_false_iff]
  intro h
  obtain ⟨m1, m2, m3, m4, m5⟩ := mayN_iff.1 h
  simp only [List.mem_cons, List.not_mem_nil, or_false] at hp
  rcases hp with rfl | rfl | rfl | rfl | rfl | rfl
  · simp only [h1] at m2; omega
  · simp only [h3] at m5; omega
  · simp at m4
  · simp at m5
  · simp at m1
  · simp at m3

theorem six_es {w : World} {g : Nat} {T : TypeId} {A1 A2 : Option Addr} {k33 k32 v17 v16 : List Nat} (h1 : k33.length = 33) (h2 : k32.length = 32) (h3 : v17.length = 65537) (h4 : v16.length = 65536)
    (b1 : Bs w 0 w.heap.size (.slice A1 33 33) k33) (b2 : Bs w 0 w.heap.size (.slice A1 32 33) k32) (b3 : Bs w 0 w.heap.size (.slice A2 65537 65537) v17) (b4 : Bs w 0 w.heap.size (.slice A2 65536 65537) v16)
    (c1 : ∀ x ∈ k33, x < 256) (c2 : ∀ x ∈ k32, x < 256) (c3 : ∀ x ∈ v17, x < 256) (c4 : ∀ x ∈ v16, x < 256)
    (hh : w.heap[g]? = some (.cells #[.slice A1 33 33, .int .i64 2147483647, .int .i64 1, .slice A2 65536 65537, .slice A1 32 33, .int .i64 2147483647, .int .i64 1, .slice A2 65537 65537,
      .slice A1 32 33, .int .i64 2147483648, .int .i64 1, .slice A2 65536 65537, .slice A1 32 33, .int .i64 2147483647, .int .i64 3, .slice A2 65536 65537,
      .slice none 0 0, .int .i64 2147483647, .int .i64 1, .slice A2 65536 65537, .slice A1 32 33, .int .i64 0, .int .i64 1, .slice A2 65536 65537] T (0, 0))) :
    Es w 0 w.heap.size (some ⟨g, 0, none⟩) (sixL A1 A2 k33 k32 v17 v16) := by
  have e33 : Value.slice A1 33 33 = .slice A1 k33.length 33 := by rw [h1]
  have e32 : Value.slice A1 32 33 = .slice A1 k32.length 33 := by rw [h2]
  have e17 : Value.slice A2 65537 65537 = .slice A2 v17.length 65537 := by rw [h3]
  have e16 : Value.slice A2 65536 65537 = .slice A2 v16.length 65537 := by rw [h4]
  refine ⟨.inr ⟨g, 0, rfl, Nat.zero_le _, (Array.getElem?_eq_some_iff.1 hh).1, fun i u hu => ?_⟩, fun p hp => ?_⟩
  · rw [Nat.zero_add]
    refine cell_of hh ?_
    rw [e33, e32, e17, e16, ← Array.getElem?_toList]
    exact hu
  · rw [e33] at b1; rw [e32] at b2; rw [e17] at b3; rw [e16] at b4
    unfold sixL at hp
    simp only [List.mem_cons, List.not_mem_nil, or_false] at hp
    rcases hp with rfl | rfl | rfl | rfl | rfl | rfl
    · exact ⟨b1, b4, c1, c4, by simp only []; decide, by simp only []; decide, by simp only []; decide, by simp only []; decide⟩
    · exact ⟨b2, b3, c2, c3, by simp only []; decide, by simp only []; decide, by simp only []; decide, by simp only []; decide⟩
    · exact ⟨b2, b4, c2, c4, by simp only []; decide, by simp only []; decide, by simp only []; decide, by simp only []; decide⟩
    · exact ⟨b2, b4, c2, c4, by simp only []; decide, by simp only []; decide, by simp only []; decide, by simp only []; decide⟩
    · exact ⟨Bs.nil _ _ _, b4, fun x hx => (by cases hx), c4, by simp only []; decide, by simp only []; decide, by simp only []; decide, by simp only []; decide⟩
    · exact ⟨b2, b4, c2, c4, by simp only []; decide, by simp only []; decide, by simp only []; decide, by simp only []; decide⟩

theorem read_yes {w : World} {lo hi : Nat} {v : Value} {e : Ent} (hv : Bs w lo hi v e.form) (hhi : hi ≤ w.heap.size) (hg : Good e) (hm : e.may = true) :
    Calls Try.prog 7 #[v] w fun x w' => ∃ g, x = .returned (.tuple #[e.at_ g, .int .i64 0]) ∧ Em w' 0 w'.heap.size e g ∧ Ext w w' := by
  refine (read_any hv hhi (Ent.form_lt hg.bk hg.bv) (by have := Ent.form_len hm; omega)).mono ?_
  rintro x w' ⟨hx, (⟨e', g, he, rfl, ho1, ho2⟩ | ⟨hn, _⟩)⟩
  · obtain rfl : e' = e := he.unique ⟨hm, rfl⟩
    exact ⟨g, rfl, Em.of_own ho1 ho2 hg, hx⟩
  · exact absurd ⟨hm, rfl⟩ (hn e)

theorem rises_is {w : World} {lo hi : Nat} {A : Option Addr} {c : Nat} {L : List (Ent × Hd)} (h : Es w lo hi A L) (hhi : hi ≤ w.heap.size) (hlen : L.length ≤ 1000000000000) (z : Bool) (hz : z = true ↔ Rise (L.map Prod.fst) ∧ (L.all fun p => p.1.may) = true) :
    Calls Try.prog 5 #[.slice A L.length c] w fun x w' => x = .returned (.bool z) ∧ Ext w w' := by
  refine (rises_any h hhi hlen).mono ?_
  rintro x w' ⟨y, hy, rfl, hx⟩
  have : y = z := by
    cases y <;> cases z
    · rfl
    · exact absurd (hy.2 (hz.1 rfl)) (by decide)
    · exact absurd (hz.2 (hy.1 rfl)) (by decide)
    · rfl
  rw [this]
  exact ⟨rfl, hx⟩
/-- One entry that may not be. -/
theorem rise_one {w : World} {p : Ent × Hd} (hm : p.1.may = false) (h : Em w 0 w.heap.size p.1 p.2) :
    Calls Try.prog 5 #[.slice (some ⟨w.heap.size, 0, none⟩) 1 1] (w.alloc (.cells #[.slice p.2.kA p.1.key.length p.2.kc, .int .i64 p.1.seq, .int .i64 p.1.kind, .slice p.2.vA p.1.val.length p.2.vc] 25)) fun x w' => x = .returned (.bool false) ∧ Ext w w' := by
  have he := es_lit w [p] (fun q hq => by rw [List.mem_singleton] at hq; subst hq; exact h)
  refine (rises_is (c := 1) he (by simp) (by simp) false ⟨fun h => (by cases h), fun h => ?_⟩).mono ?_
  · have h2 := h.2
    simp [hm] at h2
  · rintro x w' ⟨rfl, hx⟩
    exact ⟨rfl, Ext.trans (ext_alloc _ _) hx⟩
/-- Two entries. -/
theorem rise_two {w : World} {p q : Ent × Hd} (hp : Em w 0 w.heap.size p.1 p.2) (hq : Em w 0 w.heap.size q.1 q.2) (z : Bool) (hz : z = true ↔ cmpE p.1 q.1 < 0 ∧ p.1.may = true ∧ q.1.may = true) :
    Calls Try.prog 5 #[.slice (some ⟨w.heap.size, 0, none⟩) 2 2] (w.alloc (.cells #[.slice p.2.kA p.1.key.length p.2.kc, .int .i64 p.1.seq, .int .i64 p.1.kind, .slice p.2.vA p.1.val.length p.2.vc,
      .slice q.2.kA q.1.key.length q.2.kc, .int .i64 q.1.seq, .int .i64 q.1.kind, .slice q.2.vA q.1.val.length q.2.vc] 25)) fun x w' => x = .returned (.bool z) ∧ Ext w w' := by
  have he := es_lit w [p, q] (fun r hr => by
    simp only [List.mem_cons, List.not_mem_nil, or_false] at hr
    rcases hr with rfl | rfl
    · exact hp
    · exact hq)
  refine (rises_is (c := 2) he (by simp) (by simp) z (hz.trans ⟨fun h => ⟨fun j a b ha hb => ?_, by simp [h.2.1, h.2.2]⟩, fun h => ⟨h.1 0 _ _ rfl rfl, by simpa using h.2⟩⟩)).mono ?_
  · rcases j with _ | j
    · simp at ha hb
      subst ha hb
      exact h.1
    · simp at hb
  · rintro x w' ⟨rfl, hx⟩
    exact ⟨rfl, Ext.trans (ext_alloc _ _) hx⟩
theorem rise_none (w : World) : Calls Try.prog 5 #[.slice none 0 0] w fun x w' => x = .returned (.bool true) ∧ Ext w w' :=
  rises_is (L := []) (c := 0) (lo := 0) (hi := 0) ⟨Sl.nil _ _ _ _, fun p hp => by cases hp⟩ (Nat.zero_le _) (by simp) true ⟨fun _ => ⟨fun j a b ha _ => by simp at ha, rfl⟩, fun _ => rfl⟩
end Go.Proofs.Ytcofnbeemfhcpaa
