/- The readers where it is known what stands there, or that it does not. -/
import Derived.Test.YtcofnbeemfhcpaaWbytes
namespace Go.Proofs.Ytcofnbeemfhcpaa
open Go.ChangeShapes Go.WideShapes Go.ChangeAt Go.RowKit

/-- Read: this answer, these bytes left; only the reader's block has turned, beside new ones. -/
structure Gone (w : World) (r lo hi : Nat) (v : Value) (n : Int) (rest : List Nat) (e : Ending) (w' : World) : Prop where
  ans : e = .returned (.tuple #[v, .int .i64 n])
  rd : Rd w' r lo hi rest
  grown : w.grownBy w' (some r)

theorem Number_yes {r lo hi : Nat} {l : List Nat} {w : World} (h : Rd w r lo hi l) {n : Nat} {rest : List Nat} (hb : Begins l n rest) :
    Calls Try.prog 20 #[.pointer (some ⟨r, 0, none⟩)] w (Gone w r lo hi (.int .u64 (n : Int)) 0 rest) := by
  refine (Number_any r lo hi l w h).mono ?_
  rintro e w' (⟨v, rest', ⟨n', hb', rfl⟩, rfl, hr, hg⟩ | ⟨k, ⟨_, hno⟩, _⟩)
  · obtain ⟨rfl, rfl⟩ := hb'.unique hb
    exact ⟨rfl, hr, hg⟩
  · exact absurd hb (hno _ _)
theorem Number_no {r lo hi : Nat} {l : List Nat} {w : World} (h : Rd w r lo hi l) (hn : NoNum l) :
    Calls Try.prog 20 #[.pointer (some ⟨r, 0, none⟩)] w (Gone w r lo hi (.int .u64 0) 4 l) := by
  refine (Number_any r lo hi l w h).mono ?_
  rintro e w' (⟨v, rest', ⟨n', hb', rfl⟩, rfl, hr, hg⟩ | ⟨k, ⟨rfl, hno⟩, _, rfl, hr, hg⟩)
  · exact absurd hb' (hn _ _)
  · exact ⟨rfl, hr, hg⟩

theorem zz_inj {a b : Int} (h : zz a = zz b) : a = b := by
  rcases Int.lt_or_le a 0 with h1 | h1 <;> rcases Int.lt_or_le b 0 with h2 | h2
  · have := zz_neg h1; have := zz_neg h2; omega
  · have := zz_neg h1; have := zz_pos h2; omega
  · have := zz_pos h1; have := zz_neg h2; omega
  · have := zz_pos h1; have := zz_pos h2; omega

theorem flagForm_inj {a b : Bool} {r r' : List Nat} (h : flagForm a ++ r = flagForm b ++ r') : a = b ∧ r = r' := by
  cases a <;> cases b <;> simp [flagForm] at h <;> simp [h]

theorem begins_bytes {bs rest : List Nat} (h : U64 bs.length) : Begins (bytesForm bs ++ rest) bs.length (bs ++ rest) := ⟨h, by simp [bytesForm]⟩

/-- Bytes that were read: in new memory. -/
def GoneBy (w : World) (r lo hi : Nat) (bs rest : List Nat) (e : Ending) (w' : World) : Prop :=
  ∃ v, Gone w r lo hi v 0 rest e w' ∧ w'.ownsRow w.heap.size 5 1 v bs.length (bv bs)

theorem Bytes_yes {r lo hi : Nat} {l : List Nat} {w : World} (h : Rd w r lo hi l) (hl : l.length ≤ 1000000000000) {most : Int} (hm2 : most ≤ 9223372036854775807) {bs rest : List Nat} (hb : l = bytesForm bs ++ rest) (h64 : U64 bs.length) (hm : (bs.length : Int) ≤ most) :
    Calls Try.prog 19 #[.pointer (some ⟨r, 0, none⟩), .int .i64 most] w (GoneBy w r lo hi bs rest) := by
  refine (Bytes_any most (by omega) hm2 r lo hi l w h hl).mono ?_
  have hbg : Begins l bs.length (bs ++ rest) := by rw [hb]; exact begins_bytes h64
  rintro e w' (⟨v, rest', ⟨bs', h1, h2, h3, h4⟩, rfl, hr, hg⟩ | ⟨k, herr, _⟩)
  · have hbg' : Begins l bs'.length (bs' ++ rest') := by rw [h3]; exact begins_bytes h2
    obtain ⟨e1, e2⟩ := hbg'.unique hbg
    obtain ⟨rfl, rfl⟩ := List.append_inj e2 e1
    exact ⟨v, ⟨rfl, hr, hg⟩, h4⟩
  · exfalso
    rcases herr with ((⟨_, h⟩ | ⟨_, _, h⟩ | ⟨_, _, m, rest, h1, h2⟩) | ⟨_, m, rest, h1, h2, h3⟩)
    · omega
    · exact h _ _ hbg
    · obtain ⟨rfl, rfl⟩ := h1.unique hbg; omega
    · obtain ⟨rfl, rfl⟩ := h1.unique hbg; simp at h3; omega
/-- Beside an error: which one. -/
theorem Bytes_no {r lo hi : Nat} {l : List Nat} {w : World} (h : Rd w r lo hi l) (hl : l.length ≤ 1000000000000) {most : Int} (hm1 : -9223372036854775808 ≤ most) (hm2 : most ≤ 9223372036854775807) {k : Int}
    (herr : ErrText most l k) : Calls Try.prog 19 #[.pointer (some ⟨r, 0, none⟩), .int .i64 most] w (Gone w r lo hi (.slice none 0 0) k l) := by
  refine (Bytes_any most hm1 hm2 r lo hi l w h hl).mono ?_
  rintro e w' (⟨v, rest', ⟨bs', h1, h2, h3, h4⟩, rfl, hr, hg⟩ | ⟨k', herr', _, rfl, hr, hg⟩)
  · exfalso
    have hbg : Begins l bs'.length (bs' ++ rest') := by rw [h3]; exact begins_bytes h2
    rcases herr with ((⟨_, h⟩ | ⟨_, _, h⟩ | ⟨_, _, m, rest, h1, h2⟩) | ⟨_, m, rest, h1, h2, h3⟩)
    · omega
    · exact h _ _ hbg
    · obtain ⟨rfl, rfl⟩ := h1.unique hbg; omega
    · obtain ⟨rfl, rfl⟩ := h1.unique hbg; simp at h3; omega
  · have e : k' = k := by
      rcases herr with ((⟨_, h⟩ | ⟨_, _, h⟩ | ⟨_, _, m, rest, h1, h2⟩) | ⟨_, m, rest, h1, h2, h3⟩) <;>
      rcases herr' with ((⟨_, h'⟩ | ⟨_, _, h'⟩ | ⟨_, _, m', rest', h1', h2'⟩) | ⟨_, m', rest', h1', h2', h3'⟩)
      all_goals first
        | omega
        | exact absurd h1 (h' _ _)
        | exact absurd h1' (h _ _)
        | (obtain ⟨rfl, rfl⟩ := h1.unique h1'; omega)
    subst e
    exact ⟨rfl, hr, hg⟩
end Go.Proofs.Ytcofnbeemfhcpaa
