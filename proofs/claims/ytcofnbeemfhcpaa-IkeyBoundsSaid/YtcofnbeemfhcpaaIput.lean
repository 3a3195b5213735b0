/- The bytes of a list of entries: ikey's List, and the reference's. -/
import Derived.Test.YtcofnbeemfhcpaaIlists
import Derived.Test.YtcofnbeemfhcpaaIrefb
import Derived.Test.YtcofnbeemfhcpaaIbytes
namespace Go.Proofs.Ytcofnbeemfhcpaa
open Go.ChangeShapes Go.WideShapes Go.ChangeAt Go.RowKit

/-- The bytes of entries, one behind the other, each told how long. -/
def lf (es : List Ent) : List Nat := (es.map fun e => bytesForm e.form).flatten
/-- A list's bytes. -/
def lform (es : List Ent) : List Nat := form es.length ++ lf es
/-- What stands ahead of the k-th. -/
def lpre (es : List Ent) (k : Nat) : List Nat := form es.length ++ lf (es.take k)
theorem lpre_zero (es : List Ent) : lpre es 0 = form es.length := by simp [lpre, lf]
theorem lpre_all (es : List Ent) : lpre es es.length = lform es := by simp [lpre, lform]
theorem lpre_succ {es : List Ent} {k : Nat} {e : Ent} (h : es[k]? = some e) : lpre es (k + 1) = lpre es k ++ bytesForm e.form := by
  obtain ⟨hlt, rfl⟩ := List.getElem?_eq_some_iff.1 h
  unfold lpre lf
  rw [List.take_succ_eq_append_getElem hlt, List.map_append, List.flatten_append, List.append_assoc]
  simp
theorem bytesForm_le {l : List Nat} (h : l.length ≤ 65700) : (bytesForm l).length ≤ 65710 := by
  have := (bytesForm_len (l := l) ⟨by omega⟩).1; omega
theorem lpre_len {es : List Ent} (hm : ∀ e ∈ es, e.may = true) (hl : es.length ≤ 10000000) : ∀ k, k ≤ es.length → (lpre es k).length ≤ 10 + 65710 * k
  | 0, _ => by rw [lpre_zero]; have := form_len64 (n := es.length) ⟨by omega⟩; omega
  | k + 1, h => by
    have h1 := lpre_len hm hl k (by omega)
    have hk : es[k]? = some es[k] := List.getElem?_eq_getElem (by omega)
    have h2 := bytesForm_le (Ent.form_len (hm es[k] (List.getElem_mem (by omega))))
    rw [lpre_succ hk, List.length_append]; omega

/-- What List answers. -/
def ListAns (w : World) (es : List Ent) (x : Ending) (w' : World) : Prop :=
  Ext w w' ∧ ((es.length ≤ 65536 ∧ (∀ e ∈ es, e.may = true) ∧ ∃ v, x = .returned (.tuple #[v, .int .i64 0]) ∧ Own w.heap.size (lform es) v w') ∨ (¬ (es.length ≤ 65536 ∧ ∀ e ∈ es, e.may = true) ∧ x = .returned (.tuple #[.slice none 0 0, .int .i64 2])))

end Go.Proofs.Ytcofnbeemfhcpaa
