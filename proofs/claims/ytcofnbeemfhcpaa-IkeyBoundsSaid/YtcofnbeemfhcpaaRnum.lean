/- The reference's writers answer the same forms. -/
import Derived.Test.YtcofnbeemfhcpaaWrow
namespace Go.Proofs.Ytcofnbeemfhcpaa
open Go.ChangeShapes Go.WideShapes Go.ChangeAt Go.RowKit

theorem wq {m : Nat} (h : U64 m) : IntKind.u64.wrap ((m : Int) / 128) = (m : Int) / 128 := by have := h.lt; rw [IntKind.wrap_u64]; omega
theorem wr128 (m : Nat) : IntKind.u64.wrap ((m : Int) % 128) = (m : Int) % 128 := by rw [IntKind.wrap_u64]; omega
theorem form_pos (n : Nat) : 0 < (form n).length := by
  by_cases h : n < 128
  · rw [form_lo h]; simp
  · rw [form_hi h]; simp

theorem drop_form (n : Nat) : ∀ (k m : Nat), k < (form n).length → (form n).drop k = form m → (form n)[k]? = some (if m < 128 then m else m % 128 + 128) ∧ (¬ m < 128 → (form n).drop (k + 1) = form (m / 128)) ∧ (m < 128 ↔ k + 1 = (form n).length) := by
  intro k m hk h
  have h0 : ((form n).drop k)[0]? = (form n)[k]? := by rw [List.getElem?_drop]; simp
  have hl : ((form n).drop k).length = (form n).length - k := by simp
  have hd : (form n).drop (k + 1) = ((form n).drop k).drop 1 := by rw [List.drop_drop]
  by_cases hm : m < 128
  · rw [h, form_lo hm] at h0 hl
    refine ⟨by rw [← h0, if_pos hm]; rfl, fun h => absurd hm h, fun _ => ?_, fun _ => hm⟩
    simp at hl; omega
  · have hp := form_pos (m / 128)
    rw [h, form_hi hm] at h0 hl hd
    refine ⟨by rw [← h0, if_neg hm]; rfl, fun _ => by rw [hd]; rfl, fun h => absurd h hm, fun h => ?_⟩
    simp at hl; omega

theorem take_set {xs : List Value} {L : List Nat} {k u : Nat} (hk : k < L.length) (hx : k < xs.length) (ht : xs.take k = bv (L.take k)) (hg : L[k]? = some u) {v : Value} (hv : v = .int .u8 (u : Int) := by rfl) :
    (xs.set k v).take (k + 1) = bv (L.take (k + 1)) := by
  subst hv
  rw [List.getElem?_eq_getElem hk] at hg
  injection hg with hg
  rw [List.take_succ_eq_append_getElem (by simpa using hx), List.take_succ_eq_append_getElem hk, bv_append, ← ht, hg, List.take_set, List.set_eq_of_length_le (by simp; omega)]
  simp [bv]

end Go.Proofs.Ytcofnbeemfhcpaa
