/- From a law's argument to what its walk is told: slices of bytes. -/
import Derived.Test.YtdggemdgndiafaaWknown
import Derived.ProofKit
import Derived.OpenShut
import Derived.ShutString
import Derived.ChangeOld
namespace Go.Proofs.Ytdggemdgndiafaa
open Go.ChangeShapes Go.WideShapes Go.ChangeAt Go.RowKit

theorem Bs.drew {w : World} {lo hi : Nat} {v : Value} {l : List Nat} (h : Bs w lo hi v l) : Bs w.drew lo hi v l := h
theorem Rd.drew {w : World} {r lo hi : Nat} {l : List Nat} (h : Rd w r lo hi l) : Rd w.drew r lo hi l := ⟨h.ex, h.apart, h.top, h.byt⟩

/-- 'string(b)' of bytes that read as l. -/
theorem cv {w : World} {lo hi : Nat} {A : Option Addr} {n c : Nat} {l : List Nat} (h : Bs w lo hi (.slice A n c) l) : (convert 23 9 (.slice A n c)).run Try.prog w = .ok (.string (tx l)) w := by
  obtain ⟨A', c', he, _, _, _, h4⟩ := h
  have h5 : A = A' ∧ n = l.length ∧ c = c' := by injection he with a b c; exact ⟨a, b, c⟩
  obtain ⟨rfl, rfl, rfl⟩ := h5
  exact run_text (P := Try.prog) w 23 5 Try.underlying23 Try.underlying5 h4 l.length c rfl 9 Try.underlying9

theorem own : ownKnob Try.prog.godebug = none := by kernel_rfl
theorem laidOut : laidOutB Try.prog = true := by kernel_rfl

theorem u8_wf {n : Int} (h : (Lit.int .u8 n).wf = true) : 0 ≤ n ∧ n < 256 := by
  have : 0 ≤ n ∧ n ≤ 255 := by simpa [Lit.wf, IntKind.min, IntKind.max, IntKind.signed, IntKind.bits] using h
  omega
theorem u64_wf {n : Int} (h : (Lit.int .u64 n).wf = true) : ∃ m : Nat, n = (m : Int) ∧ U64 m := by
  have h2 : 0 ≤ n ∧ n ≤ 18446744073709551615 := by simpa [Lit.wf, IntKind.min, IntKind.max, IntKind.signed, IntKind.bits] using h
  exact ⟨n.toNat, by omega, ⟨by omega⟩⟩
theorem i64_wf {n : Int} (h : (Lit.int .i64 n).wf = true) : -9223372036854775808 ≤ n ∧ n ≤ 9223372036854775807 := by
  simpa [Lit.wf, IntKind.min, IntKind.max, IntKind.signed, IntKind.bits] using h

/-- A slice of bytes that came in. -/
theorem bs_cells {W : World} {x : Addr} {len cap : Nat} {zs : List Int} (hl : len ≤ cap) (hm : cap ≤ maxLen) (hz : zs.length = cap)
    (hcell : ∀ i, i < zs.length → W.cell? (x.add i) = some (.int .u8 (zs.getD i 0))) (hwz : ∀ n ∈ zs, (Lit.int .u8 n).wf = true) :
    ∃ l : List Nat, l.length = len ∧ (∀ b ∈ l, b < 256) ∧ Bs W 0 W.heap.size (.slice (some x) len cap) l := by
  have hlen : ((zs.take len).map Int.toNat).length = len := by simp; omega
  refine ⟨(zs.take len).map Int.toNat, hlen, fun b hb => ?_, some x, cap, by rw [hlen], by rw [hlen]; exact hl, hm, (fun h => by cases h), ?_⟩
  · simp only [List.mem_map] at hb
    obtain ⟨n, hn, rfl⟩ := hb
    have := u8_wf (hwz n (List.mem_of_mem_take hn))
    omega
  · by_cases h0 : len = 0
    · subst h0
      exact .inl (by simp [bv])
    · obtain ⟨b, o, spot⟩ := x
      have hc0 := hcell 0 (by omega)
      have hspot : spot = none := by simpa [Addr.add] using World.cell?_spot hc0
      subst hspot
      refine .inr ⟨b, o, rfl, Nat.zero_le _, World.block_lt_of_cell? W ((⟨b, o, none⟩ : Addr).add 0) hc0 |> fun h => by rw [addr_add] at h; exact h, fun i u hu => ?_⟩
      have hi : i < len := by
        rcases Nat.lt_or_ge i len with h | h
        · exact h
        · rw [List.getElem?_eq_none (by rw [bv_length, hlen]; exact h)] at hu; cases hu
      have hz1 : i < zs.length := by omega
      have hw := u8_wf (hwz zs[i] (List.getElem_mem hz1))
      have h2 := hcell i hz1
      rw [addr_add] at h2
      rw [h2, ← hu]
      simp [bv, List.getD, hi, List.getElem?_eq_getElem hz1]
      omega

set_option maxRecDepth 100000 in
theorem open_bytes {H : Type} {enc : TypeId × Value → H} {W : World} {v : Value} {d : DataW H} {p : List MemPlace} {b0 : Nat}
    (hv : Value.okWide Try.prog W .any b0 23 v) (h : DataW.Trod enc Try.prog W 0 (fun _ => true) true 23 v d p) :
    ∃ l : List Nat, (∀ b ∈ l, b < 256) ∧ Bs W 0 W.heap.size v l := by
  obtain ⟨a0, len0, cap0, rfl⟩ := okWide_slice Try.underlying23 hv
  obtain ⟨fuel, hf⟩ := h
  rcases open_ints Try.underlying23 Try.underlying5 (by kernel_rfl) hf with ⟨hcs, _⟩ | ⟨x, l, c, zs, hcs, _, hl, hm, hz, _, hcell, hwz⟩
  · simp [Value.cells] at hcs
    obtain ⟨rfl, rfl, rfl⟩ := hcs
    exact ⟨[], by simp, Bs.nil _ _ _⟩
  · simp [Value.cells] at hcs
    obtain ⟨rfl, rfl, rfl⟩ := hcs
    obtain ⟨l', h1, h2, h3⟩ := bs_cells hl hm (by simpa using hz) hcell hwz
    exact ⟨l', h2, h3⟩
end Go.Proofs.Ytdggemdgndiafaa
