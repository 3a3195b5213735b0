/-
  No cell of these rows narrows 'for every input' (looked for: loops, veiled, ifaces, maps, wideKeys, modest, calm, conditions, laid).
  DERIVED. THE GIVEN ROWS OF THIS SEAT. 4 by the template 'for every input the law returns true; each argument reads behind the call as it read before'; 0 by the template 'total and deterministic' (their statements: YtlnihaeeoolkhaaTotals.lean).
  GIVEN WITH THE SEED: the statements are not yours to turn. If you find one false, say at which input.
  Laid BY PROGRAM, IN A SANDBOX (cutbox-rows.mjs): the forced cells as the released guide's own fill.sh prints them over the translation 20f36ecdd3fa39d5… (all of the seat's roots in one cut). By AI agents, Wed Nov 11 2026. No macro, syntax, notation, axiom, sorry.
-/
import Derived.Test.YtlnihaeeoolkhaaChecked
import GoSem.Claim
import GoSem.ClaimJoined
import GoSem.ClaimMapViews
import Derived.JoinedTies
import Derived.KernelRfl
namespace Go.Proofs.Ytlnihaeeoolkhaa
/- THE CELL 'sum', in the pinned program and in every row, IS THE sha256 OF THE DUMP (.gsa) THAT YtlnihaeeoolkhaaProg.lean LOADS. Nothing in Lean hashes anything: it is a label: what it is worth is what the hold of that sum in a sandbox is worth. -/
noncomputable def Try.pinned : Pinned := { name := "ytlnihaeeoolkhaa", sum := "20f36ecdd3fa39d563fba6c975e19ae3a7ff89c9e8a0de269897a8103adad078", checked := Try.checked }
namespace Rows
def none {H : Type} : Left H := { results := [], args := [] }

/-- 'hectarelaw11.MergeKeeps': WHATEVER THE INPUT: true; the input reads as it did. -/
def mergeKeepsSpec : ChangeSpec := { name := "mergeKeeps", fn := fun _ => fun
  | [d1, d2, d3, d4] => { results := [.lit (.bool true)], args := [d1, d2, d3, d4] }
  | _ => none }
def mergeKeepsRow : OpenClaim := { program := "ytlnihaeeoolkhaa", sum := "20f36ecdd3fa39d563fba6c975e19ae3a7ff89c9e8a0de269897a8103adad078", func := "hectare/hectarelaw11.MergeKeeps", spec := "mergeKeeps", inPlace := ["internal/bytealg.Compare"], unfollowed := true, recurses := true, apart := false }
def MergeKeepsSaid : Prop := mergeKeepsRow.holds Try.pinned (OpenSpec.ofChange mergeKeepsSpec)

/-- ITS FALSE NEIGHBOUR: 'it returns false'. Refute it at one input. -/
def mergeKeepsWrong : ChangeSpec := { name := "mergeKeeps", fn := fun _ => fun
  | [d1, d2, d3, d4] => { results := [.lit (.bool false)], args := [d1, d2, d3, d4] }
  | _ => none }
def MergeKeepsWrongFalsely : Prop := mergeKeepsRow.holds Try.pinned (OpenSpec.ofChange mergeKeepsWrong)

/-- 'hectarelaw11.MergeClips': WHATEVER THE INPUT: true; the input reads as it did. -/
def mergeClipsSpec : ChangeSpec := { name := "mergeClips", fn := fun _ => fun
  | [d1, d2, d3, d4] => { results := [.lit (.bool true)], args := [d1, d2, d3, d4] }
  | _ => none }
def mergeClipsRow : OpenClaim := { program := "ytlnihaeeoolkhaa", sum := "20f36ecdd3fa39d563fba6c975e19ae3a7ff89c9e8a0de269897a8103adad078", func := "hectare/hectarelaw11.MergeClips", spec := "mergeClips", inPlace := ["internal/bytealg.Compare"], unfollowed := true, recurses := true, apart := false }
def MergeClipsSaid : Prop := mergeClipsRow.holds Try.pinned (OpenSpec.ofChange mergeClipsSpec)

/-- ITS FALSE NEIGHBOUR: 'it returns false'. Refute it at one input. -/
def mergeClipsWrong : ChangeSpec := { name := "mergeClips", fn := fun _ => fun
  | [d1, d2, d3, d4] => { results := [.lit (.bool false)], args := [d1, d2, d3, d4] }
  | _ => none }
def MergeClipsWrongFalsely : Prop := mergeClipsRow.holds Try.pinned (OpenSpec.ofChange mergeClipsWrong)

/-- 'hectarelaw11.MergeRising': WHATEVER THE INPUT: true; the input reads as it did. -/
def mergeRisingSpec : ChangeSpec := { name := "mergeRising", fn := fun _ => fun
  | [d] => { results := [.lit (.bool true)], args := [d] }
  | _ => none }
def mergeRisingRow : OpenClaim := { program := "ytlnihaeeoolkhaa", sum := "20f36ecdd3fa39d563fba6c975e19ae3a7ff89c9e8a0de269897a8103adad078", func := "hectare/hectarelaw11.MergeRising", spec := "mergeRising", inPlace := ["internal/bytealg.Compare"], unfollowed := true, recurses := true, apart := false }
def MergeRisingSaid : Prop := mergeRisingRow.holds Try.pinned (OpenSpec.ofChange mergeRisingSpec)

/-- ITS FALSE NEIGHBOUR: 'it returns false'. Refute it at one input. -/
def mergeRisingWrong : ChangeSpec := { name := "mergeRising", fn := fun _ => fun
  | [d] => { results := [.lit (.bool false)], args := [d] }
  | _ => none }
def MergeRisingWrongFalsely : Prop := mergeRisingRow.holds Try.pinned (OpenSpec.ofChange mergeRisingWrong)

/-- 'hectarelaw11.MergeSame': WHATEVER THE INPUT: true; the input reads as it did. -/
def mergeSameSpec : ChangeSpec := { name := "mergeSame", fn := fun _ => fun
  | [d1, d2, d3, d4] => { results := [.lit (.bool true)], args := [d1, d2, d3, d4] }
  | _ => none }
def mergeSameRow : OpenClaim := { program := "ytlnihaeeoolkhaa", sum := "20f36ecdd3fa39d563fba6c975e19ae3a7ff89c9e8a0de269897a8103adad078", func := "hectare/hectarelaw11.MergeSame", spec := "mergeSame", inPlace := ["internal/bytealg.Compare"], unfollowed := true, recurses := true, apart := false }
def MergeSameSaid : Prop := mergeSameRow.holds Try.pinned (OpenSpec.ofChange mergeSameSpec)

/-- ITS FALSE NEIGHBOUR: 'it returns false'. Refute it at one input. -/
def mergeSameWrong : ChangeSpec := { name := "mergeSame", fn := fun _ => fun
  | [d1, d2, d3, d4] => { results := [.lit (.bool false)], args := [d1, d2, d3, d4] }
  | _ => none }
def MergeSameWrongFalsely : Prop := mergeSameRow.holds Try.pinned (OpenSpec.ofChange mergeSameWrong)

/- THE SECOND FORM. 'bulk': how many values and letters a reading holds, each counted each time it is reached (what is shared counts as often as it is met; a slice's spare places count too). A statement '..UptoSaid' is the law's where the arguments, and the package variables that the reading takes, are together of bulk at most 1048576: NARROWER than '..Said'. Prove '..Said' where nothing that the law and all that it calls make is longer than what came in: it says more and counts as full. Else prove '..UptoSaid'. A law counts once. -/
mutual
def uptoBulk {H : Type} : DataW H → Nat
  | .lit (.string bytes) => bytes.length + 1
  | .lit _ => 1
  | .nil => 1
  | .ptr d => uptoBulk d + 1
  | .slice elems spare => uptoBulkAll elems + uptoBulkAll spare + 1
  | .agg parts => uptoBulkAll parts + 1
  | .iface _ d => uptoBulk d + 1
  | .map entries => uptoBulkEntries entries + 1
  | .held _ => 1
def uptoBulkAll {H : Type} : List (DataW H) → Nat
  | [] => 0
  | d :: r => uptoBulk d + uptoBulkAll r
def uptoBulkEntries {H : Type} : List (Lit × DataW H) → Nat
  | [] => 0
  | x :: r => uptoBulkEntry x + uptoBulkEntries r
def uptoBulkEntry {H : Type} : Lit × DataW H → Nat
  | (.string bytes, d) => bytes.length + uptoBulk d + 1
  | (_, d) => uptoBulk d + 1
 end
def uptoSmall : (H : Type) → List (DataW H) → Bool := fun _ ds => decide (uptoBulkAll ds ≤ 1048576)
def OpenSpec.upto (s : _root_.Go.ChangeSpec) : _root_.Go.OpenSpec := { _root_.Go.OpenSpec.ofChange s with cond := some uptoSmall }

/-- 'hectarelaw11.MergeKeeps', WHERE WHAT IT READS IS OF BULK AT MOST 1048576: true; the input reads as it did. -/
def mergeKeepsUptoRow : OpenClaim := { program := "ytlnihaeeoolkhaa", sum := "20f36ecdd3fa39d563fba6c975e19ae3a7ff89c9e8a0de269897a8103adad078", func := "hectare/hectarelaw11.MergeKeeps", spec := "mergeKeeps", inPlace := ["internal/bytealg.Compare"], unfollowed := true, recurses := true, apart := false, narrowed := true }
def MergeKeepsUptoSaid : Prop := mergeKeepsUptoRow.holds Try.pinned (OpenSpec.upto mergeKeepsSpec)

/-- 'hectarelaw11.MergeClips', WHERE WHAT IT READS IS OF BULK AT MOST 1048576: true; the input reads as it did. -/
def mergeClipsUptoRow : OpenClaim := { program := "ytlnihaeeoolkhaa", sum := "20f36ecdd3fa39d563fba6c975e19ae3a7ff89c9e8a0de269897a8103adad078", func := "hectare/hectarelaw11.MergeClips", spec := "mergeClips", inPlace := ["internal/bytealg.Compare"], unfollowed := true, recurses := true, apart := false, narrowed := true }
def MergeClipsUptoSaid : Prop := mergeClipsUptoRow.holds Try.pinned (OpenSpec.upto mergeClipsSpec)

/-- 'hectarelaw11.MergeRising', WHERE WHAT IT READS IS OF BULK AT MOST 1048576: true; the input reads as it did. -/
def mergeRisingUptoRow : OpenClaim := { program := "ytlnihaeeoolkhaa", sum := "20f36ecdd3fa39d563fba6c975e19ae3a7ff89c9e8a0de269897a8103adad078", func := "hectare/hectarelaw11.MergeRising", spec := "mergeRising", inPlace := ["internal/bytealg.Compare"], unfollowed := true, recurses := true, apart := false, narrowed := true }
def MergeRisingUptoSaid : Prop := mergeRisingUptoRow.holds Try.pinned (OpenSpec.upto mergeRisingSpec)

/-- 'hectarelaw11.MergeSame', WHERE WHAT IT READS IS OF BULK AT MOST 1048576: true; the input reads as it did. -/
def mergeSameUptoRow : OpenClaim := { program := "ytlnihaeeoolkhaa", sum := "20f36ecdd3fa39d563fba6c975e19ae3a7ff89c9e8a0de269897a8103adad078", func := "hectare/hectarelaw11.MergeSame", spec := "mergeSame", inPlace := ["internal/bytealg.Compare"], unfollowed := true, recurses := true, apart := false, narrowed := true }
def MergeSameUptoSaid : Prop := mergeSameUptoRow.holds Try.pinned (OpenSpec.upto mergeSameSpec)

end Rows
end Go.Proofs.Ytlnihaeeoolkhaa
