/-
  DERIVED. GIVEN WITH THE SEED: THE CARDS: each row of YtpfaoiickmpmjaaDoorRows.lean that lists a variable, with what it lists TIED to the program's text (the seventh form; the later family's looks); each row that meets fmt, with fmt's text TOLD by the authors' own Lean function (tested against real Go, not proved from fmt's source: count such statements apart). THE CARD IS WHAT COUNTS. Prove the row's statement (the work); the ties are given (YtpfaoiickmpmjaaDoorTie.lean); close each card by the builder's one call (the guide's Derived/Test/ToyasCard.lean, 'card_holds'). Laid BY PROGRAM, IN A SANDBOX (cutbox-door.mjs). By AI agents, Wed Nov 11 2026. No macro, syntax, notation, axiom, sorry.
-/
import Derived.Test.YtpfaoiickmpmjaaDoorRows
import GoSem.ClaimSeven
namespace Go.Proofs.YtpfaoiickmpmjaaDoor
namespace Rows

/-- THE TIED CARD OF 'hectarelaw06.SkipHeights'. -/
def skipHeightsCard : Claim7 := { stood := { row := skipHeightsRow, standIns := [], harness := (true, "0cd84a9fb5d374586c85de77bbbe4c4f1c07372a122fbe0b91079dd5a4b3a061"), looks := false }, kinds := [], alts := [], laidByText := true, laidKinds := [.data], laidTests := true, laidLooks := .later }
def SkipHeightsCardSaid : Prop := Claim7.holds Tryd.pinned (.plain (OpenSpec.ofChange skipHeightsSpec)) skipHeightsCard

/-- THE TIED CARD OF 'hectarelaw06.SkipPuts'. -/
def skipPutsCard : Claim7 := { stood := { row := skipPutsRow, standIns := [], harness := (true, "0cd84a9fb5d374586c85de77bbbe4c4f1c07372a122fbe0b91079dd5a4b3a061"), looks := false }, kinds := [], alts := [], laidByText := true, laidKinds := [.data], laidTests := true, laidLooks := .later }
def SkipPutsCardSaid : Prop := Claim7.holds Tryd.pinned (.plain (OpenSpec.ofChange skipPutsSpec)) skipPutsCard

/-- THE TIED CARD OF 'hectarelaw06.SkipGets'. -/
def skipGetsCard : Claim7 := { stood := { row := skipGetsRow, standIns := [], harness := (true, "0cd84a9fb5d374586c85de77bbbe4c4f1c07372a122fbe0b91079dd5a4b3a061"), looks := false }, kinds := [], alts := [], laidByText := true, laidKinds := [.data], laidTests := true, laidLooks := .later }
def SkipGetsCardSaid : Prop := Claim7.holds Tryd.pinned (.plain (OpenSpec.ofChange skipGetsSpec)) skipGetsCard

/-- THE TIED CARD OF 'hectarelaw06.SkipGoes'. -/
def skipGoesCard : Claim7 := { stood := { row := skipGoesRow, standIns := [], harness := (true, "0cd84a9fb5d374586c85de77bbbe4c4f1c07372a122fbe0b91079dd5a4b3a061"), looks := false }, kinds := [], alts := [], laidByText := true, laidKinds := [.data], laidTests := true, laidLooks := .later }
def SkipGoesCardSaid : Prop := Claim7.holds Tryd.pinned (.plain (OpenSpec.ofChange skipGoesSpec)) skipGoesCard

/-- THE TIED CARD OF 'hectarelaw06.SkipCopies'. -/
def skipCopiesCard : Claim7 := { stood := { row := skipCopiesRow, standIns := [], harness := (true, "0cd84a9fb5d374586c85de77bbbe4c4f1c07372a122fbe0b91079dd5a4b3a061"), looks := false }, kinds := [], alts := [], laidByText := true, laidKinds := [.data], laidTests := true, laidLooks := .later }
def SkipCopiesCardSaid : Prop := Claim7.holds Tryd.pinned (.plain (OpenSpec.ofChange skipCopiesSpec)) skipCopiesCard

/-- THE TIED CARD OF 'hectarelaw06.SkipOrder'. -/
def skipOrderCard : Claim7 := { stood := { row := skipOrderRow, standIns := [], harness := (true, "0cd84a9fb5d374586c85de77bbbe4c4f1c07372a122fbe0b91079dd5a4b3a061"), looks := false }, kinds := [], alts := [], laidByText := true, laidKinds := [.data], laidTests := true, laidLooks := .later }
def SkipOrderCardSaid : Prop := Claim7.holds Tryd.pinned (.plain (OpenSpec.ofChange skipOrderSpec)) skipOrderCard

/-- THE TIED CARD OF 'hectarelaw06.SkipNil'. -/
def skipNilCard : Claim7 := { stood := { row := skipNilRow, standIns := [], harness := (true, "0cd84a9fb5d374586c85de77bbbe4c4f1c07372a122fbe0b91079dd5a4b3a061"), looks := false }, kinds := [], alts := [], laidByText := true, laidKinds := [.data], laidTests := true, laidLooks := .later }
def SkipNilCardSaid : Prop := Claim7.holds Tryd.pinned (.plain (OpenSpec.ofChange skipNilSpec)) skipNilCard

/-- THE SECOND FORM's CARD OF 'hectarelaw06.SkipHeights'. -/
def skipHeightsUptoCard : Claim7 := { stood := { row := skipHeightsUptoRow, standIns := [], harness := (true, "0cd84a9fb5d374586c85de77bbbe4c4f1c07372a122fbe0b91079dd5a4b3a061"), looks := false }, kinds := [], alts := [], laidByText := true, laidKinds := [.data], laidTests := true, laidLooks := .later }
def SkipHeightsUptoCardSaid : Prop := Claim7.holds Tryd.pinned (.plain (OpenSpec.upto skipHeightsSpec)) skipHeightsUptoCard

/-- THE SECOND FORM's CARD OF 'hectarelaw06.SkipPuts'. -/
def skipPutsUptoCard : Claim7 := { stood := { row := skipPutsUptoRow, standIns := [], harness := (true, "0cd84a9fb5d374586c85de77bbbe4c4f1c07372a122fbe0b91079dd5a4b3a061"), looks := false }, kinds := [], alts := [], laidByText := true, laidKinds := [.data], laidTests := true, laidLooks := .later }
def SkipPutsUptoCardSaid : Prop := Claim7.holds Tryd.pinned (.plain (OpenSpec.upto skipPutsSpec)) skipPutsUptoCard

/-- THE SECOND FORM's CARD OF 'hectarelaw06.SkipGets'. -/
def skipGetsUptoCard : Claim7 := { stood := { row := skipGetsUptoRow, standIns := [], harness := (true, "0cd84a9fb5d374586c85de77bbbe4c4f1c07372a122fbe0b91079dd5a4b3a061"), looks := false }, kinds := [], alts := [], laidByText := true, laidKinds := [.data], laidTests := true, laidLooks := .later }
def SkipGetsUptoCardSaid : Prop := Claim7.holds Tryd.pinned (.plain (OpenSpec.upto skipGetsSpec)) skipGetsUptoCard

/-- THE SECOND FORM's CARD OF 'hectarelaw06.SkipGoes'. -/
def skipGoesUptoCard : Claim7 := { stood := { row := skipGoesUptoRow, standIns := [], harness := (true, "0cd84a9fb5d374586c85de77bbbe4c4f1c07372a122fbe0b91079dd5a4b3a061"), looks := false }, kinds := [], alts := [], laidByText := true, laidKinds := [.data], laidTests := true, laidLooks := .later }
def SkipGoesUptoCardSaid : Prop := Claim7.holds Tryd.pinned (.plain (OpenSpec.upto skipGoesSpec)) skipGoesUptoCard

/-- THE SECOND FORM's CARD OF 'hectarelaw06.SkipCopies'. -/
def skipCopiesUptoCard : Claim7 := { stood := { row := skipCopiesUptoRow, standIns := [], harness := (true, "0cd84a9fb5d374586c85de77bbbe4c4f1c07372a122fbe0b91079dd5a4b3a061"), looks := false }, kinds := [], alts := [], laidByText := true, laidKinds := [.data], laidTests := true, laidLooks := .later }
def SkipCopiesUptoCardSaid : Prop := Claim7.holds Tryd.pinned (.plain (OpenSpec.upto skipCopiesSpec)) skipCopiesUptoCard

/-- THE SECOND FORM's CARD OF 'hectarelaw06.SkipOrder'. -/
def skipOrderUptoCard : Claim7 := { stood := { row := skipOrderUptoRow, standIns := [], harness := (true, "0cd84a9fb5d374586c85de77bbbe4c4f1c07372a122fbe0b91079dd5a4b3a061"), looks := false }, kinds := [], alts := [], laidByText := true, laidKinds := [.data], laidTests := true, laidLooks := .later }
def SkipOrderUptoCardSaid : Prop := Claim7.holds Tryd.pinned (.plain (OpenSpec.upto skipOrderSpec)) skipOrderUptoCard

/-- THE SECOND FORM's CARD OF 'hectarelaw06.SkipNil'. -/
def skipNilUptoCard : Claim7 := { stood := { row := skipNilUptoRow, standIns := [], harness := (true, "0cd84a9fb5d374586c85de77bbbe4c4f1c07372a122fbe0b91079dd5a4b3a061"), looks := false }, kinds := [], alts := [], laidByText := true, laidKinds := [.data], laidTests := true, laidLooks := .later }
def SkipNilUptoCardSaid : Prop := Claim7.holds Tryd.pinned (.plain (OpenSpec.upto skipNilSpec)) skipNilUptoCard
end Rows
end Go.Proofs.YtpfaoiickmpmjaaDoor
