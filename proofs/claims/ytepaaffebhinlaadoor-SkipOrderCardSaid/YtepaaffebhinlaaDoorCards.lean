/-
  DERIVED. GIVEN WITH THE SEED: THE CARDS: each row of YtepaaffebhinlaaDoorRows.lean that lists a variable, with what it lists TIED to the program's text (the seventh form; the later family's looks); each row that meets fmt, with fmt's text TOLD by the authors' own Lean function (tested against real Go, not proved from fmt's source: count such statements apart). THE CARD IS WHAT COUNTS. Prove the row's statement (the work); the ties are given (YtepaaffebhinlaaDoorTie.lean); close each card by the builder's one call (the guide's Derived/Test/ToyasCard.lean, 'card_holds'). Laid BY PROGRAM, IN A SANDBOX (cutbox-door.mjs). By AI agents, Wed Nov 11 2026. No macro, syntax, notation, axiom, sorry.
-/
import Derived.Test.YtepaaffebhinlaaDoorRows
import GoSem.ClaimSeven
namespace Go.Proofs.YtepaaffebhinlaaDoor
namespace Rows

/-- THE TIED CARD OF 'hectarelaw06.SkipOrder'. -/
def skipOrderCard : Claim7 := { stood := { row := skipOrderRow, standIns := [], harness := (true, "0caa9a2860cf89361f653eaf281faa6681a56157ad6e2447432abab576223669"), looks := false }, kinds := [], alts := [], laidByText := true, laidKinds := [.data], laidTests := true, laidLooks := .later }
def SkipOrderCardSaid : Prop := Claim7.holds Tryd.pinned (.plain (OpenSpec.ofChange skipOrderSpec)) skipOrderCard

/-- THE TIED CARD OF 'hectarelaw06.SkipNil'. -/
def skipNilCard : Claim7 := { stood := { row := skipNilRow, standIns := [], harness := (true, "0caa9a2860cf89361f653eaf281faa6681a56157ad6e2447432abab576223669"), looks := false }, kinds := [], alts := [], laidByText := true, laidKinds := [.data], laidTests := true, laidLooks := .later }
def SkipNilCardSaid : Prop := Claim7.holds Tryd.pinned (.plain (OpenSpec.ofChange skipNilSpec)) skipNilCard

/-- THE SECOND FORM's CARD OF 'hectarelaw06.SkipOrder'. -/
def skipOrderUptoCard : Claim7 := { stood := { row := skipOrderUptoRow, standIns := [], harness := (true, "0caa9a2860cf89361f653eaf281faa6681a56157ad6e2447432abab576223669"), looks := false }, kinds := [], alts := [], laidByText := true, laidKinds := [.data], laidTests := true, laidLooks := .later }
def SkipOrderUptoCardSaid : Prop := Claim7.holds Tryd.pinned (.plain (OpenSpec.upto skipOrderSpec)) skipOrderUptoCard

/-- THE SECOND FORM's CARD OF 'hectarelaw06.SkipNil'. -/
def skipNilUptoCard : Claim7 := { stood := { row := skipNilUptoRow, standIns := [], harness := (true, "0caa9a2860cf89361f653eaf281faa6681a56157ad6e2447432abab576223669"), looks := false }, kinds := [], alts := [], laidByText := true, laidKinds := [.data], laidTests := true, laidLooks := .later }
def SkipNilUptoCardSaid : Prop := Claim7.holds Tryd.pinned (.plain (OpenSpec.upto skipNilSpec)) skipNilUptoCard
end Rows
end Go.Proofs.YtepaaffebhinlaaDoor
