/-
  DERIVED. GIVEN WITH THE SEED: THE CARDS: each row of YtfohbiohleekbaaGreatDoorRows.lean that lists a variable, with what it lists TIED to the program's text (the seventh form; the later family's looks); each row that meets fmt, with fmt's text TOLD by the authors' own Lean function (tested against real Go, not proved from fmt's source: count such statements apart). THE CARD IS WHAT COUNTS. Prove the row's statement (the work); the ties are given (YtfohbiohleekbaaGreatDoorTie.lean); close each card by the builder's one call (the guide's Derived/Test/ToyasCard.lean, 'card_holds'). Laid BY PROGRAM, IN A SANDBOX (cutbox-door.mjs). By AI agents, Wed Nov 11 2026. No macro, syntax, notation, axiom, sorry.
-/
import Derived.Test.YtfohbiohleekbaaGreatDoorRows
import GoSem.ClaimSeven
namespace Go.Proofs.YtfohbiohleekbaaGreatDoor
namespace Rows

/-- THE TIED CARD OF 'grommetlaw12.GraphComposes'. -/
def graphComposesCard : Claim7 := { stood := { row := graphComposesRow, standIns := [], harness := (true, "ea2d007c384d3ac68ed130be23a8f1b3278b4158ff903e3756155e2937f6d79b"), looks := true }, kinds := [], alts := [], laidByText := true, laidKinds := [.data, .data, .data, .data, .sentinel, .sentinel, .data, .data, .pinned], laidTests := true, laidLooks := .later }
def GraphComposesCardSaid : Prop := Claim7.holds Tryz.pinned (.plain (OpenSpec.ofChange graphComposesSpec)) graphComposesCard

/-- THE TIED CARD OF 'grommetlaw12.GraphTells'. -/
def graphTellsCard : Claim7 := { stood := { row := graphTellsRow, standIns := [], harness := (true, "ea2d007c384d3ac68ed130be23a8f1b3278b4158ff903e3756155e2937f6d79b"), looks := true }, kinds := [], alts := [], laidByText := true, laidKinds := [.data, .data, .data, .data, .sentinel, .sentinel, .data, .data, .pinned], laidTests := true, laidLooks := .later }
def GraphTellsCardSaid : Prop := Claim7.holds Tryz.pinned (.plain (OpenSpec.ofChange graphTellsSpec)) graphTellsCard

/-- THE TIED CARD OF 'grommetlaw12.GraphParts'. -/
def graphPartsCard : Claim7 := { stood := { row := graphPartsRow, standIns := [], harness := (true, "ea2d007c384d3ac68ed130be23a8f1b3278b4158ff903e3756155e2937f6d79b"), looks := true }, kinds := [], alts := [], laidByText := true, laidKinds := [.data, .data, .data, .data, .sentinel, .sentinel, .data, .data, .pinned], laidTests := true, laidLooks := .later }
def GraphPartsCardSaid : Prop := Claim7.holds Tryz.pinned (.plain (OpenSpec.ofChange graphPartsSpec)) graphPartsCard

/-- THE SECOND FORM's CARD OF 'grommetlaw12.GraphComposes'. -/
def graphComposesUptoCard : Claim7 := { stood := { row := graphComposesUptoRow, standIns := [], harness := (true, "ea2d007c384d3ac68ed130be23a8f1b3278b4158ff903e3756155e2937f6d79b"), looks := true }, kinds := [], alts := [], laidByText := true, laidKinds := [.data, .data, .data, .data, .sentinel, .sentinel, .data, .data, .pinned], laidTests := true, laidLooks := .later }
def GraphComposesUptoCardSaid : Prop := Claim7.holds Tryz.pinned (.plain (OpenSpec.upto graphComposesSpec)) graphComposesUptoCard

/-- THE SECOND FORM's CARD OF 'grommetlaw12.GraphTells'. -/
def graphTellsUptoCard : Claim7 := { stood := { row := graphTellsUptoRow, standIns := [], harness := (true, "ea2d007c384d3ac68ed130be23a8f1b3278b4158ff903e3756155e2937f6d79b"), looks := true }, kinds := [], alts := [], laidByText := true, laidKinds := [.data, .data, .data, .data, .sentinel, .sentinel, .data, .data, .pinned], laidTests := true, laidLooks := .later }
def GraphTellsUptoCardSaid : Prop := Claim7.holds Tryz.pinned (.plain (OpenSpec.upto graphTellsSpec)) graphTellsUptoCard

/-- THE SECOND FORM's CARD OF 'grommetlaw12.GraphParts'. -/
def graphPartsUptoCard : Claim7 := { stood := { row := graphPartsUptoRow, standIns := [], harness := (true, "ea2d007c384d3ac68ed130be23a8f1b3278b4158ff903e3756155e2937f6d79b"), looks := true }, kinds := [], alts := [], laidByText := true, laidKinds := [.data, .data, .data, .data, .sentinel, .sentinel, .data, .data, .pinned], laidTests := true, laidLooks := .later }
def GraphPartsUptoCardSaid : Prop := Claim7.holds Tryz.pinned (.plain (OpenSpec.upto graphPartsSpec)) graphPartsUptoCard
end Rows
end Go.Proofs.YtfohbiohleekbaaGreatDoor
