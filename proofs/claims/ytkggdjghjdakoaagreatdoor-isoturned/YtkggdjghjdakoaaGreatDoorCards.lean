/-
  DERIVED. GIVEN WITH THE SEED: THE CARDS: each row of YtkggdjghjdakoaaGreatDoorRows.lean that lists a variable, with what it lists TIED to the program's text (the seventh form; the later family's looks); each row that meets fmt, with fmt's text TOLD by the authors' own Lean function (tested against real Go, not proved from fmt's source: count such statements apart). THE CARD IS WHAT COUNTS. Prove the row's statement (the work); the ties are given (YtkggdjghjdakoaaGreatDoorTie.lean); close each card by the builder's one call (the guide's Derived/Test/ToyasCard.lean, 'card_holds'). Laid BY PROGRAM, IN A SANDBOX (cutbox-door.mjs). By AI agents, Wed Nov 11 2026. No macro, syntax, notation, axiom, sorry.
-/
import Derived.Test.YtkggdjghjdakoaaGreatDoorRows
import GoSem.ClaimSeven
namespace Go.Proofs.YtkggdjghjdakoaaGreatDoor
namespace Rows

/-- THE TIED CARD OF 'grommetlaw13.IsoOrder'. -/
def isoOrderCard : Claim7 := { stood := { row := isoOrderRow, standIns := [], harness := (true, "422ea6651703737fd3a0ce90760008c164449ad2f845dfaf05193dd3687c45f8"), looks := true }, kinds := [], alts := [], laidByText := true, laidKinds := [.data, .data, .data, .sentinel, .sentinel], laidTests := true, laidLooks := .later }
def IsoOrderCardSaid : Prop := Claim7.holds Tryz.pinned (.plain (OpenSpec.ofChange isoOrderSpec)) isoOrderCard

/-- THE TIED CARD OF 'grommetlaw13.IsoWithin'. -/
def isoWithinCard : Claim7 := { stood := { row := isoWithinRow, standIns := [], harness := (true, "422ea6651703737fd3a0ce90760008c164449ad2f845dfaf05193dd3687c45f8"), looks := true }, kinds := [], alts := [], laidByText := true, laidKinds := [.data, .data, .data, .sentinel, .sentinel], laidTests := true, laidLooks := .later }
def IsoWithinCardSaid : Prop := Claim7.holds Tryz.pinned (.plain (OpenSpec.ofChange isoWithinSpec)) isoWithinCard

/-- THE TIED CARD OF 'grommetlaw13.IsoCanons'. -/
def isoCanonsCard : Claim7 := { stood := { row := isoCanonsRow, standIns := [], harness := (true, "422ea6651703737fd3a0ce90760008c164449ad2f845dfaf05193dd3687c45f8"), looks := true }, kinds := [], alts := [], laidByText := true, laidKinds := [.data, .data, .data, .sentinel, .sentinel], laidTests := true, laidLooks := .later }
def IsoCanonsCardSaid : Prop := Claim7.holds Tryz.pinned (.plain (OpenSpec.ofChange isoCanonsSpec)) isoCanonsCard

/-- THE TIED CARD OF 'grommetlaw13.IsoTurned'. -/
def isoTurnedCard : Claim7 := { stood := { row := isoTurnedRow, standIns := [], harness := (true, "422ea6651703737fd3a0ce90760008c164449ad2f845dfaf05193dd3687c45f8"), looks := true }, kinds := [], alts := [], laidByText := true, laidKinds := [.data, .data, .data, .sentinel, .sentinel], laidTests := true, laidLooks := .later }
def IsoTurnedCardSaid : Prop := Claim7.holds Tryz.pinned (.plain (OpenSpec.ofChange isoTurnedSpec)) isoTurnedCard

/-- THE TIED CARD OF 'grommetlaw13.IsoFinds'. -/
def isoFindsCard : Claim7 := { stood := { row := isoFindsRow, standIns := [], harness := (true, "422ea6651703737fd3a0ce90760008c164449ad2f845dfaf05193dd3687c45f8"), looks := true }, kinds := [], alts := [], laidByText := true, laidKinds := [.data, .data, .data, .sentinel, .sentinel], laidTests := true, laidLooks := .later }
def IsoFindsCardSaid : Prop := Claim7.holds Tryz.pinned (.plain (OpenSpec.ofChange isoFindsSpec)) isoFindsCard

/-- THE SECOND FORM's CARD OF 'grommetlaw13.IsoOrder'. -/
def isoOrderUptoCard : Claim7 := { stood := { row := isoOrderUptoRow, standIns := [], harness := (true, "422ea6651703737fd3a0ce90760008c164449ad2f845dfaf05193dd3687c45f8"), looks := true }, kinds := [], alts := [], laidByText := true, laidKinds := [.data, .data, .data, .sentinel, .sentinel], laidTests := true, laidLooks := .later }
def IsoOrderUptoCardSaid : Prop := Claim7.holds Tryz.pinned (.plain (OpenSpec.upto isoOrderSpec)) isoOrderUptoCard

/-- THE SECOND FORM's CARD OF 'grommetlaw13.IsoWithin'. -/
def isoWithinUptoCard : Claim7 := { stood := { row := isoWithinUptoRow, standIns := [], harness := (true, "422ea6651703737fd3a0ce90760008c164449ad2f845dfaf05193dd3687c45f8"), looks := true }, kinds := [], alts := [], laidByText := true, laidKinds := [.data, .data, .data, .sentinel, .sentinel], laidTests := true, laidLooks := .later }
def IsoWithinUptoCardSaid : Prop := Claim7.holds Tryz.pinned (.plain (OpenSpec.upto isoWithinSpec)) isoWithinUptoCard

/-- THE SECOND FORM's CARD OF 'grommetlaw13.IsoCanons'. -/
def isoCanonsUptoCard : Claim7 := { stood := { row := isoCanonsUptoRow, standIns := [], harness := (true, "422ea6651703737fd3a0ce90760008c164449ad2f845dfaf05193dd3687c45f8"), looks := true }, kinds := [], alts := [], laidByText := true, laidKinds := [.data, .data, .data, .sentinel, .sentinel], laidTests := true, laidLooks := .later }
def IsoCanonsUptoCardSaid : Prop := Claim7.holds Tryz.pinned (.plain (OpenSpec.upto isoCanonsSpec)) isoCanonsUptoCard

/-- THE SECOND FORM's CARD OF 'grommetlaw13.IsoTurned'. -/
def isoTurnedUptoCard : Claim7 := { stood := { row := isoTurnedUptoRow, standIns := [], harness := (true, "422ea6651703737fd3a0ce90760008c164449ad2f845dfaf05193dd3687c45f8"), looks := true }, kinds := [], alts := [], laidByText := true, laidKinds := [.data, .data, .data, .sentinel, .sentinel], laidTests := true, laidLooks := .later }
def IsoTurnedUptoCardSaid : Prop := Claim7.holds Tryz.pinned (.plain (OpenSpec.upto isoTurnedSpec)) isoTurnedUptoCard

/-- THE SECOND FORM's CARD OF 'grommetlaw13.IsoFinds'. -/
def isoFindsUptoCard : Claim7 := { stood := { row := isoFindsUptoRow, standIns := [], harness := (true, "422ea6651703737fd3a0ce90760008c164449ad2f845dfaf05193dd3687c45f8"), looks := true }, kinds := [], alts := [], laidByText := true, laidKinds := [.data, .data, .data, .sentinel, .sentinel], laidTests := true, laidLooks := .later }
def IsoFindsUptoCardSaid : Prop := Claim7.holds Tryz.pinned (.plain (OpenSpec.upto isoFindsSpec)) isoFindsUptoCard
end Rows
end Go.Proofs.YtkggdjghjdakoaaGreatDoor
