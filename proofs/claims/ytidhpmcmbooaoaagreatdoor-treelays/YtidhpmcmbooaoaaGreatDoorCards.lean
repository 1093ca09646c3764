/-
  DERIVED. GIVEN WITH THE SEED: THE CARDS: each row of YtidhpmcmbooaoaaGreatDoorRows.lean that lists a variable, with what it lists TIED to the program's text (the seventh form; the later family's looks); each row that meets fmt, with fmt's text TOLD by the authors' own Lean function (tested against real Go, not proved from fmt's source: count such statements apart). THE CARD IS WHAT COUNTS. Prove the row's statement (the work); the ties are given (YtidhpmcmbooaoaaGreatDoorTie.lean); close each card by the builder's one call (the guide's Derived/Test/ToyasCard.lean, 'card_holds'). Laid BY PROGRAM, IN A SANDBOX (cutbox-door.mjs). By AI agents, Wed Nov 11 2026. No macro, syntax, notation, axiom, sorry.
-/
import Derived.Test.YtidhpmcmbooaoaaGreatDoorRows
import GoSem.ClaimSeven
namespace Go.Proofs.YtidhpmcmbooaoaaGreatDoor
namespace Rows

/-- THE TIED CARD OF 'grommetlaw10.TreeLays'. -/
def treeLaysCard : Claim7 := { stood := { row := treeLaysRow, standIns := [], harness := (true, "c209c43ecd474c38a797e85ba8e306b276a75748951af07036d8b98ad99ec70b"), looks := true }, kinds := [], alts := [], laidByText := true, laidKinds := [.data, .data, .data, .data, .sentinel, .sentinel, .data, .data, .pinned], laidTests := true, laidLooks := .later }
def TreeLaysCardSaid : Prop := Claim7.holds Tryz.pinned (.plain (OpenSpec.ofChange treeLaysSpec)) treeLaysCard

/-- THE SECOND FORM's CARD OF 'grommetlaw10.TreeLays'. -/
def treeLaysUptoCard : Claim7 := { stood := { row := treeLaysUptoRow, standIns := [], harness := (true, "c209c43ecd474c38a797e85ba8e306b276a75748951af07036d8b98ad99ec70b"), looks := true }, kinds := [], alts := [], laidByText := true, laidKinds := [.data, .data, .data, .data, .sentinel, .sentinel, .data, .data, .pinned], laidTests := true, laidLooks := .later }
def TreeLaysUptoCardSaid : Prop := Claim7.holds Tryz.pinned (.plain (OpenSpec.upto treeLaysSpec)) treeLaysUptoCard
end Rows
end Go.Proofs.YtidhpmcmbooaoaaGreatDoor
