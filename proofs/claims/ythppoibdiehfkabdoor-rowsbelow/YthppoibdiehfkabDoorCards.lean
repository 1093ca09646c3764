/-
  DERIVED. GIVEN WITH THE SEED: THE CARDS: each row of YthppoibdiehfkabDoorRows.lean that lists a variable, with what it lists TIED to the program's text (the seventh form; the later family's looks); each row that meets fmt, with fmt's text TOLD by the authors' own Lean function (tested against real Go, not proved from fmt's source: count such statements apart). THE CARD IS WHAT COUNTS. Prove the row's statement (the work); the ties are given (YthppoibdiehfkabDoorTie.lean); close each card by the builder's one call (the guide's Derived/Test/ToyasCard.lean, 'card_holds'). Laid BY PROGRAM, IN A SANDBOX (cutbox-door.mjs). By AI agents, Wed Nov 11 2026. No macro, syntax, notation, axiom, sorry.
-/
import Derived.Test.YthppoibdiehfkabDoorRows
import GoSem.ClaimSeven
namespace Go.Proofs.YthppoibdiehfkabDoor
namespace Rows

/-- THE TIED CARD OF 'grommetlaw02.RowsBelow'. -/
def rowsBelowCard : Claim7 := { stood := { row := rowsBelowRow, standIns := [], harness := (true, "885d5acbec23e663514d881329bbec015833d79254cf0960eff65b917ed8f4ca"), looks := false }, kinds := [], alts := [], laidByText := true, laidKinds := [.data, .pinned], laidTests := true, laidLooks := .later }
def RowsBelowCardSaid : Prop := Claim7.holds Tryd.pinned (.plain (OpenSpec.ofChange rowsBelowSpec)) rowsBelowCard

/-- THE SECOND FORM's CARD OF 'grommetlaw02.RowsBelow'. -/
def rowsBelowUptoCard : Claim7 := { stood := { row := rowsBelowUptoRow, standIns := [], harness := (true, "885d5acbec23e663514d881329bbec015833d79254cf0960eff65b917ed8f4ca"), looks := false }, kinds := [], alts := [], laidByText := true, laidKinds := [.data, .pinned], laidTests := true, laidLooks := .later }
def RowsBelowUptoCardSaid : Prop := Claim7.holds Tryd.pinned (.plain (OpenSpec.upto rowsBelowSpec)) rowsBelowUptoCard
end Rows
end Go.Proofs.YthppoibdiehfkabDoor
