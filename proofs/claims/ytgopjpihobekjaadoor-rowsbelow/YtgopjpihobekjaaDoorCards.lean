/-
  DERIVED. GIVEN WITH THE SEED: THE CARDS: each row of YtgopjpihobekjaaDoorRows.lean that lists a variable, with what it lists TIED to the program's text (the seventh form; the later family's looks); each row that meets fmt, with fmt's text TOLD by the authors' own Lean function (tested against real Go, not proved from fmt's source: count such statements apart). THE CARD IS WHAT COUNTS. Prove the row's statement (the work); the ties are given (YtgopjpihobekjaaDoorTie.lean); close each card by the builder's one call (the guide's Derived/Test/ToyasCard.lean, 'card_holds'). Laid BY PROGRAM, IN A SANDBOX (cutbox-door.mjs). By AI agents, Wed Nov 11 2026. No macro, syntax, notation, axiom, sorry.
-/
import Derived.Test.YtgopjpihobekjaaDoorRows
import GoSem.ClaimSeven
namespace Go.Proofs.YtgopjpihobekjaaDoor
namespace Rows

/-- THE TIED CARD OF 'grommetlaw02.RowsWrites'. -/
def rowsWritesCard : Claim7 := { stood := { row := rowsWritesRow, standIns := [], harness := (true, "84ad4064908cc95ff6f9aef9dd77658f7ca289c67cf8f781b03944ab07cab792"), looks := false }, kinds := [], alts := [], laidByText := true, laidKinds := [.data, .pinned], laidTests := true, laidLooks := .later }
def RowsWritesCardSaid : Prop := Claim7.holds Tryd.pinned (.plain (OpenSpec.ofChange rowsWritesSpec)) rowsWritesCard

/-- THE TIED CARD OF 'grommetlaw02.RowsBelow'. -/
def rowsBelowCard : Claim7 := { stood := { row := rowsBelowRow, standIns := [], harness := (true, "84ad4064908cc95ff6f9aef9dd77658f7ca289c67cf8f781b03944ab07cab792"), looks := false }, kinds := [], alts := [], laidByText := true, laidKinds := [.data, .pinned], laidTests := true, laidLooks := .later }
def RowsBelowCardSaid : Prop := Claim7.holds Tryd.pinned (.plain (OpenSpec.ofChange rowsBelowSpec)) rowsBelowCard

/-- THE SECOND FORM's CARD OF 'grommetlaw02.RowsWrites'. -/
def rowsWritesUptoCard : Claim7 := { stood := { row := rowsWritesUptoRow, standIns := [], harness := (true, "84ad4064908cc95ff6f9aef9dd77658f7ca289c67cf8f781b03944ab07cab792"), looks := false }, kinds := [], alts := [], laidByText := true, laidKinds := [.data, .pinned], laidTests := true, laidLooks := .later }
def RowsWritesUptoCardSaid : Prop := Claim7.holds Tryd.pinned (.plain (OpenSpec.upto rowsWritesSpec)) rowsWritesUptoCard

/-- THE SECOND FORM's CARD OF 'grommetlaw02.RowsBelow'. -/
def rowsBelowUptoCard : Claim7 := { stood := { row := rowsBelowUptoRow, standIns := [], harness := (true, "84ad4064908cc95ff6f9aef9dd77658f7ca289c67cf8f781b03944ab07cab792"), looks := false }, kinds := [], alts := [], laidByText := true, laidKinds := [.data, .pinned], laidTests := true, laidLooks := .later }
def RowsBelowUptoCardSaid : Prop := Claim7.holds Tryd.pinned (.plain (OpenSpec.upto rowsBelowSpec)) rowsBelowUptoCard
end Rows
end Go.Proofs.YtgopjpihobekjaaDoor
