/-
  DERIVED. GIVEN WITH THE SEED: THE CARDS: each row of YthppoibdiehfkaaDoorRows.lean that lists a variable, with what it lists TIED to the program's text (the seventh form; the later family's looks); each row that meets fmt, with fmt's text TOLD by the authors' own Lean function (tested against real Go, not proved from fmt's source: count such statements apart). THE CARD IS WHAT COUNTS. Prove the row's statement (the work); the ties are given (YthppoibdiehfkaaDoorTie.lean); close each card by the builder's one call (the guide's Derived/Test/ToyasCard.lean, 'card_holds'). Laid BY PROGRAM, IN A SANDBOX (cutbox-door.mjs). By AI agents, Wed Nov 11 2026. No macro, syntax, notation, axiom, sorry.
-/
import Derived.Test.YthppoibdiehfkaaDoorRows
import GoSem.ClaimSeven
namespace Go.Proofs.YthppoibdiehfkaaDoor
namespace Rows

/-- THE TIED CARD OF 'grommetlaw02.RowsReads'. -/
def rowsReadsCard : Claim7 := { stood := { row := rowsReadsRow, standIns := [], harness := (true, "04a4405218e298ef42d250ef09c263a5218158cb0870804cb355791bcbb059cd"), looks := false }, kinds := [], alts := [], laidByText := true, laidKinds := [.data, .pinned], laidTests := true, laidLooks := .later }
def RowsReadsCardSaid : Prop := Claim7.holds Tryd.pinned (.plain (OpenSpec.ofChange rowsReadsSpec)) rowsReadsCard

/-- THE TIED CARD OF 'grommetlaw02.RowsWrites'. -/
def rowsWritesCard : Claim7 := { stood := { row := rowsWritesRow, standIns := [], harness := (true, "04a4405218e298ef42d250ef09c263a5218158cb0870804cb355791bcbb059cd"), looks := false }, kinds := [], alts := [], laidByText := true, laidKinds := [.data, .pinned], laidTests := true, laidLooks := .later }
def RowsWritesCardSaid : Prop := Claim7.holds Tryd.pinned (.plain (OpenSpec.ofChange rowsWritesSpec)) rowsWritesCard

/-- THE TIED CARD OF 'grommetlaw02.RowsNotes'. -/
def rowsNotesCard : Claim7 := { stood := { row := rowsNotesRow, standIns := [], harness := (true, "04a4405218e298ef42d250ef09c263a5218158cb0870804cb355791bcbb059cd"), looks := false }, kinds := [], alts := [], laidByText := true, laidKinds := [.data, .pinned], laidTests := true, laidLooks := .later }
def RowsNotesCardSaid : Prop := Claim7.holds Tryd.pinned (.plain (OpenSpec.ofChange rowsNotesSpec)) rowsNotesCard

/-- THE TIED CARD OF 'grommetlaw02.RowsBack'. -/
def rowsBackCard : Claim7 := { stood := { row := rowsBackRow, standIns := [], harness := (true, "04a4405218e298ef42d250ef09c263a5218158cb0870804cb355791bcbb059cd"), looks := false }, kinds := [], alts := [], laidByText := true, laidKinds := [.data, .pinned], laidTests := true, laidLooks := .later }
def RowsBackCardSaid : Prop := Claim7.holds Tryd.pinned (.plain (OpenSpec.ofChange rowsBackSpec)) rowsBackCard

/-- THE TIED CARD OF 'grommetlaw02.RowsBoth'. -/
def rowsBothCard : Claim7 := { stood := { row := rowsBothRow, standIns := [], harness := (true, "04a4405218e298ef42d250ef09c263a5218158cb0870804cb355791bcbb059cd"), looks := false }, kinds := [], alts := [], laidByText := true, laidKinds := [.data, .pinned], laidTests := true, laidLooks := .later }
def RowsBothCardSaid : Prop := Claim7.holds Tryd.pinned (.plain (OpenSpec.ofChange rowsBothSpec)) rowsBothCard

/-- THE TIED CARD OF 'grommetlaw02.RowsAgain'. -/
def rowsAgainCard : Claim7 := { stood := { row := rowsAgainRow, standIns := [], harness := (true, "04a4405218e298ef42d250ef09c263a5218158cb0870804cb355791bcbb059cd"), looks := false }, kinds := [], alts := [], laidByText := true, laidKinds := [.data, .pinned], laidTests := true, laidLooks := .later }
def RowsAgainCardSaid : Prop := Claim7.holds Tryd.pinned (.plain (OpenSpec.ofChange rowsAgainSpec)) rowsAgainCard

/-- THE SECOND FORM's CARD OF 'grommetlaw02.RowsReads'. -/
def rowsReadsUptoCard : Claim7 := { stood := { row := rowsReadsUptoRow, standIns := [], harness := (true, "04a4405218e298ef42d250ef09c263a5218158cb0870804cb355791bcbb059cd"), looks := false }, kinds := [], alts := [], laidByText := true, laidKinds := [.data, .pinned], laidTests := true, laidLooks := .later }
def RowsReadsUptoCardSaid : Prop := Claim7.holds Tryd.pinned (.plain (OpenSpec.upto rowsReadsSpec)) rowsReadsUptoCard

/-- THE SECOND FORM's CARD OF 'grommetlaw02.RowsWrites'. -/
def rowsWritesUptoCard : Claim7 := { stood := { row := rowsWritesUptoRow, standIns := [], harness := (true, "04a4405218e298ef42d250ef09c263a5218158cb0870804cb355791bcbb059cd"), looks := false }, kinds := [], alts := [], laidByText := true, laidKinds := [.data, .pinned], laidTests := true, laidLooks := .later }
def RowsWritesUptoCardSaid : Prop := Claim7.holds Tryd.pinned (.plain (OpenSpec.upto rowsWritesSpec)) rowsWritesUptoCard

/-- THE SECOND FORM's CARD OF 'grommetlaw02.RowsNotes'. -/
def rowsNotesUptoCard : Claim7 := { stood := { row := rowsNotesUptoRow, standIns := [], harness := (true, "04a4405218e298ef42d250ef09c263a5218158cb0870804cb355791bcbb059cd"), looks := false }, kinds := [], alts := [], laidByText := true, laidKinds := [.data, .pinned], laidTests := true, laidLooks := .later }
def RowsNotesUptoCardSaid : Prop := Claim7.holds Tryd.pinned (.plain (OpenSpec.upto rowsNotesSpec)) rowsNotesUptoCard

/-- THE SECOND FORM's CARD OF 'grommetlaw02.RowsBack'. -/
def rowsBackUptoCard : Claim7 := { stood := { row := rowsBackUptoRow, standIns := [], harness := (true, "04a4405218e298ef42d250ef09c263a5218158cb0870804cb355791bcbb059cd"), looks := false }, kinds := [], alts := [], laidByText := true, laidKinds := [.data, .pinned], laidTests := true, laidLooks := .later }
def RowsBackUptoCardSaid : Prop := Claim7.holds Tryd.pinned (.plain (OpenSpec.upto rowsBackSpec)) rowsBackUptoCard

/-- THE SECOND FORM's CARD OF 'grommetlaw02.RowsBoth'. -/
def rowsBothUptoCard : Claim7 := { stood := { row := rowsBothUptoRow, standIns := [], harness := (true, "04a4405218e298ef42d250ef09c263a5218158cb0870804cb355791bcbb059cd"), looks := false }, kinds := [], alts := [], laidByText := true, laidKinds := [.data, .pinned], laidTests := true, laidLooks := .later }
def RowsBothUptoCardSaid : Prop := Claim7.holds Tryd.pinned (.plain (OpenSpec.upto rowsBothSpec)) rowsBothUptoCard

/-- THE SECOND FORM's CARD OF 'grommetlaw02.RowsAgain'. -/
def rowsAgainUptoCard : Claim7 := { stood := { row := rowsAgainUptoRow, standIns := [], harness := (true, "04a4405218e298ef42d250ef09c263a5218158cb0870804cb355791bcbb059cd"), looks := false }, kinds := [], alts := [], laidByText := true, laidKinds := [.data, .pinned], laidTests := true, laidLooks := .later }
def RowsAgainUptoCardSaid : Prop := Claim7.holds Tryd.pinned (.plain (OpenSpec.upto rowsAgainSpec)) rowsAgainUptoCard
end Rows
end Go.Proofs.YthppoibdiehfkaaDoor
