/-
  DERIVED. GIVEN WITH THE SEED: THE CARDS: each row of YtoamfmockinknaaDoorRows.lean that lists a variable, with what it lists TIED to the program's text (the seventh form; the later family's looks); each row that meets fmt, with fmt's text TOLD by the authors' own Lean function (tested against real Go, not proved from fmt's source: count such statements apart). THE CARD IS WHAT COUNTS. Prove the row's statement (the work); the ties are given (YtoamfmockinknaaDoorTie.lean); close each card by the builder's one call (the guide's Derived/Test/ToyasCard.lean, 'card_holds'). Laid BY PROGRAM, IN A SANDBOX (cutbox-door.mjs). By AI agents, Wed Nov 11 2026. No macro, syntax, notation, axiom, sorry.
-/
import Derived.Test.YtoamfmockinknaaDoorRows
import GoSem.ClaimSeven
namespace Go.Proofs.YtoamfmockinknaaDoor
namespace Rows

/-- THE TIED CARD OF 'grommetlaw08.BlockLays'. -/
def blockLaysCard : Claim7 := { stood := { row := blockLaysRow, standIns := [], harness := (true, "1b6da7928aec99d2eaf977fc41df759be2386ebaad6baf9537ee85b544cdffbf"), looks := false }, kinds := [], alts := [], laidByText := true, laidKinds := [.data, .pinned], laidTests := true, laidLooks := .later }
def BlockLaysCardSaid : Prop := Claim7.holds Tryd.pinned (.plain (OpenSpec.ofChange blockLaysSpec)) blockLaysCard

/-- THE TIED CARD OF 'grommetlaw08.BlockBack'. -/
def blockBackCard : Claim7 := { stood := { row := blockBackRow, standIns := [], harness := (true, "1b6da7928aec99d2eaf977fc41df759be2386ebaad6baf9537ee85b544cdffbf"), looks := false }, kinds := [], alts := [], laidByText := true, laidKinds := [.data, .pinned], laidTests := true, laidLooks := .later }
def BlockBackCardSaid : Prop := Claim7.holds Tryd.pinned (.plain (OpenSpec.ofChange blockBackSpec)) blockBackCard

/-- THE SECOND FORM's CARD OF 'grommetlaw08.BlockLays'. -/
def blockLaysUptoCard : Claim7 := { stood := { row := blockLaysUptoRow, standIns := [], harness := (true, "1b6da7928aec99d2eaf977fc41df759be2386ebaad6baf9537ee85b544cdffbf"), looks := false }, kinds := [], alts := [], laidByText := true, laidKinds := [.data, .pinned], laidTests := true, laidLooks := .later }
def BlockLaysUptoCardSaid : Prop := Claim7.holds Tryd.pinned (.plain (OpenSpec.upto blockLaysSpec)) blockLaysUptoCard

/-- THE SECOND FORM's CARD OF 'grommetlaw08.BlockBack'. -/
def blockBackUptoCard : Claim7 := { stood := { row := blockBackUptoRow, standIns := [], harness := (true, "1b6da7928aec99d2eaf977fc41df759be2386ebaad6baf9537ee85b544cdffbf"), looks := false }, kinds := [], alts := [], laidByText := true, laidKinds := [.data, .pinned], laidTests := true, laidLooks := .later }
def BlockBackUptoCardSaid : Prop := Claim7.holds Tryd.pinned (.plain (OpenSpec.upto blockBackSpec)) blockBackUptoCard
end Rows
end Go.Proofs.YtoamfmockinknaaDoor
