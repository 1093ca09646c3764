/-
  DERIVED. GIVEN WITH THE SEED: THE CARDS: each row of YtalijhclfppohaaGreatDoorRows.lean that lists a variable, with what it lists TIED to the program's text (the seventh form; the later family's looks); each row that meets fmt, with fmt's text TOLD by the authors' own Lean function (tested against real Go, not proved from fmt's source: count such statements apart). THE CARD IS WHAT COUNTS. Prove the row's statement (the work); the ties are given (YtalijhclfppohaaGreatDoorTie.lean); close each card by the builder's one call (the guide's Derived/Test/ToyasCard.lean, 'card_holds'). Laid BY PROGRAM, IN A SANDBOX (cutbox-door.mjs). By AI agents, Wed Nov 11 2026. No macro, syntax, notation, axiom, sorry.
-/
import Derived.Test.YtalijhclfppohaaGreatDoorRows
import GoSem.ClaimSeven
namespace Go.Proofs.YtalijhclfppohaaGreatDoor
namespace Rows

/-- THE TIED CARD OF 'grommetlaw11.LoadParts'. -/
def loadPartsCard : Claim7 := { stood := { row := loadPartsRow, standIns := [], harness := (true, "bdef05920f2a6b77782ceb15a620b24e02a89c5d1b8a82a97c0c2a51d329f502"), looks := true }, kinds := [], alts := [], laidByText := true, laidKinds := [.data, .data, .data, .data, .sentinel, .sentinel, .data, .data, .pinned], laidTests := true, laidLooks := .later }
def LoadPartsCardSaid : Prop := Claim7.holds Tryz.pinned (.plain (OpenSpec.ofChange loadPartsSpec)) loadPartsCard

/-- THE TIED CARD OF 'grommetlaw11.LoadMany'. -/
def loadManyCard : Claim7 := { stood := { row := loadManyRow, standIns := [], harness := (true, "bdef05920f2a6b77782ceb15a620b24e02a89c5d1b8a82a97c0c2a51d329f502"), looks := true }, kinds := [], alts := [], laidByText := true, laidKinds := [.data, .data, .data, .data, .sentinel, .sentinel, .data, .data, .pinned], laidTests := true, laidLooks := .later }
def LoadManyCardSaid : Prop := Claim7.holds Tryz.pinned (.plain (OpenSpec.ofChange loadManySpec)) loadManyCard

/-- THE TIED CARD OF 'grommetlaw11.LoadEmpty'. -/
def loadEmptyCard : Claim7 := { stood := { row := loadEmptyRow, standIns := [], harness := (true, "bdef05920f2a6b77782ceb15a620b24e02a89c5d1b8a82a97c0c2a51d329f502"), looks := true }, kinds := [], alts := [], laidByText := true, laidKinds := [.data, .data, .data, .data, .sentinel, .sentinel, .data, .data, .pinned], laidTests := true, laidLooks := .later }
def LoadEmptyCardSaid : Prop := Claim7.holds Tryz.pinned (.plain (OpenSpec.ofChange loadEmptySpec)) loadEmptyCard

/-- THE TIED CARD OF 'grommetlaw11.LoadRows'. -/
def loadRowsCard : Claim7 := { stood := { row := loadRowsRow, standIns := [], harness := (true, "bdef05920f2a6b77782ceb15a620b24e02a89c5d1b8a82a97c0c2a51d329f502"), looks := true }, kinds := [], alts := [], laidByText := true, laidKinds := [.data, .data, .data, .data, .sentinel, .sentinel, .data, .data, .pinned], laidTests := true, laidLooks := .later }
def LoadRowsCardSaid : Prop := Claim7.holds Tryz.pinned (.plain (OpenSpec.ofChange loadRowsSpec)) loadRowsCard

/-- THE SECOND FORM's CARD OF 'grommetlaw11.LoadParts'. -/
def loadPartsUptoCard : Claim7 := { stood := { row := loadPartsUptoRow, standIns := [], harness := (true, "bdef05920f2a6b77782ceb15a620b24e02a89c5d1b8a82a97c0c2a51d329f502"), looks := true }, kinds := [], alts := [], laidByText := true, laidKinds := [.data, .data, .data, .data, .sentinel, .sentinel, .data, .data, .pinned], laidTests := true, laidLooks := .later }
def LoadPartsUptoCardSaid : Prop := Claim7.holds Tryz.pinned (.plain (OpenSpec.upto loadPartsSpec)) loadPartsUptoCard

/-- THE SECOND FORM's CARD OF 'grommetlaw11.LoadMany'. -/
def loadManyUptoCard : Claim7 := { stood := { row := loadManyUptoRow, standIns := [], harness := (true, "bdef05920f2a6b77782ceb15a620b24e02a89c5d1b8a82a97c0c2a51d329f502"), looks := true }, kinds := [], alts := [], laidByText := true, laidKinds := [.data, .data, .data, .data, .sentinel, .sentinel, .data, .data, .pinned], laidTests := true, laidLooks := .later }
def LoadManyUptoCardSaid : Prop := Claim7.holds Tryz.pinned (.plain (OpenSpec.upto loadManySpec)) loadManyUptoCard

/-- THE SECOND FORM's CARD OF 'grommetlaw11.LoadEmpty'. -/
def loadEmptyUptoCard : Claim7 := { stood := { row := loadEmptyUptoRow, standIns := [], harness := (true, "bdef05920f2a6b77782ceb15a620b24e02a89c5d1b8a82a97c0c2a51d329f502"), looks := true }, kinds := [], alts := [], laidByText := true, laidKinds := [.data, .data, .data, .data, .sentinel, .sentinel, .data, .data, .pinned], laidTests := true, laidLooks := .later }
def LoadEmptyUptoCardSaid : Prop := Claim7.holds Tryz.pinned (.plain (OpenSpec.upto loadEmptySpec)) loadEmptyUptoCard

/-- THE SECOND FORM's CARD OF 'grommetlaw11.LoadRows'. -/
def loadRowsUptoCard : Claim7 := { stood := { row := loadRowsUptoRow, standIns := [], harness := (true, "bdef05920f2a6b77782ceb15a620b24e02a89c5d1b8a82a97c0c2a51d329f502"), looks := true }, kinds := [], alts := [], laidByText := true, laidKinds := [.data, .data, .data, .data, .sentinel, .sentinel, .data, .data, .pinned], laidTests := true, laidLooks := .later }
def LoadRowsUptoCardSaid : Prop := Claim7.holds Tryz.pinned (.plain (OpenSpec.upto loadRowsSpec)) loadRowsUptoCard
end Rows
end Go.Proofs.YtalijhclfppohaaGreatDoor
