/-
  DERIVED. GIVEN WITH THE SEED: THE CARDS: each row of YtaflbooofchimaaGreatDoorRows.lean that lists a variable, with what it lists TIED to the program's text (the seventh form; the later family's looks); each row that meets fmt, with fmt's text TOLD by the authors' own Lean function (tested against real Go, not proved from fmt's source: count such statements apart). THE CARD IS WHAT COUNTS. Prove the row's statement (the work); the ties are given (YtaflbooofchimaaGreatDoorTie.lean); close each card by the builder's one call (the guide's Derived/Test/ToyasCard.lean, 'card_holds'). Laid BY PROGRAM, IN A SANDBOX (cutbox-door.mjs). By AI agents, Wed Nov 11 2026. No macro, syntax, notation, axiom, sorry.
-/
import Derived.Test.YtaflbooofchimaaGreatDoorRows
import GoSem.ClaimSeven
namespace Go.Proofs.YtaflbooofchimaaGreatDoor
namespace Rows

/-- THE TIED CARD OF 'grommetlaw13.IsoTells'. -/
def isoTellsCard : Claim7 := { stood := { row := isoTellsRow, standIns := [], harness := (true, "306c8ec0fb46235d8a4452660791172612520d185d2894eae24cff5e369d0281"), looks := true }, kinds := [], alts := [], laidByText := true, laidKinds := [.data, .data, .data, .sentinel, .sentinel], laidTests := true, laidLooks := .later }
def IsoTellsCardSaid : Prop := Claim7.holds Tryz.pinned (.plain (OpenSpec.ofChange isoTellsSpec)) isoTellsCard

/-- THE TIED CARD OF 'grommetlaw13.IsoSorts'. -/
def isoSortsCard : Claim7 := { stood := { row := isoSortsRow, standIns := [], harness := (true, "306c8ec0fb46235d8a4452660791172612520d185d2894eae24cff5e369d0281"), looks := true }, kinds := [], alts := [], laidByText := true, laidKinds := [.data, .data, .data, .sentinel, .sentinel], laidTests := true, laidLooks := .later }
def IsoSortsCardSaid : Prop := Claim7.holds Tryz.pinned (.plain (OpenSpec.ofChange isoSortsSpec)) isoSortsCard

/-- THE SECOND FORM's CARD OF 'grommetlaw13.IsoTells'. -/
def isoTellsUptoCard : Claim7 := { stood := { row := isoTellsUptoRow, standIns := [], harness := (true, "306c8ec0fb46235d8a4452660791172612520d185d2894eae24cff5e369d0281"), looks := true }, kinds := [], alts := [], laidByText := true, laidKinds := [.data, .data, .data, .sentinel, .sentinel], laidTests := true, laidLooks := .later }
def IsoTellsUptoCardSaid : Prop := Claim7.holds Tryz.pinned (.plain (OpenSpec.upto isoTellsSpec)) isoTellsUptoCard

/-- THE SECOND FORM's CARD OF 'grommetlaw13.IsoSorts'. -/
def isoSortsUptoCard : Claim7 := { stood := { row := isoSortsUptoRow, standIns := [], harness := (true, "306c8ec0fb46235d8a4452660791172612520d185d2894eae24cff5e369d0281"), looks := true }, kinds := [], alts := [], laidByText := true, laidKinds := [.data, .data, .data, .sentinel, .sentinel], laidTests := true, laidLooks := .later }
def IsoSortsUptoCardSaid : Prop := Claim7.holds Tryz.pinned (.plain (OpenSpec.upto isoSortsSpec)) isoSortsUptoCard
end Rows
end Go.Proofs.YtaflbooofchimaaGreatDoor
