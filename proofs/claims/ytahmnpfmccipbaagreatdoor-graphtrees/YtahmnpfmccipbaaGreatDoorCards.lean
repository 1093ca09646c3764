/-
  DERIVED. GIVEN WITH THE SEED: THE CARDS: each row of YtahmnpfmccipbaaGreatDoorRows.lean that lists a variable, with what it lists TIED to the program's text (the seventh form; the later family's looks); each row that meets fmt, with fmt's text TOLD by the authors' own Lean function (tested against real Go, not proved from fmt's source: count such statements apart). THE CARD IS WHAT COUNTS. Prove the row's statement (the work); the ties are given (YtahmnpfmccipbaaGreatDoorTie.lean); close each card by the builder's one call (the guide's Derived/Test/ToyasCard.lean, 'card_holds'). Laid BY PROGRAM, IN A SANDBOX (cutbox-door.mjs). By AI agents, Wed Nov 11 2026. No macro, syntax, notation, axiom, sorry.
-/
import Derived.Test.YtahmnpfmccipbaaGreatDoorRows
import GoSem.ClaimSeven
namespace Go.Proofs.YtahmnpfmccipbaaGreatDoor
namespace Rows

/-- THE TIED CARD OF 'grommetlaw12.GraphMay'. -/
def graphMayCard : Claim7 := { stood := { row := graphMayRow, standIns := [], harness := (true, "dea982da26020848e4959648cbd0d69c025061995900ef6510b670e79340cbf5"), looks := true }, kinds := [], alts := [], laidByText := true, laidKinds := [.data, .data, .data, .data, .sentinel, .sentinel, .data, .data, .pinned], laidTests := true, laidLooks := .later }
def GraphMayCardSaid : Prop := Claim7.holds Tryz.pinned (.plain (OpenSpec.ofChange graphMaySpec)) graphMayCard

/-- THE TIED CARD OF 'grommetlaw12.GraphAgain'. -/
def graphAgainCard : Claim7 := { stood := { row := graphAgainRow, standIns := [], harness := (true, "dea982da26020848e4959648cbd0d69c025061995900ef6510b670e79340cbf5"), looks := true }, kinds := [], alts := [], laidByText := true, laidKinds := [.data, .data, .data, .data, .sentinel, .sentinel, .data, .data, .pinned], laidTests := true, laidLooks := .later }
def GraphAgainCardSaid : Prop := Claim7.holds Tryz.pinned (.plain (OpenSpec.ofChange graphAgainSpec)) graphAgainCard

/-- THE TIED CARD OF 'grommetlaw12.GraphTrees'. -/
def graphTreesCard : Claim7 := { stood := { row := graphTreesRow, standIns := [], harness := (true, "dea982da26020848e4959648cbd0d69c025061995900ef6510b670e79340cbf5"), looks := true }, kinds := [], alts := [], laidByText := true, laidKinds := [.data, .data, .data, .data, .sentinel, .sentinel, .data, .data, .pinned], laidTests := true, laidLooks := .later }
def GraphTreesCardSaid : Prop := Claim7.holds Tryz.pinned (.plain (OpenSpec.ofChange graphTreesSpec)) graphTreesCard

/-- THE TIED CARD OF 'grommetlaw12.GraphParted'. -/
def graphPartedCard : Claim7 := { stood := { row := graphPartedRow, standIns := [], harness := (true, "dea982da26020848e4959648cbd0d69c025061995900ef6510b670e79340cbf5"), looks := true }, kinds := [], alts := [], laidByText := true, laidKinds := [.data, .data, .data, .data, .sentinel, .sentinel, .data, .data, .pinned], laidTests := true, laidLooks := .later }
def GraphPartedCardSaid : Prop := Claim7.holds Tryz.pinned (.plain (OpenSpec.ofChange graphPartedSpec)) graphPartedCard

/-- THE SECOND FORM's CARD OF 'grommetlaw12.GraphMay'. -/
def graphMayUptoCard : Claim7 := { stood := { row := graphMayUptoRow, standIns := [], harness := (true, "dea982da26020848e4959648cbd0d69c025061995900ef6510b670e79340cbf5"), looks := true }, kinds := [], alts := [], laidByText := true, laidKinds := [.data, .data, .data, .data, .sentinel, .sentinel, .data, .data, .pinned], laidTests := true, laidLooks := .later }
def GraphMayUptoCardSaid : Prop := Claim7.holds Tryz.pinned (.plain (OpenSpec.upto graphMaySpec)) graphMayUptoCard

/-- THE SECOND FORM's CARD OF 'grommetlaw12.GraphAgain'. -/
def graphAgainUptoCard : Claim7 := { stood := { row := graphAgainUptoRow, standIns := [], harness := (true, "dea982da26020848e4959648cbd0d69c025061995900ef6510b670e79340cbf5"), looks := true }, kinds := [], alts := [], laidByText := true, laidKinds := [.data, .data, .data, .data, .sentinel, .sentinel, .data, .data, .pinned], laidTests := true, laidLooks := .later }
def GraphAgainUptoCardSaid : Prop := Claim7.holds Tryz.pinned (.plain (OpenSpec.upto graphAgainSpec)) graphAgainUptoCard

/-- THE SECOND FORM's CARD OF 'grommetlaw12.GraphTrees'. -/
def graphTreesUptoCard : Claim7 := { stood := { row := graphTreesUptoRow, standIns := [], harness := (true, "dea982da26020848e4959648cbd0d69c025061995900ef6510b670e79340cbf5"), looks := true }, kinds := [], alts := [], laidByText := true, laidKinds := [.data, .data, .data, .data, .sentinel, .sentinel, .data, .data, .pinned], laidTests := true, laidLooks := .later }
def GraphTreesUptoCardSaid : Prop := Claim7.holds Tryz.pinned (.plain (OpenSpec.upto graphTreesSpec)) graphTreesUptoCard

/-- THE SECOND FORM's CARD OF 'grommetlaw12.GraphParted'. -/
def graphPartedUptoCard : Claim7 := { stood := { row := graphPartedUptoRow, standIns := [], harness := (true, "dea982da26020848e4959648cbd0d69c025061995900ef6510b670e79340cbf5"), looks := true }, kinds := [], alts := [], laidByText := true, laidKinds := [.data, .data, .data, .data, .sentinel, .sentinel, .data, .data, .pinned], laidTests := true, laidLooks := .later }
def GraphPartedUptoCardSaid : Prop := Claim7.holds Tryz.pinned (.plain (OpenSpec.upto graphPartedSpec)) graphPartedUptoCard
end Rows
end Go.Proofs.YtahmnpfmccipbaaGreatDoor
