/-
  DERIVED. GIVEN WITH THE SEED: THE CARDS: each row of YtaphijgbebhdlaaGreatDoorRows.lean that lists a variable, with what it lists TIED to the program's text (the seventh form; the later family's looks); each row that meets fmt, with fmt's text TOLD by the authors' own Lean function (tested against real Go, not proved from fmt's source: count such statements apart). THE CARD IS WHAT COUNTS. Prove the row's statement (the work); the ties are given (YtaphijgbebhdlaaGreatDoorTie.lean); close each card by the builder's one call (the guide's Derived/Test/ToyasCard.lean, 'card_holds'). Laid BY PROGRAM, IN A SANDBOX (cutbox-door.mjs). By AI agents, Wed Nov 11 2026. No macro, syntax, notation, axiom, sorry.
-/
import Derived.Test.YtaphijgbebhdlaaGreatDoorRows
import GoSem.ClaimSeven
namespace Go.Proofs.YtaphijgbebhdlaaGreatDoor
namespace Rows

/-- THE TIED CARD OF 'grommetlaw14.LayTrees'. -/
def layTreesCard : Claim7 := { stood := { row := layTreesRow, standIns := [], harness := (true, "c1acdb8f699c537d7d1c9b9079d63b4d7d8ed3d61272eea0afee763ae2b208e6"), looks := true }, kinds := [], alts := [], laidByText := true, laidKinds := [.data, .data, .data, .sentinel, .sentinel, .data, .data], laidTests := true, laidLooks := .later }
def LayTreesCardSaid : Prop := Claim7.holds Tryz.pinned (.plain (OpenSpec.ofChange layTreesSpec)) layTreesCard

/-- THE TIED CARD OF 'grommetlaw14.LayTrims'. -/
def layTrimsCard : Claim7 := { stood := { row := layTrimsRow, standIns := [], harness := (true, "c1acdb8f699c537d7d1c9b9079d63b4d7d8ed3d61272eea0afee763ae2b208e6"), looks := true }, kinds := [], alts := [], laidByText := true, laidKinds := [.data, .data, .data, .sentinel, .sentinel, .data, .data], laidTests := true, laidLooks := .later }
def LayTrimsCardSaid : Prop := Claim7.holds Tryz.pinned (.plain (OpenSpec.ofChange layTrimsSpec)) layTrimsCard

/-- THE SECOND FORM's CARD OF 'grommetlaw14.LayTrees'. -/
def layTreesUptoCard : Claim7 := { stood := { row := layTreesUptoRow, standIns := [], harness := (true, "c1acdb8f699c537d7d1c9b9079d63b4d7d8ed3d61272eea0afee763ae2b208e6"), looks := true }, kinds := [], alts := [], laidByText := true, laidKinds := [.data, .data, .data, .sentinel, .sentinel, .data, .data], laidTests := true, laidLooks := .later }
def LayTreesUptoCardSaid : Prop := Claim7.holds Tryz.pinned (.plain (OpenSpec.upto layTreesSpec)) layTreesUptoCard

/-- THE SECOND FORM's CARD OF 'grommetlaw14.LayTrims'. -/
def layTrimsUptoCard : Claim7 := { stood := { row := layTrimsUptoRow, standIns := [], harness := (true, "c1acdb8f699c537d7d1c9b9079d63b4d7d8ed3d61272eea0afee763ae2b208e6"), looks := true }, kinds := [], alts := [], laidByText := true, laidKinds := [.data, .data, .data, .sentinel, .sentinel, .data, .data], laidTests := true, laidLooks := .later }
def LayTrimsUptoCardSaid : Prop := Claim7.holds Tryz.pinned (.plain (OpenSpec.upto layTrimsSpec)) layTrimsUptoCard
end Rows
end Go.Proofs.YtaphijgbebhdlaaGreatDoor
