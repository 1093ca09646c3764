/-
  DERIVED. GIVEN WITH THE SEED: THE CARDS: each row of YtiipndfogofhgaaDoorRows.lean that lists a variable, with what it lists TIED to the program's text (the seventh form; the later family's looks); each row that meets fmt, with fmt's text TOLD by the authors' own Lean function (tested against real Go, not proved from fmt's source: count such statements apart). THE CARD IS WHAT COUNTS. Prove the row's statement (the work); the ties are given (YtiipndfogofhgaaDoorTie.lean); close each card by the builder's one call (the guide's Derived/Test/ToyasCard.lean, 'card_holds'). Laid BY PROGRAM, IN A SANDBOX (cutbox-door.mjs). By AI agents, Wed Nov 11 2026. No macro, syntax, notation, axiom, sorry.
-/
import Derived.Test.YtiipndfogofhgaaDoorRows
import GoSem.ClaimSeven
namespace Go.Proofs.YtiipndfogofhgaaDoor
namespace Rows

/-- THE TIED CARD OF 'grommetlaw07.QuoteReads'. -/
def quoteReadsCard : Claim7 := { stood := { row := quoteReadsRow, standIns := [], harness := (true, "f55c85c97c8112244d202ed9fcb19d54aac457d0a058636a5c230b94940de6f4"), looks := false }, kinds := [], alts := [], laidByText := true, laidKinds := [.data, .data], laidTests := true, laidLooks := .later }
def QuoteReadsCardSaid : Prop := Claim7.holds Tryd.pinned (.plain (OpenSpec.ofChange quoteReadsSpec)) quoteReadsCard

/-- THE TIED CARD OF 'grommetlaw07.QuoteWrites'. -/
def quoteWritesCard : Claim7 := { stood := { row := quoteWritesRow, standIns := [], harness := (true, "f55c85c97c8112244d202ed9fcb19d54aac457d0a058636a5c230b94940de6f4"), looks := false }, kinds := [], alts := [], laidByText := true, laidKinds := [.data, .data, .data, .pinned], laidTests := true, laidLooks := .later }
def QuoteWritesCardSaid : Prop := Claim7.holds Tryd.pinned (.plain (OpenSpec.ofChange quoteWritesSpec)) quoteWritesCard

/-- THE TIED CARD OF 'grommetlaw07.QuoteSingle'. -/
def quoteSingleCard : Claim7 := { stood := { row := quoteSingleRow, standIns := [], harness := (true, "f55c85c97c8112244d202ed9fcb19d54aac457d0a058636a5c230b94940de6f4"), looks := false }, kinds := [], alts := [], laidByText := true, laidKinds := [.data, .data, .data, .pinned], laidTests := true, laidLooks := .later }
def QuoteSingleCardSaid : Prop := Claim7.holds Tryd.pinned (.plain (OpenSpec.ofChange quoteSingleSpec)) quoteSingleCard

/-- THE TIED CARD OF 'grommetlaw07.QuoteDouble'. -/
def quoteDoubleCard : Claim7 := { stood := { row := quoteDoubleRow, standIns := [], harness := (true, "f55c85c97c8112244d202ed9fcb19d54aac457d0a058636a5c230b94940de6f4"), looks := false }, kinds := [], alts := [], laidByText := true, laidKinds := [.data, .data], laidTests := true, laidLooks := .later }
def QuoteDoubleCardSaid : Prop := Claim7.holds Tryd.pinned (.plain (OpenSpec.ofChange quoteDoubleSpec)) quoteDoubleCard

/-- THE TIED CARD OF 'grommetlaw07.QuoteCut'. -/
def quoteCutCard : Claim7 := { stood := { row := quoteCutRow, standIns := [], harness := (true, "f55c85c97c8112244d202ed9fcb19d54aac457d0a058636a5c230b94940de6f4"), looks := false }, kinds := [], alts := [], laidByText := true, laidKinds := [.data, .data, .data, .pinned], laidTests := true, laidLooks := .later }
def QuoteCutCardSaid : Prop := Claim7.holds Tryd.pinned (.plain (OpenSpec.ofChange quoteCutSpec)) quoteCutCard

/-- THE TIED CARD OF 'grommetlaw07.QuoteMeans'. -/
def quoteMeansCard : Claim7 := { stood := { row := quoteMeansRow, standIns := [], harness := (true, "f55c85c97c8112244d202ed9fcb19d54aac457d0a058636a5c230b94940de6f4"), looks := false }, kinds := [], alts := [], laidByText := true, laidKinds := [.data, .data], laidTests := true, laidLooks := .later }
def QuoteMeansCardSaid : Prop := Claim7.holds Tryd.pinned (.plain (OpenSpec.ofChange quoteMeansSpec)) quoteMeansCard

/-- THE SECOND FORM's CARD OF 'grommetlaw07.QuoteReads'. -/
def quoteReadsUptoCard : Claim7 := { stood := { row := quoteReadsUptoRow, standIns := [], harness := (true, "f55c85c97c8112244d202ed9fcb19d54aac457d0a058636a5c230b94940de6f4"), looks := false }, kinds := [], alts := [], laidByText := true, laidKinds := [.data, .data], laidTests := true, laidLooks := .later }
def QuoteReadsUptoCardSaid : Prop := Claim7.holds Tryd.pinned (.plain (OpenSpec.upto quoteReadsSpec)) quoteReadsUptoCard

/-- THE SECOND FORM's CARD OF 'grommetlaw07.QuoteWrites'. -/
def quoteWritesUptoCard : Claim7 := { stood := { row := quoteWritesUptoRow, standIns := [], harness := (true, "f55c85c97c8112244d202ed9fcb19d54aac457d0a058636a5c230b94940de6f4"), looks := false }, kinds := [], alts := [], laidByText := true, laidKinds := [.data, .data, .data, .pinned], laidTests := true, laidLooks := .later }
def QuoteWritesUptoCardSaid : Prop := Claim7.holds Tryd.pinned (.plain (OpenSpec.upto quoteWritesSpec)) quoteWritesUptoCard

/-- THE SECOND FORM's CARD OF 'grommetlaw07.QuoteSingle'. -/
def quoteSingleUptoCard : Claim7 := { stood := { row := quoteSingleUptoRow, standIns := [], harness := (true, "f55c85c97c8112244d202ed9fcb19d54aac457d0a058636a5c230b94940de6f4"), looks := false }, kinds := [], alts := [], laidByText := true, laidKinds := [.data, .data, .data, .pinned], laidTests := true, laidLooks := .later }
def QuoteSingleUptoCardSaid : Prop := Claim7.holds Tryd.pinned (.plain (OpenSpec.upto quoteSingleSpec)) quoteSingleUptoCard

/-- THE SECOND FORM's CARD OF 'grommetlaw07.QuoteDouble'. -/
def quoteDoubleUptoCard : Claim7 := { stood := { row := quoteDoubleUptoRow, standIns := [], harness := (true, "f55c85c97c8112244d202ed9fcb19d54aac457d0a058636a5c230b94940de6f4"), looks := false }, kinds := [], alts := [], laidByText := true, laidKinds := [.data, .data], laidTests := true, laidLooks := .later }
def QuoteDoubleUptoCardSaid : Prop := Claim7.holds Tryd.pinned (.plain (OpenSpec.upto quoteDoubleSpec)) quoteDoubleUptoCard

/-- THE SECOND FORM's CARD OF 'grommetlaw07.QuoteCut'. -/
def quoteCutUptoCard : Claim7 := { stood := { row := quoteCutUptoRow, standIns := [], harness := (true, "f55c85c97c8112244d202ed9fcb19d54aac457d0a058636a5c230b94940de6f4"), looks := false }, kinds := [], alts := [], laidByText := true, laidKinds := [.data, .data, .data, .pinned], laidTests := true, laidLooks := .later }
def QuoteCutUptoCardSaid : Prop := Claim7.holds Tryd.pinned (.plain (OpenSpec.upto quoteCutSpec)) quoteCutUptoCard

/-- THE SECOND FORM's CARD OF 'grommetlaw07.QuoteMeans'. -/
def quoteMeansUptoCard : Claim7 := { stood := { row := quoteMeansUptoRow, standIns := [], harness := (true, "f55c85c97c8112244d202ed9fcb19d54aac457d0a058636a5c230b94940de6f4"), looks := false }, kinds := [], alts := [], laidByText := true, laidKinds := [.data, .data], laidTests := true, laidLooks := .later }
def QuoteMeansUptoCardSaid : Prop := Claim7.holds Tryd.pinned (.plain (OpenSpec.upto quoteMeansSpec)) quoteMeansUptoCard
end Rows
end Go.Proofs.YtiipndfogofhgaaDoor
