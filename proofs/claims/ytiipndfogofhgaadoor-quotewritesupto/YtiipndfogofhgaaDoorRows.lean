/-
  NARROWER THAN 'FOR EVERY INPUT', by the rows' own cells (each row's printed sentence says how): QuoteReads: laid · QuoteWrites: laid · QuoteSingle: laid · QuoteDouble: laid · QuoteCut: laid · QuoteMeans: laid.
  DERIVED. THE GIVEN ROWS OF THIS SEAT. 6 by the template 'for every input the law returns true; each argument reads behind the call as it read before'; 0 by the template 'total and deterministic' (their statements: YtiipndfogofhgaaDoorTotals.lean).
  GIVEN WITH THE SEED: the statements are not yours to turn. If you find one false, say at which input.
  Laid BY PROGRAM, IN A SANDBOX (cutbox-rows.mjs): the forced cells as the released guide's own fill.sh prints them over the translation 7bdf4fb462edcd2b… (all of the seat's roots in one cut). By AI agents, Wed Nov 11 2026. No macro, syntax, notation, axiom, sorry.
-/
import Derived.Test.YtiipndfogofhgaaDoorChecked
import GoSem.PinnedTables
import GoSem.Claim
import GoSem.ClaimJoined
import GoSem.ClaimMapViews
import Derived.JoinedTies
import Derived.KernelRfl
namespace Go.Proofs.YtiipndfogofhgaaDoor
/- THE CELL 'sum', in the pinned program and in every row, IS THE sha256 OF THE DUMP (.gsa) THAT YtiipndfogofhgaaDoorProg.lean LOADS. Nothing in Lean hashes anything: it is a label: what it is worth is what the hold of that sum in a sandbox is worth. -/
noncomputable def Tryd.pinned : Pinned := { name := "ytiipndfogofhgaadoor", sum := "7bdf4fb462edcd2b0e9b66541ab338b98fad510eb46f3b735c4b5152b38bbd8e", checked := Tryd.checked }
namespace Rows
def none {H : Type} : Left H := { results := [], args := [] }

/- WHAT THE LISTED PACKAGE-LEVEL VARIABLES READ AS WHEN THE CALL BEGINS. Each datum BY PROGRAM (the guide's laid-datum.mjs) off the statement by which the dump's own 'gosem.cut.vars' lays the variable. In a bare row this is a premise. The card (YtiipndfogofhgaaDoorCards.lean) ties it to the program's text. -/
def laid_grommet_quote_shorts {H : Type} : DataW H := .agg [.agg [.lit (.int .u8 34), .lit (.int .i64 34)], .agg [.lit (.int .u8 92), .lit (.int .i64 92)], .agg [.lit (.int .u8 110), .lit (.int .i64 10)], .agg [.lit (.int .u8 116), .lit (.int .i64 9)], .agg [.lit (.int .u8 114), .lit (.int .i64 13)], .agg [.lit (.int .u8 48), .lit (.int .i64 0)]]
def laid_grommet_quote_numbered {H : Type} : DataW H := .agg [.agg [.lit (.int .u8 120), .lit (.int .i64 2)], .agg [.lit (.int .u8 117), .lit (.int .i64 4)], .agg [.lit (.int .u8 85), .lit (.int .i64 8)]]
def laid_unicode_utf8_acceptRanges {H : Type} : DataW H := .agg [.agg [.lit (.int .u8 128), .lit (.int .u8 191)], .agg [.lit (.int .u8 160), .lit (.int .u8 191)], .agg [.lit (.int .u8 128), .lit (.int .u8 159)], .agg [.lit (.int .u8 144), .lit (.int .u8 191)], .agg [.lit (.int .u8 128), .lit (.int .u8 143)], .agg [.lit (.int .u8 0), .lit (.int .u8 0)], .agg [.lit (.int .u8 0), .lit (.int .u8 0)], .agg [.lit (.int .u8 0), .lit (.int .u8 0)], .agg [.lit (.int .u8 0), .lit (.int .u8 0)], .agg [.lit (.int .u8 0), .lit (.int .u8 0)], .agg [.lit (.int .u8 0), .lit (.int .u8 0)], .agg [.lit (.int .u8 0), .lit (.int .u8 0)], .agg [.lit (.int .u8 0), .lit (.int .u8 0)], .agg [.lit (.int .u8 0), .lit (.int .u8 0)], .agg [.lit (.int .u8 0), .lit (.int .u8 0)], .agg [.lit (.int .u8 0), .lit (.int .u8 0)]]
/-- One of Go's own tables, pinned by name: the form's constant. -/
def laid_unicode_utf8_first : DataW Unit := Go.Pinned.utf8First

/-- 'grommetlaw07.QuoteReads': WHATEVER THE INPUT: true; the input reads as it did. -/
def quoteReadsSpec : ChangeSpec := { name := "quoteReads", fn := fun _ => fun
  | [d] => { results := [.lit (.bool true)], args := [d] }
  | _ => none }
def quoteReadsRow : OpenClaim := { program := "ytiipndfogofhgaadoor", sum := "7bdf4fb462edcd2b0e9b66541ab338b98fad510eb46f3b735c4b5152b38bbd8e", func := "grommet/grommetlaw07.QuoteReads", spec := "quoteReads", inPlace := ["internal/abi.NoEscape"], named := ["grommet/quote.shorts", "grommet/quote.numbered"], apart := false, laid := [("grommet/quote.shorts", laid_grommet_quote_shorts), ("grommet/quote.numbered", laid_grommet_quote_numbered)] }
def QuoteReadsSaid : Prop := quoteReadsRow.holds Tryd.pinned (OpenSpec.ofChange quoteReadsSpec)

/-- ITS FALSE NEIGHBOUR: 'it returns false'. Refute it at one input. -/
def quoteReadsWrong : ChangeSpec := { name := "quoteReads", fn := fun _ => fun
  | [d] => { results := [.lit (.bool false)], args := [d] }
  | _ => none }
def QuoteReadsWrongFalsely : Prop := quoteReadsRow.holds Tryd.pinned (OpenSpec.ofChange quoteReadsWrong)

/-- 'grommetlaw07.QuoteWrites': WHATEVER THE INPUT: true; the input reads as it did. -/
def quoteWritesSpec : ChangeSpec := { name := "quoteWrites", fn := fun _ => fun
  | [d] => { results := [.lit (.bool true)], args := [d] }
  | _ => none }
def quoteWritesRow : OpenClaim := { program := "ytiipndfogofhgaadoor", sum := "7bdf4fb462edcd2b0e9b66541ab338b98fad510eb46f3b735c4b5152b38bbd8e", func := "grommet/grommetlaw07.QuoteWrites", spec := "quoteWrites", inPlace := ["internal/bytealg.CountString", "internal/bytealg.IndexByteString", "internal/bytealg.IndexString", "internal/abi.NoEscape", "internal/bytealg.MakeNoZero"], named := ["internal/bytealg.MaxLen", "unicode/utf8.first", "unicode/utf8.acceptRanges", "grommet/quote.shorts", "grommet/quote.numbered"], apart := false, laid := [("unicode/utf8.acceptRanges", laid_unicode_utf8_acceptRanges), ("grommet/quote.shorts", laid_grommet_quote_shorts), ("grommet/quote.numbered", laid_grommet_quote_numbered), ("unicode/utf8.first", laid_unicode_utf8_first)] }
def QuoteWritesSaid : Prop := quoteWritesRow.holds Tryd.pinned (OpenSpec.ofChange quoteWritesSpec)

/-- ITS FALSE NEIGHBOUR: 'it returns false'. Refute it at one input. -/
def quoteWritesWrong : ChangeSpec := { name := "quoteWrites", fn := fun _ => fun
  | [d] => { results := [.lit (.bool false)], args := [d] }
  | _ => none }
def QuoteWritesWrongFalsely : Prop := quoteWritesRow.holds Tryd.pinned (OpenSpec.ofChange quoteWritesWrong)

/-- 'grommetlaw07.QuoteSingle': WHATEVER THE INPUT: true; the input reads as it did. -/
def quoteSingleSpec : ChangeSpec := { name := "quoteSingle", fn := fun _ => fun
  | [d1, d2] => { results := [.lit (.bool true)], args := [d1, d2] }
  | _ => none }
def quoteSingleRow : OpenClaim := { program := "ytiipndfogofhgaadoor", sum := "7bdf4fb462edcd2b0e9b66541ab338b98fad510eb46f3b735c4b5152b38bbd8e", func := "grommet/grommetlaw07.QuoteSingle", spec := "quoteSingle", inPlace := ["internal/bytealg.CountString", "internal/bytealg.IndexByteString", "internal/bytealg.IndexString", "internal/abi.NoEscape", "internal/bytealg.MakeNoZero"], named := ["internal/bytealg.MaxLen", "unicode/utf8.first", "unicode/utf8.acceptRanges", "grommet/quote.shorts", "grommet/quote.numbered"], apart := false, laid := [("unicode/utf8.acceptRanges", laid_unicode_utf8_acceptRanges), ("grommet/quote.shorts", laid_grommet_quote_shorts), ("grommet/quote.numbered", laid_grommet_quote_numbered), ("unicode/utf8.first", laid_unicode_utf8_first)] }
def QuoteSingleSaid : Prop := quoteSingleRow.holds Tryd.pinned (OpenSpec.ofChange quoteSingleSpec)

/-- ITS FALSE NEIGHBOUR: 'it returns false'. Refute it at one input. -/
def quoteSingleWrong : ChangeSpec := { name := "quoteSingle", fn := fun _ => fun
  | [d1, d2] => { results := [.lit (.bool false)], args := [d1, d2] }
  | _ => none }
def QuoteSingleWrongFalsely : Prop := quoteSingleRow.holds Tryd.pinned (OpenSpec.ofChange quoteSingleWrong)

/-- 'grommetlaw07.QuoteDouble': WHATEVER THE INPUT: true; the input reads as it did. -/
def quoteDoubleSpec : ChangeSpec := { name := "quoteDouble", fn := fun _ => fun
  | [d1, d2] => { results := [.lit (.bool true)], args := [d1, d2] }
  | _ => none }
def quoteDoubleRow : OpenClaim := { program := "ytiipndfogofhgaadoor", sum := "7bdf4fb462edcd2b0e9b66541ab338b98fad510eb46f3b735c4b5152b38bbd8e", func := "grommet/grommetlaw07.QuoteDouble", spec := "quoteDouble", inPlace := ["internal/abi.NoEscape"], named := ["grommet/quote.shorts", "grommet/quote.numbered"], apart := false, laid := [("grommet/quote.shorts", laid_grommet_quote_shorts), ("grommet/quote.numbered", laid_grommet_quote_numbered)] }
def QuoteDoubleSaid : Prop := quoteDoubleRow.holds Tryd.pinned (OpenSpec.ofChange quoteDoubleSpec)

/-- ITS FALSE NEIGHBOUR: 'it returns false'. Refute it at one input. -/
def quoteDoubleWrong : ChangeSpec := { name := "quoteDouble", fn := fun _ => fun
  | [d1, d2] => { results := [.lit (.bool false)], args := [d1, d2] }
  | _ => none }
def QuoteDoubleWrongFalsely : Prop := quoteDoubleRow.holds Tryd.pinned (OpenSpec.ofChange quoteDoubleWrong)

/-- 'grommetlaw07.QuoteCut': WHATEVER THE INPUT: true; the input reads as it did. -/
def quoteCutSpec : ChangeSpec := { name := "quoteCut", fn := fun _ => fun
  | [d1, d2, d3] => { results := [.lit (.bool true)], args := [d1, d2, d3] }
  | _ => none }
def quoteCutRow : OpenClaim := { program := "ytiipndfogofhgaadoor", sum := "7bdf4fb462edcd2b0e9b66541ab338b98fad510eb46f3b735c4b5152b38bbd8e", func := "grommet/grommetlaw07.QuoteCut", spec := "quoteCut", inPlace := ["internal/bytealg.CountString", "internal/bytealg.IndexByteString", "internal/bytealg.IndexString", "internal/abi.NoEscape", "internal/bytealg.MakeNoZero"], named := ["internal/bytealg.MaxLen", "unicode/utf8.first", "unicode/utf8.acceptRanges", "grommet/quote.shorts", "grommet/quote.numbered"], apart := false, laid := [("unicode/utf8.acceptRanges", laid_unicode_utf8_acceptRanges), ("grommet/quote.shorts", laid_grommet_quote_shorts), ("grommet/quote.numbered", laid_grommet_quote_numbered), ("unicode/utf8.first", laid_unicode_utf8_first)] }
def QuoteCutSaid : Prop := quoteCutRow.holds Tryd.pinned (OpenSpec.ofChange quoteCutSpec)

/-- ITS FALSE NEIGHBOUR: 'it returns false'. Refute it at one input. -/
def quoteCutWrong : ChangeSpec := { name := "quoteCut", fn := fun _ => fun
  | [d1, d2, d3] => { results := [.lit (.bool false)], args := [d1, d2, d3] }
  | _ => none }
def QuoteCutWrongFalsely : Prop := quoteCutRow.holds Tryd.pinned (OpenSpec.ofChange quoteCutWrong)

/-- 'grommetlaw07.QuoteMeans': WHATEVER THE INPUT: true; the input reads as it did. -/
def quoteMeansSpec : ChangeSpec := { name := "quoteMeans", fn := fun _ => fun
  | [d] => { results := [.lit (.bool true)], args := [d] }
  | _ => none }
def quoteMeansRow : OpenClaim := { program := "ytiipndfogofhgaadoor", sum := "7bdf4fb462edcd2b0e9b66541ab338b98fad510eb46f3b735c4b5152b38bbd8e", func := "grommet/grommetlaw07.QuoteMeans", spec := "quoteMeans", inPlace := ["internal/abi.NoEscape"], named := ["grommet/quote.shorts", "grommet/quote.numbered"], apart := false, laid := [("grommet/quote.shorts", laid_grommet_quote_shorts), ("grommet/quote.numbered", laid_grommet_quote_numbered)] }
def QuoteMeansSaid : Prop := quoteMeansRow.holds Tryd.pinned (OpenSpec.ofChange quoteMeansSpec)

/-- ITS FALSE NEIGHBOUR: 'it returns false'. Refute it at one input. -/
def quoteMeansWrong : ChangeSpec := { name := "quoteMeans", fn := fun _ => fun
  | [d] => { results := [.lit (.bool false)], args := [d] }
  | _ => none }
def QuoteMeansWrongFalsely : Prop := quoteMeansRow.holds Tryd.pinned (OpenSpec.ofChange quoteMeansWrong)

/- THE SECOND FORM. 'bulk': how many values and letters a reading holds, each counted each time it is reached (what is shared counts as often as it is met; a slice's spare places count too). A statement '..UptoSaid' is the law's where the arguments, and the package variables that the reading takes, are together of bulk at most 1048576: NARROWER than '..Said'. Prove '..Said' where nothing that the law and all that it calls make is longer than what came in: it says more and counts as full. Else prove '..UptoSaid'. A law counts once. -/
mutual
def uptoBulk {H : Type} : DataW H → Nat
  | .lit (.string bytes) => bytes.length + 1
  | .lit _ => 1
  | .nil => 1
  | .ptr d => uptoBulk d + 1
  | .slice elems spare => uptoBulkAll elems + uptoBulkAll spare + 1
  | .agg parts => uptoBulkAll parts + 1
  | .iface _ d => uptoBulk d + 1
  | .map entries => uptoBulkEntries entries + 1
  | .held _ => 1
def uptoBulkAll {H : Type} : List (DataW H) → Nat
  | [] => 0
  | d :: r => uptoBulk d + uptoBulkAll r
def uptoBulkEntries {H : Type} : List (Lit × DataW H) → Nat
  | [] => 0
  | x :: r => uptoBulkEntry x + uptoBulkEntries r
def uptoBulkEntry {H : Type} : Lit × DataW H → Nat
  | (.string bytes, d) => bytes.length + uptoBulk d + 1
  | (_, d) => uptoBulk d + 1
 end
def uptoSmall : (H : Type) → List (DataW H) → Bool := fun _ ds => decide (uptoBulkAll ds ≤ 1048576)
def OpenSpec.upto (s : _root_.Go.ChangeSpec) : _root_.Go.OpenSpec := { _root_.Go.OpenSpec.ofChange s with cond := some uptoSmall }

/-- 'grommetlaw07.QuoteReads', WHERE WHAT IT READS IS OF BULK AT MOST 1048576: true; the input reads as it did. -/
def quoteReadsUptoRow : OpenClaim := { program := "ytiipndfogofhgaadoor", sum := "7bdf4fb462edcd2b0e9b66541ab338b98fad510eb46f3b735c4b5152b38bbd8e", func := "grommet/grommetlaw07.QuoteReads", spec := "quoteReads", inPlace := ["internal/abi.NoEscape"], named := ["grommet/quote.shorts", "grommet/quote.numbered"], apart := false, laid := [("grommet/quote.shorts", laid_grommet_quote_shorts), ("grommet/quote.numbered", laid_grommet_quote_numbered)], narrowed := true }
def QuoteReadsUptoSaid : Prop := quoteReadsUptoRow.holds Tryd.pinned (OpenSpec.upto quoteReadsSpec)

/-- 'grommetlaw07.QuoteWrites', WHERE WHAT IT READS IS OF BULK AT MOST 1048576: true; the input reads as it did. -/
def quoteWritesUptoRow : OpenClaim := { program := "ytiipndfogofhgaadoor", sum := "7bdf4fb462edcd2b0e9b66541ab338b98fad510eb46f3b735c4b5152b38bbd8e", func := "grommet/grommetlaw07.QuoteWrites", spec := "quoteWrites", inPlace := ["internal/bytealg.CountString", "internal/bytealg.IndexByteString", "internal/bytealg.IndexString", "internal/abi.NoEscape", "internal/bytealg.MakeNoZero"], named := ["internal/bytealg.MaxLen", "unicode/utf8.first", "unicode/utf8.acceptRanges", "grommet/quote.shorts", "grommet/quote.numbered"], apart := false, laid := [("unicode/utf8.acceptRanges", laid_unicode_utf8_acceptRanges), ("grommet/quote.shorts", laid_grommet_quote_shorts), ("grommet/quote.numbered", laid_grommet_quote_numbered), ("unicode/utf8.first", laid_unicode_utf8_first)], narrowed := true }
def QuoteWritesUptoSaid : Prop := quoteWritesUptoRow.holds Tryd.pinned (OpenSpec.upto quoteWritesSpec)

/-- 'grommetlaw07.QuoteSingle', WHERE WHAT IT READS IS OF BULK AT MOST 1048576: true; the input reads as it did. -/
def quoteSingleUptoRow : OpenClaim := { program := "ytiipndfogofhgaadoor", sum := "7bdf4fb462edcd2b0e9b66541ab338b98fad510eb46f3b735c4b5152b38bbd8e", func := "grommet/grommetlaw07.QuoteSingle", spec := "quoteSingle", inPlace := ["internal/bytealg.CountString", "internal/bytealg.IndexByteString", "internal/bytealg.IndexString", "internal/abi.NoEscape", "internal/bytealg.MakeNoZero"], named := ["internal/bytealg.MaxLen", "unicode/utf8.first", "unicode/utf8.acceptRanges", "grommet/quote.shorts", "grommet/quote.numbered"], apart := false, laid := [("unicode/utf8.acceptRanges", laid_unicode_utf8_acceptRanges), ("grommet/quote.shorts", laid_grommet_quote_shorts), ("grommet/quote.numbered", laid_grommet_quote_numbered), ("unicode/utf8.first", laid_unicode_utf8_first)], narrowed := true }
def QuoteSingleUptoSaid : Prop := quoteSingleUptoRow.holds Tryd.pinned (OpenSpec.upto quoteSingleSpec)

/-- 'grommetlaw07.QuoteDouble', WHERE WHAT IT READS IS OF BULK AT MOST 1048576: true; the input reads as it did. -/
def quoteDoubleUptoRow : OpenClaim := { program := "ytiipndfogofhgaadoor", sum := "7bdf4fb462edcd2b0e9b66541ab338b98fad510eb46f3b735c4b5152b38bbd8e", func := "grommet/grommetlaw07.QuoteDouble", spec := "quoteDouble", inPlace := ["internal/abi.NoEscape"], named := ["grommet/quote.shorts", "grommet/quote.numbered"], apart := false, laid := [("grommet/quote.shorts", laid_grommet_quote_shorts), ("grommet/quote.numbered", laid_grommet_quote_numbered)], narrowed := true }
def QuoteDoubleUptoSaid : Prop := quoteDoubleUptoRow.holds Tryd.pinned (OpenSpec.upto quoteDoubleSpec)

/-- 'grommetlaw07.QuoteCut', WHERE WHAT IT READS IS OF BULK AT MOST 1048576: true; the input reads as it did. -/
def quoteCutUptoRow : OpenClaim := { program := "ytiipndfogofhgaadoor", sum := "7bdf4fb462edcd2b0e9b66541ab338b98fad510eb46f3b735c4b5152b38bbd8e", func := "grommet/grommetlaw07.QuoteCut", spec := "quoteCut", inPlace := ["internal/bytealg.CountString", "internal/bytealg.IndexByteString", "internal/bytealg.IndexString", "internal/abi.NoEscape", "internal/bytealg.MakeNoZero"], named := ["internal/bytealg.MaxLen", "unicode/utf8.first", "unicode/utf8.acceptRanges", "grommet/quote.shorts", "grommet/quote.numbered"], apart := false, laid := [("unicode/utf8.acceptRanges", laid_unicode_utf8_acceptRanges), ("grommet/quote.shorts", laid_grommet_quote_shorts), ("grommet/quote.numbered", laid_grommet_quote_numbered), ("unicode/utf8.first", laid_unicode_utf8_first)], narrowed := true }
def QuoteCutUptoSaid : Prop := quoteCutUptoRow.holds Tryd.pinned (OpenSpec.upto quoteCutSpec)

/-- 'grommetlaw07.QuoteMeans', WHERE WHAT IT READS IS OF BULK AT MOST 1048576: true; the input reads as it did. -/
def quoteMeansUptoRow : OpenClaim := { program := "ytiipndfogofhgaadoor", sum := "7bdf4fb462edcd2b0e9b66541ab338b98fad510eb46f3b735c4b5152b38bbd8e", func := "grommet/grommetlaw07.QuoteMeans", spec := "quoteMeans", inPlace := ["internal/abi.NoEscape"], named := ["grommet/quote.shorts", "grommet/quote.numbered"], apart := false, laid := [("grommet/quote.shorts", laid_grommet_quote_shorts), ("grommet/quote.numbered", laid_grommet_quote_numbered)], narrowed := true }
def QuoteMeansUptoSaid : Prop := quoteMeansUptoRow.holds Tryd.pinned (OpenSpec.upto quoteMeansSpec)

end Rows
end Go.Proofs.YtiipndfogofhgaaDoor
