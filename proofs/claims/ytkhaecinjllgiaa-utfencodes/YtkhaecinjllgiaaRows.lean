/-
  No cell of these rows narrows 'for every input' (looked for: loops, veiled, ifaces, maps, wideKeys, modest, calm, conditions, laid).
  DERIVED. THE GIVEN ROWS OF THIS SEAT. 6 by the template 'for every input the law returns true; each argument reads behind the call as it read before'; 0 by the template 'total and deterministic' (their statements: YtkhaecinjllgiaaTotals.lean).
  GIVEN WITH THE SEED: the statements are not yours to turn. If you find one false, say at which input.
  Laid BY PROGRAM, IN A SANDBOX (cutbox-rows.mjs): the forced cells as the released guide's own fill.sh prints them over the translation 783e452049f12f44… (all of the seat's roots in one cut). By AI agents, Wed Nov 11 2026. No macro, syntax, notation, axiom, sorry.
-/
import Derived.Test.YtkhaecinjllgiaaChecked
import GoSem.Claim
import GoSem.ClaimJoined
import GoSem.ClaimMapViews
import Derived.JoinedTies
import Derived.KernelRfl
namespace Go.Proofs.Ytkhaecinjllgiaa
/- THE CELL 'sum', in the pinned program and in every row, IS THE sha256 OF THE DUMP (.gsa) THAT YtkhaecinjllgiaaProg.lean LOADS. Nothing in Lean hashes anything: it is a label: what it is worth is what the hold of that sum in a sandbox is worth. -/
noncomputable def Try.pinned : Pinned := { name := "ytkhaecinjllgiaa", sum := "783e452049f12f448ec1994a5bbb813bc1a54f1e403468b2c86cdc1e57566dcb", checked := Try.checked }
namespace Rows
def none {H : Type} : Left H := { results := [], args := [] }

/-- 'grommetlaw01.UtfEncodes': WHATEVER THE INPUT: true; the input reads as it did. -/
def utfEncodesSpec : ChangeSpec := { name := "utfEncodes", fn := fun _ => fun
  | [d] => { results := [.lit (.bool true)], args := [d] }
  | _ => none }
def utfEncodesRow : OpenClaim := { program := "ytkhaecinjllgiaa", sum := "783e452049f12f448ec1994a5bbb813bc1a54f1e403468b2c86cdc1e57566dcb", func := "grommet/grommetlaw01.UtfEncodes", spec := "utfEncodes", apart := false }
def UtfEncodesSaid : Prop := utfEncodesRow.holds Try.pinned (OpenSpec.ofChange utfEncodesSpec)

/-- ITS FALSE NEIGHBOUR: 'it returns false'. Refute it at one input. -/
def utfEncodesWrong : ChangeSpec := { name := "utfEncodes", fn := fun _ => fun
  | [d] => { results := [.lit (.bool false)], args := [d] }
  | _ => none }
def UtfEncodesWrongFalsely : Prop := utfEncodesRow.holds Try.pinned (OpenSpec.ofChange utfEncodesWrong)

/-- 'grommetlaw01.UtfDecodes': WHATEVER THE INPUT: true; the input reads as it did. -/
def utfDecodesSpec : ChangeSpec := { name := "utfDecodes", fn := fun _ => fun
  | [d] => { results := [.lit (.bool true)], args := [d] }
  | _ => none }
def utfDecodesRow : OpenClaim := { program := "ytkhaecinjllgiaa", sum := "783e452049f12f448ec1994a5bbb813bc1a54f1e403468b2c86cdc1e57566dcb", func := "grommet/grommetlaw01.UtfDecodes", spec := "utfDecodes", apart := false }
def UtfDecodesSaid : Prop := utfDecodesRow.holds Try.pinned (OpenSpec.ofChange utfDecodesSpec)

/-- ITS FALSE NEIGHBOUR: 'it returns false'. Refute it at one input. -/
def utfDecodesWrong : ChangeSpec := { name := "utfDecodes", fn := fun _ => fun
  | [d] => { results := [.lit (.bool false)], args := [d] }
  | _ => none }
def UtfDecodesWrongFalsely : Prop := utfDecodesRow.holds Try.pinned (OpenSpec.ofChange utfDecodesWrong)

/-- 'grommetlaw01.UtfPrints': WHATEVER THE INPUT: true; the input reads as it did. -/
def utfPrintsSpec : ChangeSpec := { name := "utfPrints", fn := fun _ => fun
  | [d1, d2] => { results := [.lit (.bool true)], args := [d1, d2] }
  | _ => none }
def utfPrintsRow : OpenClaim := { program := "ytkhaecinjllgiaa", sum := "783e452049f12f448ec1994a5bbb813bc1a54f1e403468b2c86cdc1e57566dcb", func := "grommet/grommetlaw01.UtfPrints", spec := "utfPrints", apart := false }
def UtfPrintsSaid : Prop := utfPrintsRow.holds Try.pinned (OpenSpec.ofChange utfPrintsSpec)

/-- ITS FALSE NEIGHBOUR: 'it returns false'. Refute it at one input. -/
def utfPrintsWrong : ChangeSpec := { name := "utfPrints", fn := fun _ => fun
  | [d1, d2] => { results := [.lit (.bool false)], args := [d1, d2] }
  | _ => none }
def UtfPrintsWrongFalsely : Prop := utfPrintsRow.holds Try.pinned (OpenSpec.ofChange utfPrintsWrong)

/-- 'grommetlaw01.UtfBack': WHATEVER THE INPUT: true; the input reads as it did. -/
def utfBackSpec : ChangeSpec := { name := "utfBack", fn := fun _ => fun
  | [d] => { results := [.lit (.bool true)], args := [d] }
  | _ => none }
def utfBackRow : OpenClaim := { program := "ytkhaecinjllgiaa", sum := "783e452049f12f448ec1994a5bbb813bc1a54f1e403468b2c86cdc1e57566dcb", func := "grommet/grommetlaw01.UtfBack", spec := "utfBack", apart := false }
def UtfBackSaid : Prop := utfBackRow.holds Try.pinned (OpenSpec.ofChange utfBackSpec)

/-- ITS FALSE NEIGHBOUR: 'it returns false'. Refute it at one input. -/
def utfBackWrong : ChangeSpec := { name := "utfBack", fn := fun _ => fun
  | [d] => { results := [.lit (.bool false)], args := [d] }
  | _ => none }
def UtfBackWrongFalsely : Prop := utfBackRow.holds Try.pinned (OpenSpec.ofChange utfBackWrong)

/-- 'grommetlaw01.UtfTurned': WHATEVER THE INPUT: true; the input reads as it did. -/
def utfTurnedSpec : ChangeSpec := { name := "utfTurned", fn := fun _ => fun
  | [d] => { results := [.lit (.bool true)], args := [d] }
  | _ => none }
def utfTurnedRow : OpenClaim := { program := "ytkhaecinjllgiaa", sum := "783e452049f12f448ec1994a5bbb813bc1a54f1e403468b2c86cdc1e57566dcb", func := "grommet/grommetlaw01.UtfTurned", spec := "utfTurned", apart := false }
def UtfTurnedSaid : Prop := utfTurnedRow.holds Try.pinned (OpenSpec.ofChange utfTurnedSpec)

/-- ITS FALSE NEIGHBOUR: 'it returns false'. Refute it at one input. -/
def utfTurnedWrong : ChangeSpec := { name := "utfTurned", fn := fun _ => fun
  | [d] => { results := [.lit (.bool false)], args := [d] }
  | _ => none }
def UtfTurnedWrongFalsely : Prop := utfTurnedRow.holds Try.pinned (OpenSpec.ofChange utfTurnedWrong)

/-- 'grommetlaw01.UtfApart': WHATEVER THE INPUT: true; the input reads as it did. -/
def utfApartSpec : ChangeSpec := { name := "utfApart", fn := fun _ => fun
  | [d1, d2] => { results := [.lit (.bool true)], args := [d1, d2] }
  | _ => none }
def utfApartRow : OpenClaim := { program := "ytkhaecinjllgiaa", sum := "783e452049f12f448ec1994a5bbb813bc1a54f1e403468b2c86cdc1e57566dcb", func := "grommet/grommetlaw01.UtfApart", spec := "utfApart", apart := false }
def UtfApartSaid : Prop := utfApartRow.holds Try.pinned (OpenSpec.ofChange utfApartSpec)

/-- ITS FALSE NEIGHBOUR: 'it returns false'. Refute it at one input. -/
def utfApartWrong : ChangeSpec := { name := "utfApart", fn := fun _ => fun
  | [d1, d2] => { results := [.lit (.bool false)], args := [d1, d2] }
  | _ => none }
def UtfApartWrongFalsely : Prop := utfApartRow.holds Try.pinned (OpenSpec.ofChange utfApartWrong)

/- THE SECOND FORM. 'bulk': how many values and letters a reading holds, each counted each time it is reached (what is shared counts as often as it is met; a slice's spare places count too). A statement '..UptoSaid' is the law's where the arguments, and the package variables that the reading takes, are together of bulk at most 1048576: NARROWER than '..Said'. Prove '..Said' where nothing that the law and all that it calls make is longer than what came in: it says more and counts as full. Else prove '..UptoSaid'. A law counts once. -/
mutual
def uptoBulk {H : Type} : DataW H → Nat
  | .lit (.string bytes) => bytes.length + 1
  | .lit _ => 1
  | .nil => 1
  | .ptr d => uptoBulk d + 1
  | .slice elems spare => uptoBulkAll elems + uptoBulkAll spare + 1
  | .agg parts => uptoBulkAll parts + 1
  | .iface _ d => uptoBulk d + 1
  | .map entries => uptoBulkEntries entries + 1
  | .held _ => 1
def uptoBulkAll {H : Type} : List (DataW H) → Nat
  | [] => 0
  | d :: r => uptoBulk d + uptoBulkAll r
def uptoBulkEntries {H : Type} : List (Lit × DataW H) → Nat
  | [] => 0
  | x :: r => uptoBulkEntry x + uptoBulkEntries r
def uptoBulkEntry {H : Type} : Lit × DataW H → Nat
  | (.string bytes, d) => bytes.length + uptoBulk d + 1
  | (_, d) => uptoBulk d + 1
 end
def uptoSmall : (H : Type) → List (DataW H) → Bool := fun _ ds => decide (uptoBulkAll ds ≤ 1048576)
def OpenSpec.upto (s : _root_.Go.ChangeSpec) : _root_.Go.OpenSpec := { _root_.Go.OpenSpec.ofChange s with cond := some uptoSmall }

/-- 'grommetlaw01.UtfEncodes', WHERE WHAT IT READS IS OF BULK AT MOST 1048576: true; the input reads as it did. -/
def utfEncodesUptoRow : OpenClaim := { program := "ytkhaecinjllgiaa", sum := "783e452049f12f448ec1994a5bbb813bc1a54f1e403468b2c86cdc1e57566dcb", func := "grommet/grommetlaw01.UtfEncodes", spec := "utfEncodes", apart := false, narrowed := true }
def UtfEncodesUptoSaid : Prop := utfEncodesUptoRow.holds Try.pinned (OpenSpec.upto utfEncodesSpec)

/-- 'grommetlaw01.UtfDecodes', WHERE WHAT IT READS IS OF BULK AT MOST 1048576: true; the input reads as it did. -/
def utfDecodesUptoRow : OpenClaim := { program := "ytkhaecinjllgiaa", sum := "783e452049f12f448ec1994a5bbb813bc1a54f1e403468b2c86cdc1e57566dcb", func := "grommet/grommetlaw01.UtfDecodes", spec := "utfDecodes", apart := false, narrowed := true }
def UtfDecodesUptoSaid : Prop := utfDecodesUptoRow.holds Try.pinned (OpenSpec.upto utfDecodesSpec)

/-- 'grommetlaw01.UtfPrints', WHERE WHAT IT READS IS OF BULK AT MOST 1048576: true; the input reads as it did. -/
def utfPrintsUptoRow : OpenClaim := { program := "ytkhaecinjllgiaa", sum := "783e452049f12f448ec1994a5bbb813bc1a54f1e403468b2c86cdc1e57566dcb", func := "grommet/grommetlaw01.UtfPrints", spec := "utfPrints", apart := false, narrowed := true }
def UtfPrintsUptoSaid : Prop := utfPrintsUptoRow.holds Try.pinned (OpenSpec.upto utfPrintsSpec)

/-- 'grommetlaw01.UtfBack', WHERE WHAT IT READS IS OF BULK AT MOST 1048576: true; the input reads as it did. -/
def utfBackUptoRow : OpenClaim := { program := "ytkhaecinjllgiaa", sum := "783e452049f12f448ec1994a5bbb813bc1a54f1e403468b2c86cdc1e57566dcb", func := "grommet/grommetlaw01.UtfBack", spec := "utfBack", apart := false, narrowed := true }
def UtfBackUptoSaid : Prop := utfBackUptoRow.holds Try.pinned (OpenSpec.upto utfBackSpec)

/-- 'grommetlaw01.UtfTurned', WHERE WHAT IT READS IS OF BULK AT MOST 1048576: true; the input reads as it did. -/
def utfTurnedUptoRow : OpenClaim := { program := "ytkhaecinjllgiaa", sum := "783e452049f12f448ec1994a5bbb813bc1a54f1e403468b2c86cdc1e57566dcb", func := "grommet/grommetlaw01.UtfTurned", spec := "utfTurned", apart := false, narrowed := true }
def UtfTurnedUptoSaid : Prop := utfTurnedUptoRow.holds Try.pinned (OpenSpec.upto utfTurnedSpec)

/-- 'grommetlaw01.UtfApart', WHERE WHAT IT READS IS OF BULK AT MOST 1048576: true; the input reads as it did. -/
def utfApartUptoRow : OpenClaim := { program := "ytkhaecinjllgiaa", sum := "783e452049f12f448ec1994a5bbb813bc1a54f1e403468b2c86cdc1e57566dcb", func := "grommet/grommetlaw01.UtfApart", spec := "utfApart", apart := false, narrowed := true }
def UtfApartUptoSaid : Prop := utfApartUptoRow.holds Try.pinned (OpenSpec.upto utfApartSpec)

end Rows
end Go.Proofs.Ytkhaecinjllgiaa
