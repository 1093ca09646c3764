/- Several texts as one: GraphFacts, GraphFacts2, GraphFacts3. -/
import Derived.Test.YtjlpdmpfemhkpaaGreatDoorQGgG
section
/- The Canon of a graph that may be may be, is its own Canon, in the order of its places, and as deep. -/
namespace Go.Proofs.YtjlpdmpfemhkpaaGreatDoor.Grp
open Utf Rws Pln Flw
open Go.RowKit
set_option linter.unusedSimpArgs false
set_option linter.unusedVariables false

/-! ### how many places came -/
/-! ### how often a place is a Kid -/
def cnt (l : List Int) (x : Nat) : Nat := (l.map Int.toNat).count x
/-! ### the Canon -/

end Go.Proofs.YtjlpdmpfemhkpaaGreatDoor.Grp
end

section
/- What is reached from a place that is no key's, as a graph, may be. -/
namespace Go.Proofs.YtjlpdmpfemhkpaaGreatDoor.Grp
open Utf Rws Pln Flw
open Go.RowKit
set_option linter.unusedSimpArgs false
set_option linter.unusedVariables false

end Go.Proofs.YtjlpdmpfemhkpaaGreatDoor.Grp
end

section
/- A part of a part, as plain facts. -/
namespace Go.Proofs.YtjlpdmpfemhkpaaGreatDoor.Grp
open Utf Rws Pln Flw
open Go.RowKit
set_option linter.unusedSimpArgs false
set_option linter.unusedVariables false
set_option maxRecDepth 100000


end Go.Proofs.YtjlpdmpfemhkpaaGreatDoor.Grp
end
