/- Several texts as one: QuotePlain5. -/
import Derived.Test.YtaphijgbebhdlaaGreatDoorV00UtfPlain
section
/- Reading in quotes, a step at a time: plain facts. -/
namespace Go.Proofs.YtaphijgbebhdlaaGreatDoor.Quo
open Utf
set_option linter.unusedSimpArgs false
set_option linter.unusedVariables false

/-! ### the steps, by the first byte -/
end Go.Proofs.YtaphijgbebhdlaaGreatDoor.Quo
end
