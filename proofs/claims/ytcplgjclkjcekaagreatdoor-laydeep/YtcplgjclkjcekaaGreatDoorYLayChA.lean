/- Several texts as one: LayChA. -/
import Derived.Test.YtcplgjclkjcekaaGreatDoorY22LayLd
import Derived.Test.YtcplgjclkjcekaaGreatDoorYLayChn
section
/- The lists of LayDeep, each: laid, or too deep. -/
namespace Go.Proofs.YtcplgjclkjcekaaGreatDoor.Grp
open Utf Rws Pln Flw
set_option maxRecDepth 100000
theorem ch_all : ((List.range 90).all fun i => [true, false].all fun b => decide (lyE ⟨chN (i + 1) b, 0⟩ = if 64 < i + 1 then 10 else 0) && decide ((lyG ⟨chN (i + 1) b, 0⟩).anc = if 64 < i + 1 then [] else if b = true then [97, 49] else [])) = true := by kernel_rfl
theorem ch_sml_all : ((List.range 90).all fun i => [true, false].all fun b => (chN (i + 1) b).all (fun n => decide (n.text.length ≤ 2147483648)) && decide (sumK (chN (i + 1) b) ≤ 1000000000)) = true := by kernel_rfl
end Go.Proofs.YtcplgjclkjcekaaGreatDoor.Grp
end
