/- Several texts as one: GraphAgS. -/
import Derived.Test.YtfohbiohleekbaaGreatDoorQGgG
import Derived.Test.YtfohbiohleekbaaGreatDoorQGgL
section
/- . -/
namespace Go.Proofs.YtfohbiohleekbaaGreatDoor.Grp
open Utf Rws Pln Flw
open Go.RowKit
set_option linter.unusedSimpArgs false
set_option linter.unusedVariables false
set_option maxRecDepth 100000
set_option maxHeartbeats 4000000
structure AgS (w W : World) (K : Nat) (ad : Option Addr) (len cap : Nat) (r : Int) (ns : List Nd) : Prop where
 b : Bx W K #[.slice ad len cap, .int .i64 r] 30
 bl : Below w.heap.size w W
 g : GrV W (gv ad len cap r) ⟨ns, r⟩
theorem AgS.later {w W W' : World} {K : Nat} {ad : Option Addr} {len cap : Nat} {r : Int} {ns : List Nd} (h : AgS w W K ad len cap r ns) (hb : Below W.heap.size W W') : AgS w W' K ad len cap r ns := ⟨h.b.later hb, h.bl.trans (hb.mono h.bl.size), h.g.later hb (Nat.le_refl _)⟩
theorem AgS.new {w W : World} {ad : Option Addr} {len cap : Nat} {r : Int} {ns : List Nd} (hb : Below w.heap.size w W) (h : GrV W (gv ad len cap r) ⟨ns, r⟩) : AgS w (W.alloc (.cells #[.slice ad len cap, .int .i64 r] 30)) W.heap.size ad len cap r ns := by
 have b1 := below_alloc W (.cells #[.slice ad len cap, .int .i64 r] 30)
 exact ⟨Bx.new _ _ _, hb.trans (b1.mono hb.size), h.later b1 (Nat.le_refl _)⟩
end Go.Proofs.YtfohbiohleekbaaGreatDoor.Grp
end
