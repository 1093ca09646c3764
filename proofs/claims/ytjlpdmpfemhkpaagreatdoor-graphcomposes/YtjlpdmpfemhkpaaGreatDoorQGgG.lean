/- Several texts as one: GraphTop, GraphTop2. -/
import Derived.Test.YtjlpdmpfemhkpaaGreatDoorQGraphCan
section
/- Package graph's Canon, Order, Depth and Sub, by their contracts. -/
namespace Go.Proofs.YtjlpdmpfemhkpaaGreatDoor.Grp
open Utf Rws Pln Flw
open Go.RowKit
set_option linter.unusedSimpArgs false
set_option linter.unusedVariables false
set_option maxRecDepth 100000
set_option maxHeartbeats 4000000

/-- the boxes of a graph and of an answer -/
structure CaS (w W : World) (K0 K2 : Nat) (g0 g1 : Value) : Prop where
  g : Bx W K0 #[g0, g1] 30
  r : Bx W K2 #[.slice none 0 0, .int .i64 0] 30
  bl : Below w.heap.size w W
  hk : w.heap.size ≤ K2
theorem CaS.later {w W W' : World} {K0 K2 : Nat} {g0 g1 : Value} (h : CaS w W K0 K2 g0 g1) (hb : Below W.heap.size W W') : CaS w W' K0 K2 g0 g1 := ⟨h.g.later hb, h.r.later hb, h.bl.trans (hb.mono h.bl.size), h.hk⟩
theorem CaS.new (w : World) (g0 g1 : Value) : CaS w ((w.alloc (.cells #[g0, g1] 30)).alloc (.cells #[.slice none 0 0, .int .i64 0] 30)) w.heap.size (w.heap.size + 1) g0 g1 := by
  have b1 := below_alloc w (.cells #[g0, g1] 30)
  have s1 : (w.alloc (.cells #[g0, g1] 30)).heap.size = w.heap.size + 1 := World.size_alloc _ _
  have b2 := below_alloc (w.alloc (.cells #[g0, g1] 30)) (.cells #[.slice none 0 0, .int .i64 0] 30)
  have n2 := Bx.new (w.alloc (.cells #[g0, g1] 30)) #[.slice none 0 0, .int .i64 0] 30
  rw [s1] at n2
  exact ⟨(Bx.new w _ _).later b2, n2, b1.trans (b2.mono b1.size), by omega⟩
/-- what is answered: nothing and an error, or a graph -/
def GRes (w : World) (q : Bool) (er : Int) (g : Gr) (e : Ending) (w' : World) : Prop := (if q = true then ∃ v, e = .returned (.tuple #[v, .int .i64 0]) ∧ GrP w.heap.size w' v g else e = .returned (.tuple #[gv none 0 0 0, .int .i64 er])) ∧ Below w.heap.size w w'
theorem GrV.set {W : World} {K : Nat} {v u : Value} {g : Gr} {i : Nat} (h : GrV W v g) (hK : W.heap.size ≤ K) : GrV (W.setCell ⟨K, i, none⟩ u) v g := h.later (B := W.heap.size) ((Below.refl _ W).setCell (p := ⟨K, i, none⟩) hK _) (Nat.le_refl _)
end Go.Proofs.YtjlpdmpfemhkpaaGreatDoor.Grp
end

section
/- Package graph's Order and Depth, by their contracts. -/
namespace Go.Proofs.YtjlpdmpfemhkpaaGreatDoor.Grp
open Utf Rws Pln Flw
open Go.RowKit
set_option linter.unusedSimpArgs false
set_option linter.unusedVariables false
set_option maxRecDepth 100000
set_option maxHeartbeats 4000000

end Go.Proofs.YtjlpdmpfemhkpaaGreatDoor.Grp
end
