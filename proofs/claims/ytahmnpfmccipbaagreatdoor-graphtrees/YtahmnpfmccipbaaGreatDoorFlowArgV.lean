/- A tree that came in by value. -/
import Derived.Test.YtahmnpfmccipbaaGreatDoorFbX
namespace Go.Proofs.YtahmnpfmccipbaaGreatDoor.Flw
open Go.ChangeShapes Go.WideShapes Go.ChangeAt Go.RowKit
set_option linter.unusedSimpArgs false
set_option linter.unusedVariables false
set_option maxRecDepth 100000

section
variable {H : Type} {enc : TypeId × Value → H} {W : World} {base : Nat} {held : Bool}
theorem came_treev {r : Reach} {b0 : Nat} {v : Value} {d : DataW H} {p : List MemPlace} (hv : Value.okWide Tryz.prog W r b0 24 v) (h : DataW.Trod enc Tryz.prog W base (fun _ => true) held 24 v d p) :
    ∃ n t, TrV W n v t := by
  obtain ⟨cs, rfl, hsz⟩ := okWide_struct Tryz.underlying24 hv
  obtain ⟨fuel, hf⟩ := h
  obtain ⟨t, ht⟩ := came_tree fuel fuel (Nat.le_refl _) _ _ hf
  exact ⟨fuel + 1, t, by simpa [Value.cells] using ht⟩
end
end Go.Proofs.YtahmnpfmccipbaaGreatDoor.Flw
