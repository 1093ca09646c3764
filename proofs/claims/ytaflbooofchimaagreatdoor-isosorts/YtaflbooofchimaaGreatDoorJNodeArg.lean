/- Several texts as one: NodeArg. -/
import Derived.Test.YtaflbooofchimaaGreatDoorJ26FlowArg
section
/- A node that came in by value. -/
namespace Go.Proofs.YtaflbooofchimaaGreatDoor.Grp
open Utf Rws Pln Flw
open Go.ChangeShapes Go.WideShapes Go.ChangeAt Go.RowKit
set_option linter.unusedSimpArgs false
set_option linter.unusedVariables false
set_option maxRecDepth 100000
theorem came_nodev {H : Type} {enc : TypeId × Value → H} {W : World} {base : Nat} {held : Bool} {r : Reach} {b0 : Nat} {v : Value} {d : DataW H} {p : List MemPlace} (hv : Value.okWide Tryz.prog W r b0 35 v) (h : DataW.Trod enc Tryz.prog W base (fun _ => true) held 35 v d p) :
    ∃ n, NdV W v n := by
  obtain ⟨cs, rfl, hsz⟩ := okWide_struct Tryz.underlying35 hv
  obtain ⟨fuel, hf⟩ := h
  obtain ⟨n, ad, len, cap, e, h1, h2, h3, h4, h5⟩ := came_node hf
  refine ⟨n, ad, len, cap, ?_, h1, h2, h3, h4, h5⟩
  have e' : cs.toList = [Value.int .i64 n.kind, .string (mk n.text), .slice ad len cap] := by simpa [Value.cells] using e
  have : cs = #[Value.int .i64 n.kind, .string (mk n.text), .slice ad len cap] := by cases cs; simp_all
  rw [this]
end Go.Proofs.YtaflbooofchimaaGreatDoor.Grp
end
