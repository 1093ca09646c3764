/- The reference's Ints and slices.Equal of ints, at any two, by their contracts; what is not large is small in the document's sense. -/
import Derived.Test.YtkggdjghjdakoaaGreatDoorIbH
import Derived.BigQuiet
import Derived.Deep.QuietTactic
namespace Go.Proofs.YtkggdjghjdakoaaGreatDoor.Grp
open Utf Rws Pln Flw
open Go.RowKit
set_option linter.unusedSimpArgs false
set_option linter.unusedVariables false
set_option maxRecDepth 100000
set_option maxHeartbeats 4000000

/-- two rows of ints are equal -/
def eqI (l m : List Int) : Bool := decide (l = m)
theorem eqI_len {l m : List Int} (h : l.length ≠ m.length) : eqI l m = false := by
  unfold eqI
  rw [decide_eq_false_iff_not]
  intro e
  exact h (congrArg List.length e)
theorem eqI_part {l m : List Int} {j : Nat} (h : l.getD j 0 ≠ m.getD j 0) : eqI l m = false := by
  unfold eqI
  rw [decide_eq_false_iff_not]
  intro e
  rw [e] at h
  exact h rfl
theorem eqI_all {l m : List Int} (hl : l.length = m.length) (h : ∀ i, i < l.length → l.getD i 0 = m.getD i 0) : eqI l m = true := by
  unfold eqI
  rw [decide_eq_true_iff]
  refine List.ext_getElem hl fun i h1 h2 => ?_
  have := h i h1
  rw [List.getD_eq_getElem?_getD, List.getD_eq_getElem?_getD, List.getElem?_eq_getElem h1, List.getElem?_eq_getElem h2] at this
  exact this
/-- two graphs' boxes -/
structure G2 (w W : World) (K0 K1 : Nat) (g0 g1 h0 h1 : Value) : Prop where
  g : Bx W K0 #[g0, g1] 24
  h : Bx W K1 #[h0, h1] 24
  bl : Below w.heap.size w W
theorem G2.later {w W W' : World} {K0 K1 : Nat} {g0 g1 h0 h1 : Value} (h : G2 w W K0 K1 g0 g1 h0 h1) (hb : Below W.heap.size W W') : G2 w W' K0 K1 g0 g1 h0 h1 := ⟨h.g.later hb, h.h.later hb, h.bl.trans (hb.mono h.bl.size)⟩
/-- and two nodes' -/
structure G4 (w W : World) (K0 K1 L0 L1 : Nat) (g0 g1 h0 h1 : Value) (n m : Array Value) : Prop where
  g : G2 w W K0 K1 g0 g1 h0 h1
  n : Bx W L0 n 38
  m : Bx W L1 m 38
theorem G2.two {w W : World} {K0 K1 : Nat} {g0 g1 h0 h1 : Value} (h : G2 w W K0 K1 g0 g1 h0 h1) (n m : Array Value) : Bx ((W.alloc (.cells n 38)).alloc (.cells m 38)).drew W.heap.size n 38 ∧ Bx ((W.alloc (.cells n 38)).alloc (.cells m 38)).drew (W.heap.size + 1) m 38 ∧ G2 w ((W.alloc (.cells n 38)).alloc (.cells m 38)).drew K0 K1 g0 g1 h0 h1 := by
  have b1 := below_alloc W (.cells n 38)
  have n1 := Bx.new W n 38
  have s1 : (W.alloc (.cells n 38)).heap.size = W.heap.size + 1 := World.size_alloc _ _
  have h1 := h.later b1
  generalize W.alloc (.cells n 38) = w1 at *
  have b2 := below_alloc w1 (.cells m 38)
  have n2 := Bx.new w1 m 38
  rw [s1] at n2
  have h2 := h1.later b2
  have n1 := n1.later b2
  exact ⟨n1, n2, ⟨h2.g, h2.h, h2.bl.drew⟩⟩
end Go.Proofs.YtkggdjghjdakoaaGreatDoor.Grp
