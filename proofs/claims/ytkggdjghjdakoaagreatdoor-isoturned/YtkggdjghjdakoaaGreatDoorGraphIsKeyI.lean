/- Package graph's isKey, by its contract. -/
import Derived.Test.YtkggdjghjdakoaaGreatDoorGraphMark
namespace Go.Proofs.YtkggdjghjdakoaaGreatDoor.Grp
open Utf Rws Pln Flw
open Go.RowKit Go.Shelf
set_option linter.unusedSimpArgs false
set_option linter.unusedVariables false
set_option maxRecDepth 100000
set_option maxHeartbeats 4000000
attribute [local go_sem] Oper.semAt_some

/-- is a place a key's? -/
def isKy : List Nd → Int → Bool
  | [], _ => false
  | n :: t, a => (kys n.kind 0 n.kids).contains a || isKy t a
theorem isKy_at (ns : List Nd) (a : Int) (j : Nat) (h : j < ns.length) : isKy (ns.drop j) a = ((kys (ns.getD j nd0).kind 0 (ns.getD j nd0).kids).contains a || isKy (ns.drop (j + 1)) a) := by
  rw [List.drop_eq_getElem_cons h, List.getD_eq_getElem?_getD, List.getElem?_eq_getElem h]
  rfl
/-- the boxes, and the marks -/
structure IkS (w W : World) (K0 K1 K2 : Nat) (g0 g1 a : Value) (l : List Nat) : Prop where
  g : Bx W K0 #[g0, g1] 24
  t : Bx W K1 #[a] 3
  r : Bx W K2 #[.bool false] 4
  bl : Below w.heap.size w W
  ms : Mks w.heap.size W.heap.size W l
  hk : w.heap.size ≤ K2
theorem IkS.later {w W W' : World} {K0 K1 K2 : Nat} {g0 g1 a : Value} {l : List Nat} (h : IkS w W K0 K1 K2 g0 g1 a l) (hb : Below W.heap.size W W') : IkS w W' K0 K1 K2 g0 g1 a l :=
  ⟨h.g.later hb, h.t.later hb, h.r.later hb, h.bl.trans (hb.mono h.bl.size), (h.ms.later hb (Nat.le_refl _)).more hb.size, h.hk⟩
end Go.Proofs.YtkggdjghjdakoaaGreatDoor.Grp
