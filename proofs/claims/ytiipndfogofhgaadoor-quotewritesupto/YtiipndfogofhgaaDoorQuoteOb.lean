/- Rows of bytes of the call's own; words for the reference's Read. -/
import Derived.Test.YtiipndfogofhgaaDoorQuoteRef
import Derived.Test.YtiipndfogofhgaaDoorQuotePlain5
import Derived.Lib.AppendStr
import Derived.BigQuiet
import Derived.Deep.QuietTactic
namespace Go.Proofs.YtiipndfogofhgaaDoor.Quo
open Utf Rws
open Go.RowKit
set_option linter.unusedSimpArgs false
set_option linter.unusedVariables false
set_option maxRecDepth 100000

/-- a row of bytes of the call's own that holds out -/
def Ob (B : Nat) (v : Value) (out : List UInt8) (w : World) : Prop := w.ownsRow B 5 1 v out.length (Lib.byteCells out)
variable {B : Nat} {v : Value} {out : List UInt8} {w w1 w2 : World}
theorem cells_nums (l : List UInt8) : Lib.byteCells l = (l.map fun b => (b.toNat : Int)).map (Value.int .u8) := by simp [Lib.byteCells]
theorem str_bytes (l : List UInt8) : strOfNums (l.map fun b => (b.toNat : Int)) = mk l := by
  unfold strOfNums mk
  rw [List.map_map]
  congr 2
  conv => rhs; rw [← List.map_id l]
  refine List.map_congr_left fun b _ => ?_
  simp
theorem Ob.conv (h : Ob B v out w) : (convert 42 9 v).run Tryd.prog w = .ok (.string (mk out)) w := by
  unfold Ob at h
  rw [cells_nums] at h
  rw [← str_bytes]
  exact conv_own h
theorem Ob.later (h : Ob B v out w) (hb : Below w.heap.size w w1) : Ob B v out w1 := own_later h hb
theorem Ob.shape (h : Ob B v out w) : ∃ a cap, v = .slice a out.length cap := by
  rcases h.2 with ⟨rfl, h0⟩ | ⟨g, cap, cur, rfl, _⟩
  · exact ⟨none, 0, by rw [h0]⟩
  · exact ⟨_, _, rfl⟩
theorem Ob.set (h : Ob B v out w) {k : Nat} (hk : k < B) (i : Nat) (x : Value) : Ob B v out (w.setCell ⟨k, i, none⟩ x) := ownsRow_setCell_below h hk x
theorem Ob.snoc {u' : Value} {o : Obj} {c : UInt8} (h : Ob B v out w) (hbe : Below B w1 w) (hB : B ≤ w.heap.size) (hown' : w2.ownsRow B 5 1 u' (out.length + 1) (Lib.byteCells out ++ [.int .u8 (c.toNat : Int)])) (hg : (w.alloc o).grownBy w2 v.ownBlock) :
    Ob B u' (out ++ [c]) w2 ∧ Below B w1 w2 ∧ B ≤ w2.heap.size := by
  refine ⟨?_, (hbe.alloc hB o).grown hg (by simp; omega) (fun k hk => (h.lt k hk).1), ?_⟩
  · unfold Ob
    rw [cells_app, List.length_append]
    exact hown'
  · have := hg.size; simp at this; omega
theorem Ob.more {u' : Value} {s : List UInt8} (h : Ob B v out w) (hbe : Below B w1 w) (hB : B ≤ w.heap.size) (hown' : w2.ownsRow B 5 1 u' (out.length + (mk s).size) (Lib.byteCells out ++ Lib.strCells (mk s))) (hg : w.grownBy w2 v.ownBlock) :
    Ob B u' (out ++ s) w2 ∧ Below B w1 w2 ∧ B ≤ w2.heap.size := by
  refine ⟨?_, hbe.grown hg hB (fun k hk => (h.lt k hk).1), ?_⟩
  · unfold Ob
    rw [cells_app, List.length_append]
    rw [mk_size, strCells_mk] at hown'
    exact hown'
  · have := hg.size; omega

theorem escR_two' (m : List UInt8) : (escR m).2.2 = 0 ∨ (escR m).2.2 = 3 ∨ (escR m).2.2 = 4 := by
  by_cases h : m.length < 2
  · unfold escR; rw [if_pos h]; exact .inr (.inr rfl)
  cases hm : mnt (m.getD 1 0) with
  | some n => rw [mnt_esc (n := n) (by omega) hm]; exact .inl rfl
  | none =>
    rw [dgs_esc (by omega) hm]
    split
    · exact .inr (.inl rfl)
    · unfold escH
      split
      · split
        · exact .inl rfl
        · exact .inr (.inl rfl)
      · exact hexR_two _ _ _

end Go.Proofs.YtiipndfogofhgaaDoor.Quo
