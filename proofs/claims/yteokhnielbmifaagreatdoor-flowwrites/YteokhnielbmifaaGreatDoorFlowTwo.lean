/- What the laws' walks share: two boxes just laid, the texts' bytes, faults held against each other. -/
import Derived.Test.YteokhnielbmifaaGreatDoorFbW
import Derived.Test.YteokhnielbmifaaGreatDoorFlowRsame
namespace Go.Proofs.YteokhnielbmifaaGreatDoor.Flw
open Utf Rws Pln
open Go.RowKit
set_option linter.unusedSimpArgs false
set_option linter.unusedVariables false
set_option maxRecDepth 100000

theorem two_new (w : World) (c f : Array Value) : Below w.heap.size w ((w.alloc (.cells c 24)).alloc (.cells f 37)) ∧ Bx ((w.alloc (.cells c 24)).alloc (.cells f 37)) w.heap.size c 24 ∧
    Bx ((w.alloc (.cells c 24)).alloc (.cells f 37)) (w.heap.size + 1) f 37 := by
  have a1 := below_alloc w (.cells c 24)
  have s1 : (w.alloc (.cells c 24)).heap.size = w.heap.size + 1 := World.size_alloc _ _
  have a2 := below_alloc (w.alloc (.cells c 24)) (.cells f 37)
  have n2 := Bx.new (w.alloc (.cells c 24)) f 37
  rw [s1] at n2
  exact ⟨a1.trans (a2.mono a1.size), (Bx.new w _ _).later a2, n2⟩
theorem cat_mk (a b : Ln) : mk a ++ mk b = mk (a ++ b) := by
  apply ByteArray.ext
  apply Array.ext'
  simp [mk]
theorem eql_fault (x1 y1 x2 y2 : Int) (w : World) : (binOp .eql 37 (.agg #[.int .i64 x1, .int .i64 x2]) (.agg #[.int .i64 y1, .int .i64 y2])).run Tryz.prog w = .ok (.bool (x1 == y1 && x2 == y2)) w := by
  rw [run_eql_struct, run_equalIn_struct w 9999 37 _ _ (by kernel_rfl) (by kernel_rfl)]
  cases h1 : x1 == y1 <;> cases h2 : x2 == y2 <;> simp [go_sem, Program.fieldsOf, Tryz.underlying37, Tryz.underlying27, Tryz.underlying3, h1, h2]
theorem whole_le (l : Ln) : (whole l).2.2 ≤ l.length := by
  unfold whole
  split
  · exact Nat.zero_le _
  · split
    · split
      · exact Nat.zero_le _
      · exact Nat.sub_le _ _
    · exact Nat.sub_le _ _
/-- flow.Whole, its tree's value opened -/
def WhoIs (w : World) (T : Tr) (y z : Int) (e : Ending) (w' : World) : Prop := ∃ ad len cap, e = .returned (.tuple #[.agg #[.int .i64 T.kind, .string (mk T.text), .string (mk T.anc), .slice ad len cap], .agg #[.int .i64 y, .int .i64 z]]) ∧ Hid (TrV w' 65 (.agg #[.int .i64 T.kind, .string (mk T.text), .string (mk T.anc), .slice ad len cap]) T ∧ Below w.heap.size w w')
theorem whole_is {l : Ln} {T : Tr} {y z : Nat} (hl : l.length ≤ 9223372036854775807) (h : whole l = (T, y, z)) (w : World) (hT : Tb w) : Calls Tryz.prog 20 #[.string (mk l)] w fun e w' => WhoIs w T (y : Int) (z : Int) e w' := by
  refine (whole_any l hl hT).mono ?_
  rintro e w' ⟨v, h1, h2, h3⟩
  rw [h] at h1 h2
  obtain ⟨ad, len, cap, rfl⟩ := h2.open4
  exact ⟨ad, len, cap, h1, h2, h3⟩
end Go.Proofs.YteokhnielbmifaaGreatDoor.Flw
