/- the statements' 'alive', by its contract. -/
import Derived.Test.YtiipndfogofhgaaDoorQuoteRead
import Derived.Test.YtiipndfogofhgaaDoorQuoteDbl
namespace Go.Proofs.YtiipndfogofhgaaDoor.Quo
open Utf Rws
open Go.RowKit
set_option linter.unusedSimpArgs false
set_option linter.unusedVariables false
set_option maxRecDepth 100000

theorem rd_one : rd [39, 105, 116, 39, 39, 115, 39, 32, 120] = ([105, 116, 39, 115], 7, 0, 0) := by decide +kernel
theorem rd_two : rd [34, 92, 117, 48, 48, 101, 57, 34] = ([195, 169], 8, 0, 0) := by decide +kernel
theorem dbl_one : dblS [97, 10, 34] = [34, 97, 92, 110, 92, 34, 34] := by decide +kernel
theorem dbl_two : dblE [97, 10, 34] = 0 := by decide +kernel

theorem eql_fault (x1 y1 x2 y2 : Int) (w : World) : (binOp .eql 24 (.agg #[.int .i64 x1, .int .i64 x2]) (.agg #[.int .i64 y1, .int .i64 y2])).run Tryd.prog w = .ok (.bool (x1 == y1 && x2 == y2)) w := by
  rw [run_eql_struct, run_equalIn_struct w 9999 24 _ _ (by kernel_rfl) (by kernel_rfl)]
  cases h1 : x1 == y1 <;> cases h2 : x2 == y2 <;> simp [go_sem, Program.fieldsOf, Tryd.underlying24, Tryd.underlying22, Tryd.underlying3, h1, h2]
theorem neq_fault (x1 y1 x2 y2 : Int) (w : World) : (binOp .neq 24 (.agg #[.int .i64 x1, .int .i64 x2]) (.agg #[.int .i64 y1, .int .i64 y2])).run Tryd.prog w = .ok (.bool (!(x1 == y1 && x2 == y2))) w := by
  rw [run_neq_struct, run_equalIn_struct w 9999 24 _ _ (by kernel_rfl) (by kernel_rfl)]
  cases h1 : x1 == y1 <;> cases h2 : x2 == y2 <;> simp [go_sem, Program.fieldsOf, Tryd.underlying24, Tryd.underlying22, Tryd.underlying3, h1, h2]
/-- a pair of cells, just laid, in a world behind -/
theorem pair_later {w w' : World} {a b : Value} {t : TypeId} (hb : Below (w.alloc (.cells #[a, b] t)).heap.size (w.alloc (.cells #[a, b] t)) w') : w'.cell? ⟨w.heap.size, 0, none⟩ = some a ∧ w'.cell? ⟨w.heap.size, 1, none⟩ = some b := by
  have h : w'.heap[w.heap.size]? = some (.cells #[a, b] t (0, 0)) := (hb.block _ (by simp)).trans (heap_alloc_new w _)
  exact ⟨by rw [Lib.cell_of_heap h]; rfl, by rw [Lib.cell_of_heap h]; rfl⟩

set_option maxHeartbeats 1000000 in
theorem alive_any (w : World) (hT : Tabs w) : Calls Tryd.prog 11 #[] w fun e w' => e = .returned (.bool true) ∧ Below w.heap.size w w' := by
  have HA : Hid (∀ w, Tabs w → Calls Tryd.prog 9 #[.string ⟨#[39, 105, 116, 39, 39, 115, 39, 32, 120]⟩] w fun e w' => e = .returned (.tuple #[.string ⟨#[105, 116, 39, 115]⟩, .int .i64 7, .agg #[.int .i64 0, .int .i64 0]]) ∧ Below w.heap.size w w') := fun w hT => by
    have h := read_any [39, 105, 116, 39, 39, 115, 39, 32, 120] w (by decide) hT
    unfold rdV at h
    rw [rd_one] at h
    exact h
  have HB : Hid (∀ w, Tabs w → Calls Tryd.prog 9 #[.string ⟨#[34, 92, 117, 48, 48, 101, 57, 34]⟩] w fun e w' => e = .returned (.tuple #[.string ⟨#[195, 169]⟩, .int .i64 8, .agg #[.int .i64 0, .int .i64 0]]) ∧ Below w.heap.size w w') := fun w hT => by
    have h := read_any [34, 92, 117, 48, 48, 101, 57, 34] w (by decide) hT
    unfold rdV at h
    rw [rd_two] at h
    exact h
  have HC : Hid (∀ w, Tabs w → Calls Tryd.prog 14 #[.string ⟨#[97, 10, 34]⟩] w fun e w' => e = .returned (.tuple #[.string ⟨#[34, 97, 92, 110, 92, 34, 34]⟩, .int .i64 0]) ∧ Below w.heap.size w w') := fun w hT => by
    have h := double_any [97, 10, 34] w (by decide) hT
    rw [dbl_one, dbl_two] at h
    exact h
  have HT : Hid (Tabs w) := hT
  have he := eql_fault 0 0 0 0
  clear hT
  go_enter Tryd.func11, Tryd.ntmps11
  go_wp2_with fail
  refine (HA.out _ HT.out).mono ?_
  rintro e w1 ⟨rfl, b1⟩
  go_wp2_with fail
  have q1 : Below w1.heap.size w1 (w1.alloc (.cells #[.int .i64 0, .int .i64 0] 24)) := below_alloc _ _
  have HT2 : Hid (Tabs (w1.alloc (.cells #[.int .i64 0, .int .i64 0] 24))) := (HT.out.later b1).later q1
  refine (HB.out _ HT2.out).mono ?_
  rintro e w2 ⟨rfl, b2⟩
  go_wp2_with fail
  have q2 : Below w2.heap.size w2 (w2.alloc (.cells #[.int .i64 0, .int .i64 0] 24)) := below_alloc _ _
  refine (HC.out _ ((HT2.out.later b2).later q2)).mono ?_
  rintro e w3 ⟨rfl, b3⟩
  have B13 : Below (w1.alloc (.cells #[.int .i64 0, .int .i64 0] 24)).heap.size (w1.alloc (.cells #[.int .i64 0, .int .i64 0] 24)) w3 := b2.trans ((q2.mono b2.size).trans (b3.mono (Nat.le_trans b2.size q2.size)))
  obtain ⟨c0, c1⟩ := pair_later B13
  obtain ⟨c2, c3⟩ := pair_later b3
  have HF : Hid (Below w.heap.size w w3) := b1.trans ((q1.mono b1.size).trans (B13.mono (Nat.le_trans b1.size q1.size)))
  clear b1 b2 b3 q1 q2 B13 HA HB HC HT HT2
  go_wp2
  go_ret
  exact ⟨rfl, HF.out⟩

end Go.Proofs.YtiipndfogofhgaaDoor.Quo
