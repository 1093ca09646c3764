/- The law QuoteReads: it answers true. -/
import Derived.Test.YtiipndfogofhgaaDoorQuoteAlive
import Derived.Test.YtiipndfogofhgaaDoorQuoteRrd
namespace Go.Proofs.YtiipndfogofhgaaDoor.Quo
open Utf Rws
open Go.RowKit
set_option linter.unusedSimpArgs false
set_option linter.unusedVariables false
set_option maxRecDepth 100000

set_option maxHeartbeats 1000000 in
theorem reads_walk (s : ByteArray) (w : World) (hs : s.size ≤ 140737488351232) (hT : Tabs w) :
    Calls Tryd.prog 3 #[.string s] w fun e w' => e = .returned (.bool true) ∧ Below w.heap.size w w' := by
  obtain ⟨l, rfl⟩ := mk_ex s
  rw [mk_size] at hs
  have h1 := fun (w : World) (hT : Tabs w) => read_any l w hs hT
  have h2 := fun (w : World) => rread_any l w hs
  unfold rdV at h1
  generalize (rd l).1 = O at h1 h2
  generalize ((rd l).2.1 : Int) = P at h1 h2
  generalize ((rd l).2.2.1 : Int) = Y at h1 h2
  generalize ((rd l).2.2.2 : Int) = A at h1 h2
  have H1 : Hid (∀ w, Tabs w → Calls Tryd.prog 9 #[.string (mk l)] w fun e w' => e = .returned (.tuple #[.string (mk O), .int .i64 P, .agg #[.int .i64 Y, .int .i64 A]]) ∧ Below w.heap.size w w') := h1
  have H2 : Hid (∀ w, Calls Tryd.prog 10 #[.string (mk l)] w fun e w' => e = .returned (.tuple #[.string (mk O), .int .i64 P, .agg #[.int .i64 Y, .int .i64 A]]) ∧ Below w.heap.size w w') := h2
  have he : ∀ w, (binOp .eql 24 (.agg #[.int .i64 Y, .int .i64 A]) (.agg #[.int .i64 Y, .int .i64 A])).run Tryd.prog w = .ok (.bool true) w := fun w => by rw [eql_fault]; simp
  have HT : Hid (Tabs w) := hT
  clear h1 h2 hT
  go_enter Tryd.func3, Tryd.ntmps3
  go_wp2_with fail
  refine (H1.out _ HT.out).mono ?_
  rintro e w1 ⟨rfl, b1⟩
  go_wp2_with fail
  have q1 : Below w1.heap.size w1 (w1.alloc (.cells #[.int .i64 Y, .int .i64 A] 24)) := below_alloc _ _
  have HT2 : Hid (Tabs (w1.alloc (.cells #[.int .i64 Y, .int .i64 A] 24))) := (HT.out.later b1).later q1
  refine (H2.out _).mono ?_
  rintro e w2 ⟨rfl, b2⟩
  have q2 : Below w2.heap.size w2 (w2.alloc (.cells #[.int .i64 Y, .int .i64 A] 24)) := below_alloc _ _
  obtain ⟨w3, hw3⟩ : ∃ w3, w3 = w2.alloc (.cells #[.int .i64 Y, .int .i64 A] 24) := ⟨_, rfl⟩
  rw [← hw3] at q2
  obtain ⟨c0, c1⟩ := pair_later (b2.trans (q2.mono b2.size))
  have HT3 : Hid (Tabs w3) := (HT2.out.later b2).later q2
  have HF : Hid (Below w.heap.size w w3) := b1.trans ((q1.mono b1.size).trans ((b2.mono (Nat.le_trans b1.size q1.size)).trans (q2.mono (Nat.le_trans b1.size (Nat.le_trans q1.size b2.size)))))
  have HW3 : Hid (w3 = w2.alloc (.cells #[.int .i64 Y, .int .i64 A] 24)) := hw3
  obtain ⟨x0, x1⟩ := (⟨by rw [hw3, cell_of_row _ w2.heap.size 0 _ _ (0, 0) (heap_alloc_new w2 _)]; rfl, by rw [hw3, cell_of_row _ w2.heap.size 1 _ _ (0, 0) (heap_alloc_new w2 _)]; rfl⟩ : w3.cell? ⟨w2.heap.size, 0, none⟩ = some (.int .i64 Y) ∧ w3.cell? ⟨w2.heap.size, 1, none⟩ = some (.int .i64 A))
  have hw3' := hw3.symm
  clear b1 b2 q1 q2 H1 H2 HT HT2 hw3
  go_wp2_with (first | (go_at_call 11; refine (alive_any _ HT3.out).mono ?_; rintro e w4 ⟨rfl, b4⟩))
  go_ret
  exact ⟨rfl, HF.out.trans (b4.mono HF.out.size)⟩

end Go.Proofs.YtiipndfogofhgaaDoor.Quo
