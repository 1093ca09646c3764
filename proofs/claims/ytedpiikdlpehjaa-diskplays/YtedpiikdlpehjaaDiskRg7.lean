/- The document's disk: New. -/
import Derived.Test.YtedpiikdlpehjaaDiskRg2
namespace Go.Proofs.Ytedpiikdlpehjaa.Dsk
open Go Go.RowKit Go.Maps
set_option linter.unusedSimpArgs false
set_option linter.unusedVariables false

def rD (r : Int) : Value := .agg #[.int .i64 r, .slice none 0 0, .slice none 0 0, .slice none 0 0, .slice none 0 0, .int .i64 (-1), .bool false, .int .i64 0]
theorem rnew_ok (r : Nat) (w : World) (h : r ≤ 1048576) : Calls Try.prog 7 #[.int .i64 r] w fun e w' => e = .returned (.tuple #[rD r, .int .i64 0]) ∧ Below w.heap.size w w' := by
  have hd1 : decide ((r : Int) < 0) = false := decide_eq_false (by omega)
  have hd2 : decide ((1048576 : Int) < (r : Int)) = false := decide_eq_false (by omega)
  obtain ⟨V, HV⟩ : ∃ V, Hid (V = w.alloc (.cells #[.int .i64 r, .slice none 0 0, .slice none 0 0, .slice none 0 0, .slice none 0 0, .int .i64 (-1), .bool false, .int .i64 0] 33)) := ⟨_, rfl⟩
  have HR : Hid (Row V w.heap.size 33 [.int .i64 r, .slice none 0 0, .slice none 0 0, .slice none 0 0, .slice none 0 0, .int .i64 (-1), .bool false, .int .i64 0]) := by rw [HV.out]; exact Row.mk w [.int .i64 r, .slice none 0 0, .slice none 0 0, .slice none 0 0, .slice none 0 0, .int .i64 (-1), .bool false, .int .i64 0] _
  go_enter Try.func7, Try.ntmps7
  go_wp2
  rw [← HV.out]
  have c0 : V.cell? ⟨w.heap.size, 0, none⟩ = some (.int .i64 r) := HR.out.cell 0
  have c1 : V.cell? ⟨w.heap.size, 1, none⟩ = some (.slice none 0 0) := HR.out.cell 1
  have c2 : V.cell? ⟨w.heap.size, 2, none⟩ = some (.slice none 0 0) := HR.out.cell 2
  have c3 : V.cell? ⟨w.heap.size, 3, none⟩ = some (.slice none 0 0) := HR.out.cell 3
  have c4 : V.cell? ⟨w.heap.size, 4, none⟩ = some (.slice none 0 0) := HR.out.cell 4
  have c5 : V.cell? ⟨w.heap.size, 5, none⟩ = some (.int .i64 (-1)) := HR.out.cell 5
  have c6 : V.cell? ⟨w.heap.size, 6, none⟩ = some (.bool false) := HR.out.cell 6
  have c7 : V.cell? ⟨w.heap.size, 7, none⟩ = some (.int .i64 0) := HR.out.cell 7
  refine bodyPost_ret (v := .tuple #[rD r, .int .i64 0]) ?_ rfl ⟨rfl, by rw [HV.out]; exact (Below.refl _ w).alloc (Nat.le_refl _) _⟩
  simp [results, Try.results7, go_sem, c0, c1, c2, c3, c4, c5, c6, c7, rD]
def rZ : Value := .agg #[.int .i64 0, .slice none 0 0, .slice none 0 0, .slice none 0 0, .slice none 0 0, .int .i64 0, .bool false, .int .i64 0]
theorem rnew_bad (r : Int) (w : World) (h : r < 0 ∨ 1048576 < r) : Calls Try.prog 7 #[.int .i64 r] w fun e w' => e = .returned (.tuple #[rZ, .int .i64 1]) ∧ Below w.heap.size w w' := by
  obtain ⟨V, HV⟩ : ∃ V, Hid (V = w.alloc (.cells #[.int .i64 0, .slice none 0 0, .slice none 0 0, .slice none 0 0, .slice none 0 0, .int .i64 0, .bool false, .int .i64 0] 33)) := ⟨_, rfl⟩
  have HR : Hid (Row V w.heap.size 33 [.int .i64 0, .slice none 0 0, .slice none 0 0, .slice none 0 0, .slice none 0 0, .int .i64 0, .bool false, .int .i64 0]) := by rw [HV.out]; exact Row.mk w [.int .i64 0, .slice none 0 0, .slice none 0 0, .slice none 0 0, .slice none 0 0, .int .i64 0, .bool false, .int .i64 0] _
  by_cases h1 : r < 0
  · have hd1 : decide (r < 0) = true := decide_eq_true h1
    go_enter Try.func7, Try.ntmps7
    go_wp2
    rw [← HV.out]
    have c0 : V.cell? ⟨w.heap.size, 0, none⟩ = some (.int .i64 0) := HR.out.cell 0
    have c1 : V.cell? ⟨w.heap.size, 1, none⟩ = some (.slice none 0 0) := HR.out.cell 1
    have c2 : V.cell? ⟨w.heap.size, 2, none⟩ = some (.slice none 0 0) := HR.out.cell 2
    have c3 : V.cell? ⟨w.heap.size, 3, none⟩ = some (.slice none 0 0) := HR.out.cell 3
    have c4 : V.cell? ⟨w.heap.size, 4, none⟩ = some (.slice none 0 0) := HR.out.cell 4
    have c5 : V.cell? ⟨w.heap.size, 5, none⟩ = some (.int .i64 0) := HR.out.cell 5
    have c6 : V.cell? ⟨w.heap.size, 6, none⟩ = some (.bool false) := HR.out.cell 6
    have c7 : V.cell? ⟨w.heap.size, 7, none⟩ = some (.int .i64 0) := HR.out.cell 7
    refine bodyPost_ret (v := .tuple #[rZ, .int .i64 1]) ?_ rfl ⟨rfl, by rw [HV.out]; exact (Below.refl _ w).alloc (Nat.le_refl _) _⟩
    simp [results, Try.results7, go_sem, c0, c1, c2, c3, c4, c5, c6, c7, rZ]
  · have hd1 : decide (r < 0) = false := decide_eq_false h1
    have hd2 : decide ((1048576 : Int) < r) = true := decide_eq_true (by omega)
    go_enter Try.func7, Try.ntmps7
    go_wp2
    rw [← HV.out]
    have c0 : V.cell? ⟨w.heap.size, 0, none⟩ = some (.int .i64 0) := HR.out.cell 0
    have c1 : V.cell? ⟨w.heap.size, 1, none⟩ = some (.slice none 0 0) := HR.out.cell 1
    have c2 : V.cell? ⟨w.heap.size, 2, none⟩ = some (.slice none 0 0) := HR.out.cell 2
    have c3 : V.cell? ⟨w.heap.size, 3, none⟩ = some (.slice none 0 0) := HR.out.cell 3
    have c4 : V.cell? ⟨w.heap.size, 4, none⟩ = some (.slice none 0 0) := HR.out.cell 4
    have c5 : V.cell? ⟨w.heap.size, 5, none⟩ = some (.int .i64 0) := HR.out.cell 5
    have c6 : V.cell? ⟨w.heap.size, 6, none⟩ = some (.bool false) := HR.out.cell 6
    have c7 : V.cell? ⟨w.heap.size, 7, none⟩ = some (.int .i64 0) := HR.out.cell 7
    refine bodyPost_ret (v := .tuple #[rZ, .int .i64 1]) ?_ rfl ⟨rfl, by rw [HV.out]; exact (Below.refl _ w).alloc (Nat.le_refl _) _⟩
    simp [results, Try.results7, go_sem, c0, c1, c2, c3, c4, c5, c6, c7, rZ]
end Go.Proofs.Ytedpiikdlpehjaa.Dsk
