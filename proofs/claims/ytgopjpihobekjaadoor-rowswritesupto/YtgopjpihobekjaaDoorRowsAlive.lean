/- The law's own probe 'alive': it answers true. -/
import Derived.Test.YtgopjpihobekjaaDoorRowsRead
import Derived.Test.YtgopjpihobekjaaDoorRowsSame
import Derived.Test.YtgopjpihobekjaaDoorRowsNote
namespace Go.Proofs.YtgopjpihobekjaaDoor.Rws
open Utf
open Go.RowKit
set_option linter.unusedSimpArgs false
set_option linter.unusedVariables false
set_option maxRecDepth 100000

def r3 (x : Nat × Lb) : R3 := ((col x.2.1 : Int), mk (text x.2.1), (x.1 : Int))
theorem rowsV_at (pre : List (Nat × Lb)) (i : Nat) (h : i < pre.length) : (rowsV pre)[i * 3]? = some (.int .i64 ((pre.map r3).getD i z3).1) ∧ (rowsV pre)[i * 3 + 1]? = some (.string ((pre.map r3).getD i z3).2.1) ∧ (rowsV pre)[i * 3 + 2]? = some (.int .i64 ((pre.map r3).getD i z3).2.2) := by
  induction pre generalizing i with
  | nil => simp at h
  | cons x r ih =>
    cases i with
    | zero => simp [rowsV, cellsOf, r3]
    | succ i =>
      have := ih i (by simp at h; omega)
      have e : rowsV (x :: r) = cellsOf x ++ rowsV r := by simp [rowsV]
      have e1 : (i + 1) * 3 = (cellsOf x).length + i * 3 := by simp [cellsOf]; omega
      have e2 : (i + 1) * 3 + 1 = (cellsOf x).length + (i * 3 + 1) := by simp [cellsOf]; omega
      have e3 : (i + 1) * 3 + 2 = (cellsOf x).length + (i * 3 + 2) := by simp [cellsOf]; omega
      rw [e, e3, e2, e1, List.getElem?_append_right (by omega), List.getElem?_append_right (by omega), List.getElem?_append_right (by omega), Nat.add_sub_cancel_left, Nat.add_sub_cancel_left, Nat.add_sub_cancel_left, List.map_cons, List.getD_cons_succ]
      exact this
theorem rowsAt_own {w : World} {base : Nat} {v : Value} {pre : List (Nat × Lb)} (h : w.ownsRow base 31 3 v pre.length (rowsV pre)) : ∃ a cap, v = .slice a pre.length cap ∧ RowsAt w a pre.length (pre.map r3) := by
  obtain ⟨hl, h⟩ := h
  rcases h with ⟨rfl, h0⟩ | ⟨g, cap, cur, rfl, hb, hg, hc, hm, hs, ht⟩
  · rw [h0]; exact ⟨_, _, rfl, by simp [h0], fun h => absurd h (by decide)⟩
  · refine ⟨_, _, rfl, by simp, fun _ => ⟨g, 0, rfl, (Array.getElem?_eq_some_iff.1 hg).1, ?_⟩⟩
    intro i hi
    have hv := rowsV_at pre i hi
    rw [← ht, List.getElem?_take, if_pos (by omega), List.getElem?_take, if_pos (by omega), List.getElem?_take, if_pos (by omega)] at hv
    simp only [Nat.zero_add]
    rw [cell_of_row w g _ cur 31 (0, 0) hg, cell_of_row w g _ cur 31 (0, 0) hg, cell_of_row w g _ cur 31 (0, 0) hg]
    simpa using hv

def probe : List UInt8 := [97, 58, 13, 10, 32, 32, 98, 32, 10, 35, 32, 99]
theorem probe_flt : flt 1 (lns probe) = (0, 0) := by decide +kernel
def rs0 : List R3 := [(0, ⟨#[97, 58]⟩, 1), (2, ⟨#[98]⟩, 2), (0, ⟨#[35, 32, 99]⟩, 3)]
theorem probe_len : (rws probe).length = 3 := by decide +kernel
theorem probe_rows : (rws probe).map r3 = rs0 := by decide +kernel
theorem probe_note : mk (note [97, 32, 35, 98]) = ⟨#[97]⟩ := by decide +kernel

theorem eql_fault (x1 y1 x2 y2 : Int) (w : World) : (binOp .eql 35 (.agg #[.int .i64 x1, .int .i64 x2]) (.agg #[.int .i64 y1, .int .i64 y2])).run Tryd.prog w = .ok (.bool (x1 == y1 && x2 == y2)) w := by
  rw [run_eql_struct, run_equalIn_struct w 9999 35 _ _ (by kernel_rfl) (by kernel_rfl)]
  cases h1 : x1 == y1 <;> cases h2 : x2 == y2 <;> simp [go_sem, Program.fieldsOf, Tryd.underlying35, Tryd.underlying33, Tryd.underlying3, h1, h2]

set_option maxHeartbeats 2000000 in
theorem alive_any (w : World) : Calls Tryd.prog 6 #[] w fun e w' => e = .returned (.bool true) ∧ Below w.heap.size w w' := by
  go_enter Tryd.func6, Tryd.ntmps6
  go_wp2_with fail
  refine (read_in probe (by decide) _).mono ?_
  rintro e w1 ⟨v, rfl, hown, hb1⟩
  rw [probe_flt]
  obtain ⟨a, cap, rfl, hat⟩ := rowsAt_own hown
  rw [probe_rows, probe_len] at hat
  rw [probe_len]
  clear hown
  have he := eql_fault
  go_wp2_with fail
  have h2 : ∀ o1, RowsAt ((w1.alloc o1).alloc (.cells #[.int .i64 0, .string ⟨#[97, 58]⟩, .int .i64 1, .int .i64 2, .string ⟨#[98]⟩, .int .i64 2, .int .i64 0, .string ⟨#[35, 32, 99]⟩, .int .i64 3] 31)) (some ⟨w1.heap.size + 1, 0, none⟩) 3 rs0 := by
    intro o1
    refine ⟨rfl, fun _ => ⟨_, _, rfl, by simp, fun i hi => ?_⟩⟩
    have h := heap_alloc_new (w1.alloc o1) (.cells #[.int .i64 0, .string ⟨#[97, 58]⟩, .int .i64 1, .int .i64 2, .string ⟨#[98]⟩, .int .i64 2, .int .i64 0, .string ⟨#[35, 32, 99]⟩, .int .i64 3] 31)
    rw [World.size_alloc] at h
    rw [cell_of_row _ _ _ _ _ (0, 0) h, cell_of_row _ _ _ _ _ (0, 0) h, cell_of_row _ _ _ _ _ (0, 0) h]
    rcases (show i = 0 ∨ i = 1 ∨ i = 2 by omega) with rfl | rfl | rfl <;> exact ⟨rfl, rfl, rfl⟩
  refine (rsame_any _ _ _ _ _ _ rs0 rs0 _ (hat.later (((Below.refl _ w1).alloc (Nat.le_refl _) _).alloc (by simp) _) (Nat.le_refl _)) (h2 _) (by decide) (by decide)).mono ?_
  rintro e w2 ⟨rfl, hb2⟩
  have hs : same rs0 rs0 = true := by unfold same; simp
  rw [hs]
  clear h2 hat
  go_wp2_with fail
  refine (note_any [97, 32, 35, 98] _ (by decide)).mono ?_
  rintro e w' ⟨rfl, rfl⟩
  rw [probe_note]
  go_wp2
  go_ret
  exact ⟨rfl, hb1.trans (((((Below.refl _ w1).alloc (Nat.le_refl _) _).alloc (by simp) _).trans (hb2.mono (by simp; omega))).mono hb1.size)⟩

end Go.Proofs.YtgopjpihobekjaaDoor.Rws
