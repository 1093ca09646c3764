/- The law's own probe 'alive': it answers true. -/
import Derived.Test.YtoamfmockinknaaDoorBlockTake
import Derived.Test.YtoamfmockinknaaDoorBlockHead
namespace Go.Proofs.YtoamfmockinknaaDoor.Blk
open Go.RowKit
open Rws (mk mk_data mk_size mk_of mk_ext mk_get mk_inj)
set_option linter.unusedSimpArgs false
set_option linter.unusedVariables false
set_option maxRecDepth 100000

theorem eql_fault (x1 y1 x2 y2 : Int) (w : World) : (binOp .eql 39 (.agg #[.int .i64 x1, .int .i64 x2]) (.agg #[.int .i64 y1, .int .i64 y2])).run Tryd.prog w = .ok (.bool (x1 == y1 && x2 == y2)) w := by
  rw [run_eql_struct, run_equalIn_struct w 9999 39 _ _ (by kernel_rfl) (by kernel_rfl)]
  cases h1 : x1 == y1 <;> cases h2 : x2 == y2 <;> simp [go_sem, Program.fieldsOf, Tryd.underlying39, Tryd.underlying37, Tryd.underlying3, h1, h2]
theorem eql_style (x1 y1 : Bool) (x2 y2 : Int) (w : World) : (binOp .eql 24 (.agg #[.bool x1, .int .i64 x2]) (.agg #[.bool y1, .int .i64 y2])).run Tryd.prog w = .ok (.bool (x1 == y1 && x2 == y2)) w := by
  rw [run_eql_struct, run_equalIn_struct w 9999 24 _ _ (by kernel_rfl) (by kernel_rfl)]
  cases h1 : x1 == y1 <;> cases h2 : x2 == y2 <;> simp [go_sem, Program.fieldsOf, Tryd.underlying24, Tryd.underlying4, Tryd.underlying3, h1, h2]
def prs : List Rw := [(2, [97], 2), (3, [98], 3), (0, [99], 4)]
theorem prs_lo : lo none (rws prs 0) = .inl [[97], [32, 98]] := by decide +kernel
theorem prs_tak : takV false 0 (lo none (rws prs 0)) = .tuple #[.string ⟨#[97, 10, 32, 98, 10]⟩, .int .i64 2, .agg #[.int .i64 0, .int .i64 0]] := by
  rw [prs_lo]
  have e : txt false 0 [[97], [32, 98]] = [97, 10, 32, 98, 10] := by decide +kernel
  show Value.tuple #[.string (mk (txt false 0 [[97], [32, 98]])), _, _] = _
  rw [e]
  rfl
theorem hd_probe : hdV [62, 45] = .tuple #[.agg #[.bool true, .int .i64 1], .bool true] := by
  have e : headO [62, 45] = some (true, 1) := by decide +kernel
  unfold hdV; rw [e]
theorem fld_probe : mk (fld [[97], [98], [], [99]]) = ⟨#[97, 32, 98, 10, 99]⟩ := by
  have e : fld [[97], [98], [], [99]] = [97, 32, 98, 10, 99] := by decide +kernel
  rw [e]; rfl

set_option maxHeartbeats 2000000 in
theorem alive_any (w : World) : Calls Tryd.prog 5 #[] w fun e w' => e = .returned (.bool true) ∧ Below w.heap.size w w' := by
  go_enter Tryd.func5, Tryd.ntmps5
  have he := eql_fault
  have hy := eql_style
  go_wp2_with fail
  have hrw : RwAt (w.alloc (.cells #[.int .i64 2, .string ⟨#[97]⟩, .int .i64 2, .int .i64 3, .string ⟨#[98]⟩, .int .i64 3, .int .i64 0, .string ⟨#[99]⟩, .int .i64 4] 44)) (some ⟨w.heap.size, 0, none⟩) 3 prs := by
    refine ⟨rfl, fun _ => ⟨_, _, rfl, by simp, fun i hi => ?_⟩⟩
    have h := heap_alloc_new w (.cells #[.int .i64 2, .string ⟨#[97]⟩, .int .i64 2, .int .i64 3, .string ⟨#[98]⟩, .int .i64 3, .int .i64 0, .string ⟨#[99]⟩, .int .i64 4] 44)
    rw [cell_of_row _ _ _ _ _ (0, 0) h, cell_of_row _ _ _ _ _ (0, 0) h, cell_of_row _ _ _ _ _ (0, 0) h]
    rcases (show i = 0 ∨ i = 1 ∨ i = 2 by omega) with rfl | rfl | rfl <;> exact ⟨rfl, rfl, rfl⟩
  refine (take_any _ 3 3 prs 0 false 0 _ hrw (by decide) (by decide) ?_).mono ?_
  · intro ls q
    rw [prs_lo] at q
    cases q
    decide +kernel
  rintro e w1 ⟨rfl, hb1⟩
  rw [prs_tak]
  rw [World.size_alloc] at hb1
  have B1 : Below w.heap.size w w1 := ((Below.refl _ w).alloc (Nat.le_refl _) _).trans (hb1.mono (by omega))
  have s1 := B1.size
  clear hrw hb1
  go_wp2_with fail
  have hh := head_any [62, 45] (w1.alloc (.cells #[.int .i64 0, .int .i64 0] 39))
  rw [hd_probe, show mk [62, 45] = (⟨#[62, 45]⟩ : ByteArray) from rfl] at hh
  refine hh.mono ?_
  clear hh
  rintro e w2 ⟨rfl, hb2⟩
  rw [World.size_alloc] at hb2
  have hc2 : w2.heap[w1.heap.size]? = some (.cells #[.int .i64 0, .int .i64 0] 39 (0, 0)) := (hb2.block _ (by omega)).trans (heap_alloc_new w1 _)
  obtain ⟨W3, hW3⟩ : ∃ W3, w2.alloc (.cells #[.bool true, .int .i64 1] 24) = W3 := ⟨_, rfl⟩
  have B2 : Below w.heap.size w w2 := (B1.alloc s1 _).trans (hb2.mono (by omega))
  have s2 : w1.heap.size + 1 ≤ w2.heap.size := by have := hb2.size; simpa using this
  have hc3 : W3.heap[w1.heap.size]? = some (.cells #[.int .i64 0, .int .i64 0] 39 (0, 0)) := by rw [← hW3]; exact (((Below.refl _ w2).alloc (Nat.le_refl _) _).block _ (by omega)).trans hc2
  have hc4 : W3.heap[w2.heap.size]? = some (.cells #[.bool true, .int .i64 1] 24 (0, 0)) := by rw [← hW3]; exact heap_alloc_new w2 _
  have f0 : W3.cell? ⟨w1.heap.size, 0, none⟩ = some (.int .i64 0) := by rw [Lib.cell_of_heap hc3]; rfl
  have f1 : W3.cell? ⟨w1.heap.size, 1, none⟩ = some (.int .i64 0) := by rw [Lib.cell_of_heap hc3]; rfl
  have f2 : W3.cell? ⟨w2.heap.size, 0, none⟩ = some (.bool true) := by rw [Lib.cell_of_heap hc4]; rfl
  have f3 : W3.cell? ⟨w2.heap.size, 1, none⟩ = some (.int .i64 1) := by rw [Lib.cell_of_heap hc4]; rfl
  have B3 : Below w.heap.size w W3 := by rw [← hW3]; exact B2.alloc (by omega) _
  have S3 : Hid (w2.heap.size + 1 ≤ W3.heap.size) := by rw [← hW3]; simp [Hid]
  clear hb2 hc2 hc3 hc4
  go_wp2_with fail
  have hst : StrsAt (W3.alloc (.cells #[.string ⟨#[97]⟩, .string ⟨#[98]⟩, .string ⟨#[]⟩, .string ⟨#[99]⟩] 9)) (some ⟨W3.heap.size, 0, none⟩) 4 [[97], [98], [], [99]] := by
    refine ⟨rfl, fun _ => ⟨_, _, rfl, by simp, fun i hi => ?_⟩⟩
    have h := heap_alloc_new W3 (.cells #[.string ⟨#[97]⟩, .string ⟨#[98]⟩, .string ⟨#[]⟩, .string ⟨#[99]⟩] 9)
    rw [cell_of_row _ _ _ _ _ (0, 0) h]
    rcases (show i = 0 ∨ i = 1 ∨ i = 2 ∨ i = 3 by omega) with rfl | rfl | rfl | rfl <;> exact rfl
  have hfo := fold_any _ 4 4 [[97], [98], [], [99]] _ hst (by decide) (by decide +kernel)
  rw [fld_probe] at hfo
  refine hfo.mono ?_
  clear hfo hst
  rintro e w5 ⟨rfl, hb5⟩
  rw [World.size_alloc] at hb5
  go_wp2
  go_ret
  have s3 := S3.out
  exact ⟨rfl, (B3.alloc (by omega) _).trans (hb5.mono (by omega))⟩

end Go.Proofs.YtoamfmockinknaaDoor.Blk
