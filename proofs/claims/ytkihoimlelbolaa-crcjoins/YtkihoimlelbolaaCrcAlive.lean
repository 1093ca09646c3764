/- alive: the sum of nine digits. -/
import Derived.Test.YtkihoimlelbolaaCrcTop
import Derived.Test.YtkihoimlelbolaaCrcParts
namespace Go.Proofs.Ytkihoimlelbolaa.Crc
open Go.RowKit
set_option linter.unusedSimpArgs false
set_option linter.unusedVariables false

theorem nine : sums [[49, 50, 51, 52, 53], [54, 55, 56, 57]] = 0xCBF43926#32 := by decide +kernel
theorem alive_any (w : World) : Calls Try.prog 11 #[] w fun e w' => e = .returned (.bool true) ∧ Below w.heap.size w w' := by
  have h1 := Lib.run_convert_bytes_const (P := Try.prog) w 28 5 #[.int .u8 49, .int .u8 50, .int .u8 51, .int .u8 52, .int .u8 53] 5 5 Try.underlying28 Try.underlying5
  have h2 := Lib.run_convert_bytes_const (P := Try.prog) (w.alloc (.cells #[.int .u8 49, .int .u8 50, .int .u8 51, .int .u8 52, .int .u8 53] 5 (5, 6))) 28 5 #[.int .u8 54, .int .u8 55, .int .u8 56, .int .u8 57] 4 4 Try.underlying28 Try.underlying5
  rw [show (w.alloc (.cells #[.int .u8 49, .int .u8 50, .int .u8 51, .int .u8 52, .int .u8 53] 5 (5, 6))).heap.size = w.heap.size + 1 by simp] at h2
  go_enter Try.func11, Try.ntmps11
  go_wp2_with fail
  clear h1 h2
  have hb1 : Bys ((w.alloc (.cells #[.int .u8 49, .int .u8 50, .int .u8 51, .int .u8 52, .int .u8 53] 5 (5, 6))).alloc (.cells #[.int .u8 54, .int .u8 55, .int .u8 56, .int .u8 57] 5 (4, 5))) (some ⟨w.heap.size, 0, none⟩) 5 [49, 50, 51, 52, 53] :=
    (bys_of_block (heap_alloc_last w _) [49, 50, 51, 52, 53] (by simp [nm_wd])).later ((Below.refl _ _).alloc (Nat.le_refl _) _) (Nat.le_refl _)
  have hb2 : Bys ((w.alloc (.cells #[.int .u8 49, .int .u8 50, .int .u8 51, .int .u8 52, .int .u8 53] 5 (5, 6))).alloc (.cells #[.int .u8 54, .int .u8 55, .int .u8 56, .int .u8 57] 5 (4, 5))) (some ⟨w.heap.size + 1, 0, none⟩) 4 [54, 55, 56, 57] := by
    have := bys_of_block (heap_alloc_last (w.alloc (.cells #[.int .u8 49, .int .u8 50, .int .u8 51, .int .u8 52, .int .u8 53] 5 (5, 6))) (.cells #[.int .u8 54, .int .u8 55, .int .u8 56, .int .u8 57] 5 (4, 5))) [54, 55, 56, 57] (by simp [nm_wd])
    rw [show (w.alloc (.cells #[.int .u8 49, .int .u8 50, .int .u8 51, .int .u8 52, .int .u8 53] 5 (5, 6))).heap.size = w.heap.size + 1 by simp] at this
    exact this
  have hbe : Below w.heap.size w ((w.alloc (.cells #[.int .u8 49, .int .u8 50, .int .u8 51, .int .u8 52, .int .u8 53] 5 (5, 6))).alloc (.cells #[.int .u8 54, .int .u8 55, .int .u8 56, .int .u8 57] 5 (4, 5))) := ((Below.refl _ w).alloc (Nat.le_refl _) _).alloc (by simp) _
  have hsz : ((w.alloc (.cells #[.int .u8 49, .int .u8 50, .int .u8 51, .int .u8 52, .int .u8 53] 5 (5, 6))).alloc (.cells #[.int .u8 54, .int .u8 55, .int .u8 56, .int .u8 57] 5 (4, 5))).heap.size = w.heap.size + 1 + 1 := by simp
  refine (sum_two _ hsz.symm hb1 (by decide) hb2 (by decide)).mono ?_
  rintro e w1 ⟨rfl, hb3⟩
  have hbel := hbe.trans (hb3.mono hbe.size)
  have hn : nm (sums [[49, 50, 51, 52, 53], [54, 55, 56, 57]]) = 3421780262 := by rw [nine, nm_eq]; rfl
  clear hb1 hb2 hbe hsz hb3
  go_wp2
  go_ret
  exact ⟨rfl, hbel⟩
end Go.Proofs.Ytkihoimlelbolaa.Crc
