/- crc.Add. -/
import Derived.Test.YtkihoimlelbolaaCrcSum
namespace Go.Proofs.Ytkihoimlelbolaa.Crc
open Go.RowKit
set_option linter.unusedSimpArgs false
set_option linter.unusedVariables false

theorem add_any (s : W32) (a : Option Addr) (len cap : Nat) (l : List UInt8) (w : World) (hl : Bys w a len l) (hm : len ≤ maxLen) :
    Calls Try.prog 12 #[.int .u32 (nm s), .slice a len cap] w fun e w' => e = .returned (.int .u32 (nm (add s l))) ∧ Below w.heap.size w w' := by
  have hs0 := nm_lo s
  have hs1 := nm_hi s
  have HZ : Hid (Bys w a len l) := hl
  have HM : Hid (len ≤ maxLen) := hm
  clear hl hm
  go_enter Try.func12, Try.ntmps12
  go_wp2_with fail
  refine (newTurns_any _).mono ?_
  rintro e w1 ⟨rfl, hbe⟩
  dsimp only
  go_step
  go_step
  go_step
  go_step
  obtain ⟨ht, hr, hb2⟩ := turns_laid w1 #[.int .u32 0, .int .u32 0, .int .u32 0, .int .u32 0, .int .u32 0, .int .u32 0, .int .u32 0, .int .u32 0, .int .u32 0, .int .u32 0, .int .u32 0, .int .u32 0, .int .u32 0, .int .u32 0, .int .u32 0, .int .u32 0] rfl
  refine wpList_store_mid rfl 37 (.tmp 5) (.tmp 6) rfl w1.heap.size 0 trL.toArray rfl rfl ht (by rw [List.size_toArray, trL_len]; exact info37) trL_one ?_
  generalize ((w1.alloc _).setCells w1.heap.size 0 trL.toArray.toList) = W2 at *
  have hbel := hbe.trans (hb2.mono hbe.size)
  have HZ2 : Hid (Bys W2 a len l) := HZ.out.later hbel (Nat.le_refl _)
  have HR : Hid (W2.rangeAt w1.heap.size 0 trL) := hr
  clear ht hr hb2 hbe
  generalize w1.heap.size = b1 at *
  go_wp2_with (go_at_call 17; refine (tadd_any _ _ _ _ _ _ _ HR.out HZ2.out HM.out).mono ?_; rintro e w' ⟨rfl, rfl⟩)
  go_ret
  exact ⟨rfl, hbel⟩

end Go.Proofs.Ytkihoimlelbolaa.Crc
