/- The walk of CrcSums: the sum of any parts is the reference's. -/
import Derived.Test.YtkihoimlelbolaaCrcAlive
import Derived.Test.YtkihoimlelbolaaCrcRef
namespace Go.Proofs.Ytkihoimlelbolaa.Crc
open Go.RowKit
set_option linter.unusedSimpArgs false
set_option linter.unusedVariables false

theorem crcSums_any (a : Option Addr) (len cap : Nat) (ps : List (List UInt8)) (w : World) (h : Parts w a len ps ∧ len ≤ maxLen) :
    Calls Try.prog 3 #[.slice a len cap] w fun e w' => e = .returned (.bool true) ∧ Below w.heap.size w w' := by
  have H : Hid (Parts w a len ps ∧ len ≤ maxLen) := h
  clear h
  go_enter Try.func3, Try.ntmps3
  go_wp2_with fail
  refine (sum_any _ _ _ _ _ H.out.1 H.out.2).mono ?_
  rintro e w1 ⟨rfl, hb1⟩
  go_wp2_with fail
  refine (rsum_any _ _ _ _ _ (H.out.1.later hb1 (Nat.le_refl _)) H.out.2).mono ?_
  rintro e w2 ⟨rfl, rfl⟩
  go_wp2_with fail
  refine (alive_any _).mono ?_
  rintro e w3 ⟨rfl, hb3⟩
  have hbel := hb1.trans (hb3.mono hb1.size)
  clear hb1 hb3
  go_wp2
  go_ret
  exact ⟨rfl, hbel⟩

end Go.Proofs.Ytkihoimlelbolaa.Crc
