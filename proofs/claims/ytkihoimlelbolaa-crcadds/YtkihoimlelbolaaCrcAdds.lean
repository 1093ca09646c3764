/- The walk of CrcAdds: any sum, of more bytes, is the reference's. -/
import Derived.Test.YtkihoimlelbolaaCrcAlive
import Derived.Test.YtkihoimlelbolaaCrcRef
namespace Go.Proofs.Ytkihoimlelbolaa.Crc
open Go.RowKit
set_option linter.unusedSimpArgs false
set_option linter.unusedVariables false

theorem crcAdds_any (s : W32) (a : Option Addr) (len cap : Nat) (l : List UInt8) (w : World) (h : BArg w a len cap l) :
    Calls Try.prog 4 #[.int .u32 (nm s), .slice a len cap] w fun e w' => e = .returned (.bool true) ∧ Below w.heap.size w w' := by
  have H : Hid (Bys w a len l ∧ len ≤ maxLen) := ⟨h.1, Nat.le_trans h.2.2.1 h.2.2.2⟩
  have hs0 := nm_lo s
  have hs1 := nm_hi s
  clear h
  go_enter Try.func4, Try.ntmps4
  go_wp2_with fail
  refine (add_any _ _ _ _ _ _ H.out.1 H.out.2).mono ?_
  rintro e w1 ⟨rfl, hb1⟩
  go_wp2_with fail
  refine (radd_any _ _ _ _ _ _ (H.out.1.later hb1 (Nat.le_refl _)) H.out.2).mono ?_
  rintro e w2 ⟨rfl, rfl⟩
  go_wp2_with fail
  refine (alive_any _).mono ?_
  rintro e w3 ⟨rfl, hb3⟩
  have hbel := hb1.trans (hb3.mono hb1.size)
  clear hb1 hb3
  go_wp2
  go_ret
  exact ⟨rfl, hbel⟩

end Go.Proofs.Ytkihoimlelbolaa.Crc
