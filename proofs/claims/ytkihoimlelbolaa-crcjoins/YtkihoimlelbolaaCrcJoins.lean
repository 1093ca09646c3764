/- The walk of CrcJoins: two sums are joined as the reference joins them. -/
import Derived.Test.YtkihoimlelbolaaCrcAlive
import Derived.Test.YtkihoimlelbolaaCrcRjoin
namespace Go.Proofs.Ytkihoimlelbolaa.Crc
open Go.RowKit
set_option linter.unusedSimpArgs false
set_option linter.unusedVariables false

theorem crcJoins_any (a b : W32) (n : Int) (w : World) (hn : (Lit.int .i64 n).wf = true) :
    Calls Try.prog 5 #[.int .u32 (nm a), .int .u32 (nm b), .int .i64 n] w fun e w' => e = .returned (.bool true) ∧ Below w.heap.size w w' := by
  clear hn
  have ha0 := nm_lo a
  have ha1 := nm_hi a
  have hb0 := nm_lo b
  have hb1 := nm_hi b
  by_cases hl : n > 100000
  · go_enter Try.func5, Try.ntmps5
    go_wp2_with (go_at_call 11; refine (alive_any _).mono ?_; rintro e w3 ⟨rfl, hb3⟩)
    go_ret
    exact ⟨rfl, hb3⟩
  · have H1 : Hid (n < 9223372036854775808) := by show n < _; omega
    have H2 : Hid (n < 9223372036854775807) := by show n < _; omega
    go_enter Try.func5, Try.ntmps5
    go_wp2_with (first | (go_at_call 14; refine (joined_any _ _ _ H1.out _).mono ?_; rintro e w1 ⟨rfl, rfl⟩) | (go_at_call 15; refine (rjoined_any _ _ _ H2.out _).mono ?_; rintro e w1 ⟨rfl, rfl⟩) | (go_at_call 11; refine (alive_any _).mono ?_; rintro e w3 ⟨rfl, hb3⟩))
    go_ret
    exact ⟨rfl, hb3⟩

end Go.Proofs.Ytkihoimlelbolaa.Crc
