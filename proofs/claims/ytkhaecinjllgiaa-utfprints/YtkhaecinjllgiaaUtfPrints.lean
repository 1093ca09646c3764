/- The law UtfPrints: it answers true. -/
import Derived.Test.YtkhaecinjllgiaaUtfRef3
import Derived.Test.YtkhaecinjllgiaaUtfChk
namespace Go.Proofs.Ytkhaecinjllgiaa.Utf
open Go.RowKit
set_option linter.unusedSimpArgs false
set_option linter.unusedVariables false

theorem prints_walk (s : ByteArray) (n : Int) (w : World) (hs : s.size ≤ 140737488351232) (_hn : (Lit.int .i64 n).wf = true) :
    Calls Try.prog 5 #[.string s, .int .i64 n] w fun e w' => e = .returned (.bool true) ∧ Below w.heap.size w w' := by
  have hm : s.size ≤ maxLen := by unfold maxLen; omega
  clear _hn
  go_enter Try.func5, Try.ntmps5
  go_wp2_with (first | (go_at_call 17; refine (printable_any _ _).mono ?_; rintro e w' ⟨rfl, rfl⟩) | (go_at_call 18; refine (rprintable_any _ _).mono ?_; rintro e w' ⟨rfl, rfl⟩) | (go_at_call 19; refine (check_any _ _ hm).mono ?_; rintro e w1 ⟨rfl, hb1⟩) | (go_at_call 20; refine (rcheck_any _ _ hm).mono ?_; rintro e w2 ⟨rfl, hb2⟩) | (go_at_call 21; refine (count_any _ _ hm).mono ?_; rintro e w' ⟨rfl, rfl⟩) | (go_at_call 22; refine (rcount_any _ _ hm).mono ?_; rintro e w3 ⟨rfl, hb3⟩) | (go_at_call 11; refine (alive_any _).mono ?_; rintro e w4 ⟨rfl, hb4⟩))
  go_ret
  refine ⟨rfl, ?_⟩
  have s1 := hb1.size
  have s2 := hb2.size
  have s3 := hb3.size
  exact ((hb1.trans (hb2.mono s1)).trans (hb3.mono (by omega))).trans (hb4.mono (by omega))

end Go.Proofs.Ytkhaecinjllgiaa.Utf
