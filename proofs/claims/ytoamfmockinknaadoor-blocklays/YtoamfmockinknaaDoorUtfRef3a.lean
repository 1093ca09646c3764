/- the reference's First at a place within a text. -/
import Derived.Test.YtoamfmockinknaaDoorUtfRef2
namespace Go.Proofs.YtoamfmockinknaaDoor.Utf
open Go.RowKit
set_option linter.unusedSimpArgs false
set_option linter.unusedVariables false

theorem rfirstAt_any (s : ByteArray) (p : Nat) (w : World) (hs : s.size ≤ maxLen) : Calls Tryd.prog 38 #[.string (s.extract p s.size)] w fun e w' => e = .returned (.tuple #[.int .i64 (fst (s.data.toList.drop p)).1, .int .i64 (fst (s.data.toList.drop p)).2]) ∧ Below w.heap.size w w' := by
  have h := rfirst_any (s.extract p s.size) w (by have e := congrArg List.length (drop_data s p); rw [len_data, List.length_drop, len_data] at e; omega)
  rw [drop_data] at h
  exact h

theorem prn_neg {n : Int} (h : n < 0) : prn n = false := by
  rw [prn_rng n (by omega) (by omega) (by omega) (by omega) (by omega)]
  simp; omega

end Go.Proofs.YtoamfmockinknaaDoor.Utf
