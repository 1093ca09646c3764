/- Several texts as one: PlainRefG, UtfRefG. -/
import Derived.Test.YtfohbiohleekbaaGreatDoorQFbI
import Derived.Test.YtfohbiohleekbaaGreatDoorQFbF
import Derived.Test.YtfohbiohleekbaaGreatDoorQFbJ
import Derived.Test.YtfohbiohleekbaaGreatDoorQFbA
import Derived.BigQuiet
import Derived.Deep.QuietTactic
section
/- . -/
namespace Go.Proofs.YtfohbiohleekbaaGreatDoor.Pln
open Utf Rws
open Go.RowKit
set_option linter.unusedSimpArgs false
set_option linter.unusedVariables false
set_option maxRecDepth 100000
theorem beq_toNat (a b : UInt8) : ((a.toNat : Int) == (b.toNat : Int)) = (a == b) := by
 rw [Bool.eq_iff_iff]
 simp only [beq_iff_eq]
 constructor
 ·intro h; apply UInt8.toNat_inj.1; omega
 ·rintro rfl; rfl
theorem take_snoc (l : List UInt8) (e : Nat) (h : e < l.length) : l.take (e + 1) = l.take e ++ [l.getD e 0] := by
 rw [List.take_succ_eq_append_getElem h, List.getD_eq_getElem?_getD, List.getElem?_eq_getElem h]; rfl
end Go.Proofs.YtfohbiohleekbaaGreatDoor.Pln
end

section
/- . -/
namespace Go.Proofs.YtfohbiohleekbaaGreatDoor.Utf
open Go.RowKit
set_option linter.unusedSimpArgs false
set_option linter.unusedVariables false
theorem ret_bool {a b : Bool} (h : a = b) : Ending.returned (.bool a) = .returned (.bool b) := by rw [h]
theorem rsign_any (n : Int) (w : World) : Calls Tryz.prog 100 #[.int .i64 n] w fun e w' => e = .returned (.bool (sgn n)) ∧ w = w' := by
 have hs : Hid (sgn n = (decide (0 ≤ n) && decide (n ≤ 1114111) && !(decide (55296 ≤ n) && decide (n ≤ 57343)))) := rfl
 rcases (show n < 0 ∨ 1114111 < n ∨ (0 ≤ n ∧ n < 55296) ∨ (55296 ≤ n ∧ n ≤ 57343) ∨ (57343 < n ∧ n ≤ 1114111) by omega) with h | h | h | h | h
 ·have e : sgn n = false := by rw [hs.out]; simp; omega
  rw [e]; clear e hs
  go_enter Tryz.func100, Tryz.ntmps100
  go_wp2
  go_ret
  exact ⟨ret_bool (by first | rfl | (simp; omega)), rfl⟩
 ·have e : sgn n = false := by rw [hs.out]; simp; omega
  rw [e]; clear e hs
  have h0 : 0 ≤ n := by omega
  go_enter Tryz.func100, Tryz.ntmps100
  go_wp2
  go_ret
  exact ⟨ret_bool (by first | rfl | (simp; omega)), rfl⟩
 ·have e : sgn n = true := by rw [hs.out]; simp; omega
  rw [e]; clear e hs
  obtain ⟨h1, h2⟩ := h
  go_enter Tryz.func100, Tryz.ntmps100
  go_wp2
  go_ret
  exact ⟨ret_bool (by first | rfl | (simp; omega)), rfl⟩
 ·have e : sgn n = false := by rw [hs.out]; simp; omega
  rw [e]; clear e hs
  obtain ⟨h1, h2⟩ := h
  go_enter Tryz.func100, Tryz.ntmps100
  go_wp2
  go_ret
  exact ⟨ret_bool (by first | rfl | (simp; omega)), rfl⟩
 ·have e : sgn n = true := by rw [hs.out]; simp; omega
  rw [e]; clear e hs
  obtain ⟨h1, h2⟩ := h
  go_enter Tryz.func100, Tryz.ntmps100
  go_wp2
  go_ret
  exact ⟨ret_bool (by first | rfl | (simp; omega)), rfl⟩
theorem rbytes_any (n : Int) (w : World) (h0 : 0 ≤ n) (h1 : n ≤ 1114111) : Calls Tryz.prog 101 #[.int .i64 n] w fun e w' =>
  e = .returned (.slice (some ⟨w.heap.size, 0, none⟩) (byt n).length (byt n).length) ∧ w.alloc (.cells ((byt n).map (Value.int .u8)).toArray 5) = w' := by
 rcases byt_parts h0 h1 with ⟨e, c⟩ | ⟨e, c, c'⟩ | ⟨e, c, c'⟩ | ⟨e, c⟩ <;> rw [e] <;> clear e
 all_goals
  go_enter Tryz.func101, Tryz.ntmps101
  go_wp2
  go_ret
  exact ⟨rfl, rfl⟩
end Go.Proofs.YtfohbiohleekbaaGreatDoor.Utf
end
