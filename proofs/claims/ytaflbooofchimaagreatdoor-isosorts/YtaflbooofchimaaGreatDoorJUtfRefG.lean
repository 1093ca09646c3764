/- Several texts as one: UtfRefG. -/
import Derived.Test.YtaflbooofchimaaGreatDoorJ03UtfLeaf
import Derived.Test.YtaflbooofchimaaGreatDoorJ04UtfConv
import Derived.Test.YtaflbooofchimaaGreatDoorJ00UtfPlain
import Derived.BigQuiet
import Derived.Deep.QuietTactic
section
/- The reference's small functions: Sign, Printable, bytes, guess, begins, First, by their contracts. -/
namespace Go.Proofs.YtaflbooofchimaaGreatDoor.Utf
open Go.RowKit
set_option linter.unusedSimpArgs false
set_option linter.unusedVariables false

theorem ret_bool {a b : Bool} (h : a = b) : Ending.returned (.bool a) = .returned (.bool b) := by rw [h]

theorem rsign_any (n : Int) (w : World) : Calls Tryz.prog 101 #[.int .i64 n] w fun e w' => e = .returned (.bool (sgn n)) ∧ w = w' := by
  have hs : Hid (sgn n = (decide (0 ≤ n) && decide (n ≤ 1114111) && !(decide (55296 ≤ n) && decide (n ≤ 57343)))) := rfl
  rcases (show n < 0 ∨ 1114111 < n ∨ (0 ≤ n ∧ n < 55296) ∨ (55296 ≤ n ∧ n ≤ 57343) ∨ (57343 < n ∧ n ≤ 1114111) by omega) with h | h | h | h | h
  · have e : sgn n = false := by rw [hs.out]; simp; omega
    rw [e]; clear e hs
    go_enter Tryz.func101, Tryz.ntmps101
    go_wp2
    go_ret
    exact ⟨ret_bool (by first | rfl | (simp; omega)), rfl⟩
  · have e : sgn n = false := by rw [hs.out]; simp; omega
    rw [e]; clear e hs
    have h0 : 0 ≤ n := by omega
    go_enter Tryz.func101, Tryz.ntmps101
    go_wp2
    go_ret
    exact ⟨ret_bool (by first | rfl | (simp; omega)), rfl⟩
  · have e : sgn n = true := by rw [hs.out]; simp; omega
    rw [e]; clear e hs
    obtain ⟨h1, h2⟩ := h
    go_enter Tryz.func101, Tryz.ntmps101
    go_wp2
    go_ret
    exact ⟨ret_bool (by first | rfl | (simp; omega)), rfl⟩
  · have e : sgn n = false := by rw [hs.out]; simp; omega
    rw [e]; clear e hs
    obtain ⟨h1, h2⟩ := h
    go_enter Tryz.func101, Tryz.ntmps101
    go_wp2
    go_ret
    exact ⟨ret_bool (by first | rfl | (simp; omega)), rfl⟩
  · have e : sgn n = true := by rw [hs.out]; simp; omega
    rw [e]; clear e hs
    obtain ⟨h1, h2⟩ := h
    go_enter Tryz.func101, Tryz.ntmps101
    go_wp2
    go_ret
    exact ⟨ret_bool (by first | rfl | (simp; omega)), rfl⟩

theorem prn_rng (n : Int) (h1 : n ≠ 9) (h2 : n ≠ 10) (h3 : n ≠ 13) (h4 : n ≠ 133) (h5 : n ≠ 65279) : prn n = decide ((32 ≤ n ∧ n ≤ 126) ∨ (160 ≤ n ∧ n ≤ 55295) ∨ (57344 ≤ n ∧ n ≤ 65533) ∨ (65536 ≤ n ∧ n ≤ 1114111)) := by
  unfold prn inR
  have e1 : (n == 9) = false := by simpa using h1
  have e2 : (n == 10) = false := by simpa using h2
  have e3 : (n == 13) = false := by simpa using h3
  have e4 : (n == 133) = false := by simpa using h4
  have e5 : (n == 65279) = false := by simpa using h5
  rw [e1, e2, e3, e4, e5]
  simp [Bool.or_assoc]

theorem rbytes_any (n : Int) (w : World) (h0 : 0 ≤ n) (h1 : n ≤ 1114111) : Calls Tryz.prog 102 #[.int .i64 n] w fun e w' =>
    e = .returned (.slice (some ⟨w.heap.size, 0, none⟩) (byt n).length (byt n).length) ∧ w.alloc (.cells ((byt n).map (Value.int .u8)).toArray 5) = w' := by
  rcases byt_parts h0 h1 with ⟨e, c⟩ | ⟨e, c, c'⟩ | ⟨e, c, c'⟩ | ⟨e, c⟩ <;> rw [e] <;> clear e
  all_goals
    go_enter Tryz.func102, Tryz.ntmps102
    go_wp2
    go_ret
    exact ⟨rfl, rfl⟩

end Go.Proofs.YtaflbooofchimaaGreatDoor.Utf
end
