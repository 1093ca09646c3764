/- The library's searches and trims at the bytes that plain hands over, by their contracts. -/
import Derived.Test.YtkggdjghjdakoaaGreatDoorRows
import Derived.Test.YtkggdjghjdakoaaGreatDoorUtfAt
import Derived.Test.YtkggdjghjdakoaaGreatDoorPlainModel
import Derived.Laws.StandIn
import Derived.Lib.Bytealg
namespace Go.Proofs.YtkggdjghjdakoaaGreatDoor.Pln
open Utf Rws
open Go.RowKit
set_option linter.unusedSimpArgs false
set_option linter.unusedVariables false
set_option maxRecDepth 100000

theorem mk_getD (l : List UInt8) (k : Nat) (h : k < (mk l).size) : (mk l)[k]'h = l.getD k 0 := by
  rw [mk_get, List.getD_eq_getElem?_getD, List.getElem?_eq_getElem (by rw [mk_size] at h; exact h)]; rfl
theorem ret_str {a b : ByteArray} (h : a = b) : Ending.returned (.string a) = .returned (.string b) := by rw [h]
theorem snoc_ex (l : List UInt8) (h : l ≠ []) : ∃ r b, l = r ++ [b] := ⟨l.dropLast, l.getLast h, (List.dropLast_concat_getLast h).symm⟩

theorem has_cons (c b : UInt8) (r : List UInt8) : has c (b :: r) = (b == c || has c r) := by simp [has]
theorem index_eq (l : List UInt8) (c : UInt8) : Lib.indexByte l c = idx c l := by
  induction l with
  | nil => rfl
  | cons b r ih =>
    unfold Lib.indexByte
    unfold idx
    rw [has_cons, List.takeWhile_cons]
    by_cases hb : b = c
    · subst hb; simp
    · have h1 : (b == c) = false := by simpa using hb
      have h2 : (b != c) = true := by simpa using hb
      rw [h1, h2, ih]
      simp only [Bool.false_or, Bool.false_eq_true, if_false, if_true]
      unfold idx
      cases h : has c r
      · simp
      · simp only [if_true, List.length_cons]
        rw [if_neg (by simp)]
        push_cast
        omega
theorem idx_has (c : UInt8) (l : List UInt8) : decide (0 ≤ idx c l) = has c l := by
  cases h : has c l
  · rw [idx_no h]; rfl
  · rw [idx_yes h]; simp

theorem b32 (b : UInt8) : ((b.toNat : Int) == 32) = is32 b := by
  unfold is32
  rw [Bool.eq_iff_iff]
  simp only [beq_iff_eq]
  constructor
  · intro h; apply UInt8.toNat_inj.1; have : b.toNat = 32 := by omega
    rw [this]; rfl
  · rintro rfl; rfl

/-- strings.HasPrefix at "- " -/
theorem take2_eq (l : List UInt8) (h : 2 ≤ l.length) : ((mk l).extract 0 2).toList = l.take 2 := by
  rw [ByteArray.toList_eq, mk_ext, mk_data]; simp
end Go.Proofs.YtkggdjghjdakoaaGreatDoor.Pln
