/- utf.First at a place within a text; small words. -/
import Derived.Test.YtkggdjghjdakoaaGreatDoorUtfFirstI
import Derived.Test.YtkggdjghjdakoaaGreatDoorUtfPlain2
namespace Go.Proofs.YtkggdjghjdakoaaGreatDoor.Utf
open Go.RowKit
set_option linter.unusedSimpArgs false
set_option linter.unusedVariables false

theorem below_drewN {B : Nat} {a w : World} (h : Below B a w) (n : Nat) : Below B a (w.drewN n) := ⟨h.os, h.tape, h.output, h.size, h.block⟩
theorem drop_data (s : ByteArray) (p : Nat) : (s.extract p s.size).data.toList = s.data.toList.drop p := by
  have e : s = ⟨s.data.toList.toArray⟩ := by simp
  have h := ByteArray.extract_mk s.data.toList p s.size
  rw [← e] at h
  rw [h, List.take_of_length_le]
  have := len_data s
  rw [List.length_drop]; omega

theorem drop_ne (s : ByteArray) (p : Nat) (h : p < s.size) : s.data.toList.drop p ≠ [] := by
  intro e
  have := congrArg List.length e
  rw [List.length_drop, len_data] at this
  simp at this; omega

theorem firstAt_any (s : ByteArray) (p : Nat) (w : World) (hs : s.size ≤ maxLen) : Calls Tryz.prog 84 #[.string (s.extract p s.size)] w fun e w' => e = .returned (.tuple #[.int .i64 (fst (s.data.toList.drop p)).1, .int .i64 (fst (s.data.toList.drop p)).2]) ∧ w = w' := by
  have h := first_any (s.extract p s.size) w (by have e := congrArg List.length (drop_data s p); rw [len_data, List.length_drop, len_data] at e; omega)
  rw [drop_data] at h
  exact h

theorem ret_int {k : IntKind} {a b : Int} (h : a = b) : Ending.returned (.int k a) = .returned (.int k b) := by rw [h]

def why (o : Option Nat) : Int := match o with | none => 0 | some _ => 8
def pos (o : Option Nat) : Int := match o with | none => 0 | some p => p
theorem chk_nil : chk [] = none := rfl


end Go.Proofs.YtkggdjghjdakoaaGreatDoor.Utf
