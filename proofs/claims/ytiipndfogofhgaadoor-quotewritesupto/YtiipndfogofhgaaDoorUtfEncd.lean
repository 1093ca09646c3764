/- utf.Encode, by its contract. -/
import Derived.Test.YtiipndfogofhgaaDoorUtfEnc
namespace Go.Proofs.YtiipndfogofhgaaDoor.Utf
open Go.RowKit
set_option linter.unusedSimpArgs false
set_option linter.unusedVariables false

theorem encode_no (a : Option Addr) (len cap : Nat) (zs : List Int) (w : World) (hz : Ints w a len zs) (hl : len ≤ 17592186044416) (hs : allS zs = false) :
    Calls Tryd.prog 63 #[.slice a len cap] w fun e w' => e = .returned (.tuple #[.string ⟨#[]⟩, .int .i64 8]) ∧ w = w' := by
  have HZ : Hid (Ints w a len zs) := hz
  clear hz
  go_enter Tryd.func63, Tryd.ntmps63
  go_wp2_with (first | (go_at_call 72; refine (areSigns_any _ _ _ zs _ HZ.out hl).mono ?_; rintro e w' ⟨rfl, rfl⟩))
  go_ret2
  exact ⟨rfl, rfl⟩

theorem encode_yes (a : Option Addr) (len cap : Nat) (zs : List Int) (w : World) (hz : Ints w a len zs) (hl : len ≤ 17592186044416) (hs : allS zs = true) :
    Calls Tryd.prog 63 #[.slice a len cap] w fun e w' => e = .returned (.tuple #[.string (strOfNums (bytes zs)), .int .i64 0]) ∧ Below w.heap.size w w' := by
  have HZ : Hid (Ints w a len zs) := hz
  clear hz
  go_enter Tryd.func63, Tryd.ntmps63
  go_wp2_with (first | (go_at_call 72; refine (areSigns_any _ _ _ zs _ HZ.out hl).mono ?_; rintro e w' ⟨rfl, rfl⟩) | (go_at_call 73; refine (appendSigns_any _ _ _ zs _ HZ.out hl hs).mono ?_; rintro e w' ⟨v, rfl, hown, hbe⟩; have hcv := conv_own hown; clear hown))
  go_ret2
  exact ⟨rfl, hbe⟩

def encS (zs : List Int) : ByteArray := if allS zs = true then strOfNums (bytes zs) else ⟨#[]⟩
def encE (zs : List Int) : Int := if allS zs = true then 0 else 8
theorem encode_any (a : Option Addr) (len cap : Nat) (zs : List Int) (w : World) (hz : Ints w a len zs) (hl : len ≤ 17592186044416) :
    Calls Tryd.prog 63 #[.slice a len cap] w fun e w' => e = .returned (.tuple #[.string (encS zs), .int .i64 (encE zs)]) ∧ Below w.heap.size w w' := by
  unfold encS encE
  cases hs : allS zs
  · refine (encode_no a len cap zs w hz hl hs).mono ?_
    rintro e w' ⟨rfl, rfl⟩
    exact ⟨by simp, Below.refl _ _⟩
  · refine (encode_yes a len cap zs w hz hl hs).mono ?_
    rintro e w' ⟨rfl, hb⟩
    exact ⟨by simp, hb⟩
theorem encE_no {zs : List Int} (h : allS zs = false) : encE zs = 8 := by unfold encE; rw [h]; rfl
theorem encE_yes {zs : List Int} (h : allS zs = true) : encE zs = 0 := by unfold encE; rw [h]; rfl
theorem encS_no {zs : List Int} (h : allS zs = false) : encS zs = ⟨#[]⟩ := by unfold encS; rw [h]; rfl
theorem encS_yes {zs : List Int} (h : allS zs = true) : encS zs = strOfNums (bytes zs) := by unfold encS; rw [h]; rfl

theorem ints_one (w : World) (n : Int) (t : TypeId) : Ints (w.alloc (.cells #[.int .i64 n] t)) (some ⟨w.heap.size, 0, none⟩) 1 [n] := by
  refine ⟨rfl, fun _ => ⟨_, _, rfl, by simp, ?_⟩⟩
  intro i hi
  obtain rfl : i = 0 := by omega
  rw [cell_of_row _ w.heap.size (0 + 0) #[.int .i64 n] t (0, 0) (heap_alloc_new w _)]
  rfl

end Go.Proofs.YtiipndfogofhgaaDoor.Utf
