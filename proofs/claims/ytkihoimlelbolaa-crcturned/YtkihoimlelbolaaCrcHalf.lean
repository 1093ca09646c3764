/- crc.halved and the reference's half. -/
import Derived.Test.YtkihoimlelbolaaCrcWord
namespace Go.Proofs.Ytkihoimlelbolaa.Crc
open Go.RowKit
set_option linter.unusedSimpArgs false
set_option linter.unusedVariables false

theorem halved_any (x : W32) (w : World) : Calls Try.prog 22 #[.int .u32 (nm x)] w fun e w' => e = .returned (.int .u32 (nm (half x))) ∧ w = w' := by
  have h0 := nm_lo x
  have h1 := nm_hi x
  have ho := nm_and1 x
  cases hx : x.getLsbD 0
  · rw [hx] at ho
    have HE : Hid (nm (half x) = nm x / 2) := (congrArg nm (half_even hx)).trans (nm_shr1 x).symm
    clear hx
    go_enter Try.func22, Try.ntmps22
    go_wp2
    go_ret
    exact ⟨ret_u HE.out.symm, rfl⟩
  · rw [hx] at ho
    have HE : Hid (nm (half x) = bits .xor .u32 (nm x / 2) 3988292384) := by
      show nm (half x) = _
      rw [half_odd hx, ← nm_xor, ← nm_shr1, nm_poly]
    clear hx
    go_enter Try.func22, Try.ntmps22
    go_wp2
    go_ret
    exact ⟨ret_u HE.out.symm, rfl⟩
theorem rhalf_any (x : W32) (w : World) : Calls Try.prog 21 #[.int .u32 (nm x)] w fun e w' => e = .returned (.int .u32 (nm (half x))) ∧ w = w' := by
  have h0 := nm_lo x
  have h1 := nm_hi x
  have ho := nm_odd x
  cases hx : x.getLsbD 0
  · have ho : (nm x % 2 == 1) = false := by rw [hx] at ho; simpa using ho
    have HE : Hid (nm (half x) = nm x / 2) := (congrArg nm (half_even hx)).trans (nm_shr1 x).symm
    clear hx
    go_enter Try.func21, Try.ntmps21
    go_wp2
    go_ret
    exact ⟨ret_u HE.out.symm, rfl⟩
  · have ho : (nm x % 2 == 1) = true := by rw [hx] at ho; simpa using ho
    have HE : Hid (nm (half x) = bits .xor .u32 (nm x / 2) 3988292384) := by
      show nm (half x) = _
      rw [half_odd hx, ← nm_xor, ← nm_shr1, nm_poly]
    clear hx
    go_enter Try.func21, Try.ntmps21
    go_wp2
    go_ret
    exact ⟨ret_u HE.out.symm, rfl⟩
theorem rturned_any (x : W32) (w : World) : Calls Try.prog 18 #[.int .u32 (nm x)] w fun e w' => e = .returned (.int .u32 (nm (~~~ x))) ∧ w = w' := by
  have h0 := nm_lo x
  have h1 := nm_hi x
  have HE : Hid (4294967295 - nm x = nm (~~~ x)) := nm_not x
  go_enter Try.func18, Try.ntmps18
  go_wp2
  go_ret
  exact ⟨ret_u HE.out, rfl⟩

end Go.Proofs.Ytkihoimlelbolaa.Crc
