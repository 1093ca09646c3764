/- crc.times: the product of two words. -/
import Derived.Test.YtkihoimlelbolaaCrcHalf
import Derived.Test.YtkihoimlelbolaaCrcPlain2
namespace Go.Proofs.Ytkihoimlelbolaa.Crc
open Go.RowKit
set_option linter.unusedSimpArgs false
set_option linter.unusedVariables false

theorem times_any (a b : W32) (w : World) : Calls Try.prog 20 #[.int .u32 (nm a), .int .u32 (nm b)] w fun e w' => e = .returned (.int .u32 (nm (mul a b))) ∧ w = w' := by
  go_enter Try.func20, Try.ntmps20
  go_wp2
  go_loop [0, 1, 5] (fun x y p => ∃ (i : Nat) (x1 y1 p1 : W32), i ≤ 32 ∧ x = .int .u32 (nm x1) ∧ y = .int .u32 (nm y1) ∧ p = .int .u32 (nm p1) ∧ y1 = b <<< i ∧ mul a b = p1 ^^^ tm (32 - i) x1 y1) (fun _ y _ => lf 32 (BitVec.ofInt 32 (intOf y)))
  case atStart => exact ⟨0, a, b, 0, by omega, rfl, rfl, by rw [nm_zero], by simp, by simp [mul]⟩
  case round =>
    obtain ⟨i, x, y, p, hi, rfl, rfl, rfl, hy, hm⟩ := hrel
    have HY : Hid (y = b <<< i) := hy
    have HM : Hid (mul a b = p ^^^ tm (32 - i) x y) := hm
    clear hy hm
    have hx0 := nm_lo x
    have hx1 := nm_hi x
    have hy0 := nm_lo y
    have hy1 := nm_hi y
    have hp0 := nm_lo p
    have hp1 := nm_hi p
    by_cases hz : y = 0
    · have hn : nm y = 0 := by rw [hz, nm_zero]
      have HZ : Hid (y = 0) := hz
      clear hz
      go_wp2
      go_ret
      refine ⟨ret_u ?_, rfl⟩
      rw [HM.out, HZ.out, tm_zero]
      simp
    · have hn : ¬ nm y = 0 := fun h => hz (nm_inj (by rw [h, nm_zero]))
      have hi' : i < 32 := by
        rcases Nat.lt_or_ge i 32 with h | h
        · exact h
        · exfalso; apply hz; rw [HY.out, show i = 32 by omega, shl_zero]
      have HS : Hid (p ^^^ tm (32 - i) x y = _) := tm_step x y p hi'
      have HN : Hid (y ≠ 0) := hz
      have HH : Hid (nm y * (2 : Int) % (4294967296 : Int) = nm (y <<< 1)) := nm_shl1 y
      have hm := nm_msb2 y
      clear hz
      cases hb : y.getLsbD 31
      · rw [hb] at hm
        have HB : Hid (y.getLsbD 31 = false) := hb
        clear hb
        go_wp2_with (go_at_call 22; refine (halved_any _ _).mono ?_; rintro e w' ⟨rfl, rfl⟩)
        go_round
        case rel => exact ⟨i + 1, half x, y <<< 1, p, hi', rfl, int_u HH.out, rfl, by rw [HY.out, shl_succ], by rw [HM.out, HS.out, HB.out]; rfl⟩
        case measure =>
          simp only [intOf]
          rw [HH.out, of_nm, of_nm]
          exact lf_shl _ HN.out
      · rw [hb] at hm
        have HB : Hid (y.getLsbD 31 = true) := hb
        have HP : Hid (bits .xor .u32 (nm p) (nm x) = nm (p ^^^ x)) := nm_xor p x
        clear hb
        go_wp2_with (go_at_call 22; refine (halved_any _ _).mono ?_; rintro e w' ⟨rfl, rfl⟩)
        go_round
        case rel => exact ⟨i + 1, half x, y <<< 1, p ^^^ x, hi', rfl, int_u HH.out, int_u HP.out, by rw [HY.out, shl_succ], by rw [HM.out, HS.out, HB.out]; rfl⟩
        case measure =>
          simp only [intOf]
          rw [HH.out, of_nm, of_nm]
          exact lf_shl _ HN.out

end Go.Proofs.Ytkihoimlelbolaa.Crc
