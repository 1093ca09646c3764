/- The reference's Joined. -/
import Derived.Test.YtkihoimlelbolaaCrcJoin
namespace Go.Proofs.Ytkihoimlelbolaa.Crc
open Go.RowKit
set_option linter.unusedSimpArgs false
set_option linter.unusedVariables false

theorem halfs_succ' (n : Nat) (x : W32) : halfs (n + 1) x = half (halfs n x) := by rw [← halfs_half]; rfl

theorem rjoined_any (a b : W32) (n : Int) (hn : n < 9223372036854775807) (w : World) : Calls Try.prog 15 #[.int .u32 (nm a), .int .u32 (nm b), .int .i64 n] w fun e w' => e = .returned (.int .u32 (nm (joinedI a b n))) ∧ w = w' := by
  have ha0 := nm_lo a
  have ha1 := nm_hi a
  have hb0 := nm_lo b
  have hb1 := nm_hi b
  by_cases h1 : n < 1
  · have HE : Hid (joinedI a b n = a) := if_pos h1
    go_enter Try.func15, Try.ntmps15
    go_wp2
    go_ret
    exact ⟨by rw [HE.out]; rfl, rfl⟩
  · have HE : Hid (joinedI a b n = halfs (8 * n.toNat) a ^^^ b) := if_neg h1
    go_enter Try.func15, Try.ntmps15
    go_wp2
    go_loop [0, 7] (fun x i => ∃ (k : Nat) (x1 : W32), (k : Int) ≤ n ∧ x = .int .u32 (nm x1) ∧ i = .int .i64 k ∧ x1 = halfs (8 * k) a) (fun _ i => (n - intOf i).toNat)
    case atStart => exact ⟨0, a, by omega, rfl, rfl, rfl⟩
    case round =>
      obtain ⟨k, x, hk, rfl, rfl, hx⟩ := hrel
      have HX : Hid (x = halfs (8 * k) a) := hx
      clear hx
      have hx0 := nm_lo x
      have hx1 := nm_hi x
      by_cases hz : (k : Int) < n
      · have hlz : decide ((k : Int) < n) = true := decide_eq_true hz
        go_wp2
        go_loop [0, 8] (fun y j => ∃ (m : Nat), m ≤ 8 ∧ j = .int .i64 m ∧ y = .int .u32 (nm (halfs m x))) (fun _ j => 8 - (intOf j).toNat)
        case atStart => exact ⟨0, by omega, rfl, rfl⟩
        case round =>
          obtain ⟨m, hm8, rfl, rfl⟩ := hrel
          have hz0 := nm_lo (halfs m x)
          have hz1 := nm_hi (halfs m x)
          by_cases hm : m < 8
          · go_wp2_with (go_at_call 21; refine (rhalf_any _ _).mono ?_; rintro e w' ⟨rfl, rfl⟩)
            go_round
            case rel => exact ⟨m + 1, by omega, by go_num, int_u (by rw [halfs_succ'])⟩
            case measure => simp [intOf]; omega
          · have HM : Hid (m = 8) := by show m = 8; omega
            go_wp2
            go_round
            case rel => exact ⟨k + 1, halfs m x, by omega, rfl, by go_num, by rw [HX.out, HM.out, Nat.mul_add, Nat.mul_one, halfs_add]⟩
            case measure => simp [intOf]; omega
      · have HP := nm_xor x b
        have HK : Hid (k = n.toNat) := by show k = n.toNat; omega
        go_wp2
        go_ret
        refine ⟨ret_u ?_, rfl⟩
        rw [HE.out, HX.out, HK.out]

end Go.Proofs.Ytkihoimlelbolaa.Crc
