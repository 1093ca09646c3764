/- crc.Joined: two sums joined, by squares. -/
import Derived.Test.YtkihoimlelbolaaCrcTimes
namespace Go.Proofs.Ytkihoimlelbolaa.Crc
open Go.RowKit
set_option linter.unusedSimpArgs false
set_option linter.unusedVariables false

/-- two sums joined, for any long -/
def joinedI (a b : W32) (n : Int) : W32 := if n < 1 then a else joined a b n.toNat
theorem odd_step (A : W32) (m l : Nat) (h : l % 2 = 1) : halfs (8 * m * l) A = halfs (8 * (m * 2) * (l / 2)) (halfs (8 * m) A) := by
  rw [← halfs_add]
  congr 1
  obtain ⟨k, rfl⟩ : ∃ k, l = 2 * k + 1 := ⟨l / 2, by omega⟩
  rw [show (2 * k + 1) / 2 = k by omega, Nat.mul_add, Nat.mul_one, Nat.add_comm]
  congr 1
  rw [← Nat.mul_assoc 8, ← Nat.mul_assoc (8 * m)]
theorem even_step (A : W32) (m l : Nat) (h : ¬ l % 2 = 1) : halfs (8 * m * l) A = halfs (8 * (m * 2) * (l / 2)) A := by
  congr 1
  obtain ⟨k, rfl⟩ : ∃ k, l = 2 * k := ⟨l / 2, by omega⟩
  rw [show (2 * k) / 2 = k by omega, ← Nat.mul_assoc 8, ← Nat.mul_assoc (8 * m)]
theorem and1_odd (l : Nat) (h : l < 9223372036854775808) : (bits .and .i64 (l : Int) 1 == 1) = decide (l % 2 = 1) := by
  have h1 : (BitVec.ofInt 64 1).toNat = 2 ^ 1 - 1 := by decide
  have key : (BitVec.ofInt 64 (l : Int) &&& BitVec.ofInt 64 1).toNat = l % 2 := by
    rw [BitVec.toNat_and, ofInt_u64 _ (by omega), h1, Nat.and_two_pow_sub_one_eq_mod]
  have e : bits .and .i64 (l : Int) 1 = ((l % 2 : Nat) : Int) := by
    show IntKind.i64.wrap ((BitVec.ofInt 64 (l : Int) &&& BitVec.ofInt 64 1).toNat : Nat) = _
    rw [key, IntKind.wrap_i64]
    omega
  rw [e]
  rcases (show l % 2 = 0 ∨ l % 2 = 1 by omega) with h | h <;> rw [h] <;> rfl

theorem joined_any (a b : W32) (n : Int) (hn : n < 9223372036854775808) (w : World) : Calls Try.prog 14 #[.int .u32 (nm a), .int .u32 (nm b), .int .i64 n] w fun e w' => e = .returned (.int .u32 (nm (joinedI a b n))) ∧ w = w' := by
  have ha0 := nm_lo a
  have ha1 := nm_hi a
  have hb0 := nm_lo b
  have hb1 := nm_hi b
  by_cases h1 : n < 1
  · have HE : Hid (joinedI a b n = a) := if_pos h1
    go_enter Try.func14, Try.ntmps14
    go_wp2
    go_ret
    exact ⟨by rw [HE.out]; rfl, rfl⟩
  · have HE : Hid (joinedI a b n = halfs (8 * n.toNat) a ^^^ b) := if_neg h1
    go_enter Try.func14, Try.ntmps14
    go_wp2
    go_loop [0, 7, 8] (fun x s l => ∃ (m k : Nat) (x1 s1 : W32), k < 9223372036854775808 ∧ x = .int .u32 (nm x1) ∧ s = .int .u32 (nm s1) ∧ l = .int .i64 k ∧ s1 = halfs (8 * m) one ∧ halfs (8 * n.toNat) a = halfs (8 * m * k) x1) (fun _ _ l => (intOf l).toNat)
    case atStart => exact ⟨1, n.toNat, a, 8388608#32, by omega, rfl, by rw [nm_eq]; rfl, by rw [Int.toNat_of_nonneg (by omega)], pow_eight.symm, by rw [Nat.mul_one]⟩
    case round =>
      obtain ⟨m, k, x, s, hk, rfl, rfl, rfl, hs, hx⟩ := hrel
      have HS : Hid (s = halfs (8 * m) one) := hs
      have HX : Hid (halfs (8 * n.toNat) a = halfs (8 * m * k) x) := hx
      clear hs hx
      have hx0 := nm_lo x
      have hx1 := nm_hi x
      have hs0 := nm_lo s
      have hs1 := nm_hi s
      by_cases hz : k = 0
      · have HZ : Hid (k = 0) := hz
        have hz' : (k : Int) = 0 := by omega
        have HP := nm_xor x b
        clear hz
        go_wp2
        go_ret
        refine ⟨ret_u ?_, rfl⟩
        rw [HE.out, HX.out, HZ.out, Nat.mul_zero]; rfl
      · have hk0 : 0 < (k : Int) := by omega
        have hd : ((k / 2 : Nat) : Int) = (k : Int) / 2 := by omega
        have HD : Hid (((k / 2 : Nat) : Int) = (k : Int) / 2) := hd
        have ho := and1_odd k hk
        have HT : Hid (mul s s = halfs (8 * (m * 2)) one) := by
          show mul s s = _
          rw [HS.out, pow_twice, Nat.mul_assoc]
        clear hd
        by_cases hb : k % 2 = 1
        · rw [decide_eq_true hb] at ho
          have HB : Hid (k % 2 = 1) := hb
          clear hb
          go_wp2_with (go_at_call 20; refine (times_any _ _ _).mono ?_; rintro e w' ⟨rfl, rfl⟩)
          go_round
          case rel => exact ⟨m * 2, k / 2, mul x s, mul s s, by omega, rfl, rfl, by rw [HD.out], HT.out, by rw [HX.out, HS.out, mul_pow, odd_step _ _ _ HB.out]⟩
          case measure => simp only [intOf]; omega
        · rw [decide_eq_false hb] at ho
          have HB : Hid (¬ k % 2 = 1) := hb
          clear hb
          go_wp2_with (go_at_call 20; refine (times_any _ _ _).mono ?_; rintro e w' ⟨rfl, rfl⟩)
          go_round
          case rel => exact ⟨m * 2, k / 2, x, mul s s, by omega, rfl, rfl, by rw [HD.out], HT.out, by rw [HX.out, even_step _ _ _ HB.out]⟩
          case measure => simp only [intOf]; omega

end Go.Proofs.Ytkihoimlelbolaa.Crc
