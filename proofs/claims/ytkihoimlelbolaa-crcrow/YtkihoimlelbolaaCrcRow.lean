/- The walk of CrcRow: sums are joined in any order of joining. -/
import Derived.Test.YtkihoimlelbolaaCrcAlive
import Derived.Test.YtkihoimlelbolaaCrcJoin
namespace Go.Proofs.Ytkihoimlelbolaa.Crc
open Go.RowKit
set_option linter.unusedSimpArgs false
set_option linter.unusedVariables false

theorem sums_one (l : List UInt8) : sums [l] = sum l := rfl
theorem sums_app (a b : List UInt8) : sums [a, b] = sum (a ++ b) := (sum_app a b).symm
theorem sums_app3 (a b c : List UInt8) : sums [a, b, c] = sum (a ++ b ++ c) := by rw [sum_app, sum_app]; rfl
/-- joining with a row's sum is adding the row -/
theorem joinedI_add (x : W32) (l : List UInt8) (n : Nat) (h : n = l.length) : joinedI x (sum l) (n : Int) = add x l := by
  subst h
  unfold joinedI
  by_cases h1 : (l.length : Int) < 1
  · rw [if_pos h1]
    have : l = [] := List.eq_nil_of_length_eq_zero (by omega)
    rw [this, add_nil]
  · rw [if_neg h1, add_joined]; rfl
theorem joins_left (a b c : List UInt8) (n m : Nat) (hn : n = b.length) (hm : m = c.length) : joinedI (joinedI (sums [a]) (sums [b]) (n : Int)) (sums [c]) (m : Int) = sums [a, b, c] := by
  rw [sums_one, sums_one, sums_one, joinedI_add _ _ _ hn, joinedI_add _ _ _ hm, sums_app3, sum_app, sum_app]
theorem joins_right (a b c : List UInt8) (n m : Nat) (hn : n = b.length) (hm : m = c.length) : joinedI (sums [a]) (joinedI (sums [b]) (sums [c]) (m : Int)) ((n : Int) + (m : Int)) = sums [a, b, c] := by
  rw [sums_one, sums_one, sums_one, joinedI_add _ _ _ hm, ← sum_app, show ((n : Int) + (m : Int)) = ((n + m : Nat) : Int) by omega, joinedI_add _ _ _ (by rw [List.length_append]; omega), sums_app3, ← sum_app, List.append_assoc]

theorem crcRow_any (a : Option Addr) (len cap : Nat) (la : List UInt8) (b : Option Addr) (lenb capb : Nat) (lb : List UInt8) (c : Option Addr) (lenc capc : Nat) (lc : List UInt8) (w : World)
    (ha : BArg w a len cap la) (hb : BArg w b lenb capb lb) (hc : BArg w c lenc capc lc) :
    Calls Try.prog 8 #[.slice a len cap, .slice b lenb capb, .slice c lenc capc] w fun e w' => e = .returned (.bool true) ∧ Below w.heap.size w w' := by
  have HA : Hid (Bys w a len la ∧ len ≤ maxLen) := ⟨ha.1, Nat.le_trans ha.2.2.1 ha.2.2.2⟩
  have HB : Hid (Bys w b lenb lb ∧ lenb ≤ maxLen) := ⟨hb.1, Nat.le_trans hb.2.2.1 hb.2.2.2⟩
  have HC : Hid (Bys w c lenc lc ∧ lenc ≤ maxLen) := ⟨hc.1, Nat.le_trans hc.2.2.1 hc.2.2.2⟩
  have hlb : lenb ≤ 140737488351232 := hb.2.1
  have hlc : lenc ≤ 140737488351232 := hc.2.1
  have H1 : Hid ((lenb : Int) < 9223372036854775808) := by show (lenb : Int) < _; omega
  have H2 : Hid ((lenc : Int) < 9223372036854775808) := by show (lenc : Int) < _; omega
  have H3 : Hid ((lenb : Int) + (lenc : Int) < 9223372036854775808) := by show (lenb : Int) + (lenc : Int) < _; omega
  have HL := joins_left la lb lc lenb lenc hb.1.1 hc.1.1
  have HR := joins_right la lb lc lenb lenc hb.1.1 hc.1.1
  clear ha hb hc
  go_enter Try.func8, Try.ntmps8
  go_wp2_with fail
  refine (sum_one _ rfl HA.out.1 HA.out.2).mono ?_
  rintro e w1 ⟨rfl, hb1⟩
  go_wp2_with fail
  refine (sum_one _ rfl (HB.out.1.later hb1 (Nat.le_refl _)) HB.out.2).mono ?_
  rintro e w2 ⟨rfl, hb2⟩
  have hbe2 := hb1.trans (hb2.mono hb1.size)
  clear hb1 hb2
  go_wp2_with fail
  refine (sum_one _ rfl (HC.out.1.later hbe2 (Nat.le_refl _)) HC.out.2).mono ?_
  rintro e w3 ⟨rfl, hb3⟩
  have hbe3 := hbe2.trans (hb3.mono hbe2.size)
  clear hbe2 hb3
  go_wp2_with fail
  refine (joined_any _ _ _ H1.out _).mono ?_
  rintro e w' ⟨rfl, rfl⟩
  go_wp2_with fail
  refine (joined_any _ _ _ H2.out _).mono ?_
  rintro e w' ⟨rfl, rfl⟩
  go_wp2_with fail
  refine (joined_any _ _ _ H2.out _).mono ?_
  rintro e w' ⟨rfl, rfl⟩
  go_wp2_with fail
  refine (joined_any _ _ _ H3.out _).mono ?_
  rintro e w' ⟨rfl, rfl⟩
  go_wp2_with fail
  refine (sum_three _ rfl (HA.out.1.later hbe3 (Nat.le_refl _)) HA.out.2 (HB.out.1.later hbe3 (Nat.le_refl _)) HB.out.2 (HC.out.1.later hbe3 (Nat.le_refl _)) HC.out.2).mono ?_
  rintro e w4 ⟨rfl, hb4⟩
  have hbe4 := hbe3.trans (hb4.mono hbe3.size)
  clear hbe3 hb4
  go_wp2_with fail
  refine (alive_any _).mono ?_
  rintro e w5 ⟨rfl, hb5⟩
  have hbel := hbe4.trans (hb5.mono hbe4.size)
  clear hbe4 hb5
  go_wp2
  go_ret
  exact ⟨rfl, hbel⟩

end Go.Proofs.Ytkihoimlelbolaa.Crc
