/- Words of 32 bits as the walk has them: numbers of the kind uint32. -/
import Derived.Test.YtkihoimlelbolaaRows
import Derived.Test.YtkihoimlelbolaaCrcPlain
import Derived.WalkKit
import Derived.WalkSpells
import Derived.WalkLawsBesides
import Derived.Laws.BitsAllLaws
namespace Go.Proofs.Ytkihoimlelbolaa.Crc
open Go.RowKit
set_option linter.unusedSimpArgs false
set_option linter.unusedVariables false

/-- the number of a word (a name that does not unfold) -/
def cnt : Nat → Int
  | 0 => 0
  | n + 1 => cnt n + 1
theorem cnt_eq (n : Nat) : cnt n = (n : Int) := by
  induction n with
  | zero => rfl
  | succ n ih => rw [cnt, ih]; omega
def nm (x : W32) : Int := cnt x.toNat
theorem nm_eq (x : W32) : nm x = (x.toNat : Int) := cnt_eq x.toNat
theorem nm_lo (x : W32) : 0 ≤ nm x := by rw [nm_eq]; omega
theorem nm_hi (x : W32) : nm x < 4294967296 := by rw [nm_eq]; have := x.isLt; omega
theorem nm_inj {x y : W32} (h : nm x = nm y) : x = y := by rw [nm_eq, nm_eq] at h; exact BitVec.eq_of_toNat_eq (by omega)
theorem nm_xor (x y : W32) : bits .xor .u32 (nm x) (nm y) = nm (x ^^^ y) := by
  simp only [nm_eq]
  rw [u32_xor_nat _ _ x.isLt y.isLt, BitVec.toNat_xor]
theorem nm_and15 (x : W32) : bits .and .u32 (nm x) 15 = nm (x &&& 15#32) := by
  simp only [nm_eq]
  have := u32_and_nat x.toNat 15 x.isLt (by decide)
  rw [show ((15 : Nat) : Int) = 15 by rfl] at this
  rw [this, BitVec.toNat_and]; rfl
theorem nm_shr1 (x : W32) : nm x / (2 : Int) = nm (x >>> 1) := by
  simp only [nm_eq]
  rw [BitVec.toNat_ushiftRight, Nat.shiftRight_eq_div_pow]; omega
theorem nm_shr4 (x : W32) : nm x / (16 : Int) = nm (x >>> 4) := by
  simp only [nm_eq]
  rw [BitVec.toNat_ushiftRight, Nat.shiftRight_eq_div_pow]; omega
theorem nm_shl1 (x : W32) : (nm x * (2 : Int)) % (4294967296 : Int) = nm (x <<< 1) := by
  simp only [nm_eq]
  rw [BitVec.toNat_shiftLeft, Nat.shiftLeft_eq]; omega
theorem nm_not (x : W32) : (4294967295 : Int) - nm x = nm (~~~ x) := by
  simp only [nm_eq]
  rw [BitVec.toNat_not]; have := x.isLt; omega
theorem nm_odd (x : W32) : (nm x % (2 : Int) = 1) ↔ x.getLsbD 0 = true := by
  simp only [nm_eq]
  rw [BitVec.getLsbD, Nat.testBit_zero]; simp; omega
theorem nm_msb (x : W32) : (nm x / (2147483648 : Int) = 1) ↔ x.getLsbD 31 = true := by
  simp only [nm_eq]
  rw [BitVec.getLsbD, Nat.testBit_eq_decide_div_mod_eq]; have := x.isLt; simp; omega
theorem nm_and1 (x : W32) : (bits .and .u32 (nm x) 1 == 1) = x.getLsbD 0 := by
  simp only [nm_eq]
  have := u32_and_nat x.toNat 1 x.isLt (by decide)
  rw [show ((1 : Nat) : Int) = 1 by rfl] at this
  rw [this, BitVec.getLsbD, Nat.testBit_zero, Nat.and_one_is_mod]
  rcases (show x.toNat % 2 = 0 ∨ x.toNat % 2 = 1 by omega) with h | h <;> rw [h] <;> rfl
theorem nm_msb2 (x : W32) : (nm x / (2147483648 : Int) == 1) = x.getLsbD 31 := by
  have := nm_msb x
  cases h : x.getLsbD 31
  · rw [h] at this
    exact beq_eq_false_iff_ne.2 (fun c => absurd (this.1 c) (by decide))
  · exact beq_iff_eq.2 (this.2 h)
theorem nm_zero : nm 0 = 0 := by rw [nm_eq]; rfl
theorem nm_poly : nm poly = 3988292384 := by rw [nm_eq]; rfl
theorem half_odd {x : W32} (h : x.getLsbD 0 = true) : half x = (x >>> 1) ^^^ poly := by unfold half; rw [h]; rfl

theorem nm_not2 (x : W32) : bits .xor .u32 IntKind.u32.max (nm x) = nm (~~~ x) := by
  rw [show IntKind.u32.max = nm (~~~ (0 : W32)) by rw [nm_eq]; rfl, nm_xor, ← not_xor]
theorem int_u {a b : Int} (h : a = b) : Value.int .u32 a = .int .u32 b := by rw [h]
theorem of_nm (x : W32) : BitVec.ofInt 32 (nm x) = x := by
  rw [nm_eq, BitVec.ofInt_natCast, BitVec.ofNat_toNat]; simp
theorem ret_u {a b : Int} (h : a = b) : Ending.returned (.int .u32 a) = .returned (.int .u32 b) := by rw [h]

end Go.Proofs.Ytkihoimlelbolaa.Crc
