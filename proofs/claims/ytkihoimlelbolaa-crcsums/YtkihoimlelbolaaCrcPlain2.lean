/- Sums as polynomials: the product of two words, and what it is worth at powers. -/
import Derived.Test.YtkihoimlelbolaaCrcPlain
namespace Go.Proofs.Ytkihoimlelbolaa.Crc
set_option linter.unusedSimpArgs false
set_option linter.unusedVariables false

/-- the product, as many bits as are left -/
def tm : Nat → W32 → W32 → W32
  | 0, _, _ => 0
  | n + 1, a, b => (if b.getLsbD 31 = true then a else 0) ^^^ tm n (half a) (b <<< 1)
def mul (a b : W32) : W32 := tm 32 a b
theorem tm_zero (n : Nat) (a : W32) : tm n a 0 = 0 := by
  induction n generalizing a with
  | zero => rfl
  | succ n ih =>
    have e : (0 : W32) <<< 1 = 0 := by decide
    rw [tm, e, ih, if_neg (by decide)]
    rfl
theorem xor4 (a b c d : W32) : (a ^^^ b) ^^^ (c ^^^ d) = (a ^^^ c) ^^^ (b ^^^ d) := by
  rw [BitVec.xor_assoc, BitVec.xor_assoc, ← BitVec.xor_assoc b, ← BitVec.xor_assoc c, BitVec.xor_comm b]
theorem tm_xorl (n : Nat) (a c b : W32) : tm n (a ^^^ c) b = tm n a b ^^^ tm n c b := by
  induction n generalizing a c b with
  | zero => simp [tm]
  | succ n ih =>
    rw [tm, tm, tm, half_xor, ih, xor4]
    congr 1
    split <;> simp
theorem tm_xorr (n : Nat) (a b c : W32) : tm n a (b ^^^ c) = tm n a b ^^^ tm n a c := by
  induction n generalizing a c b with
  | zero => simp [tm]
  | succ n ih =>
    rw [tm, tm, tm, BitVec.shiftLeft_xor_distrib, ih, xor4]
    congr 1
    rw [BitVec.getLsbD_xor]
    cases b.getLsbD 31 <;> cases c.getLsbD 31 <;> simp
theorem tm_half (n : Nat) (a b : W32) : tm n (half a) b = half (tm n a b) := by
  induction n generalizing a b with
  | zero => rw [tm, tm, half_zero]
  | succ n ih =>
    rw [tm, tm, ih, half_xor]
    congr 1
    split
    · rfl
    · exact half_zero.symm
theorem tm_halfs (n k : Nat) (a b : W32) : tm n (halfs k a) b = halfs k (tm n a b) := by
  induction k generalizing a with
  | zero => rfl
  | succ k ih => rw [halfs, halfs, ih, tm_half]

/-- two additive functions that agree on single bits are one -/
theorem lin_ext (f g : W32 → W32) (hf : ∀ x y, f (x ^^^ y) = f x ^^^ f y) (hg : ∀ x y, g (x ^^^ y) = g x ^^^ g y) (h : ∀ i, i < 32 → f (BitVec.twoPow 32 i) = g (BitVec.twoPow 32 i)) (x : W32) : f x = g x := by
  have z {f : W32 → W32} (hf : ∀ x y, f (x ^^^ y) = f x ^^^ f y) : f 0 = 0 := by
    have := hf 0 0
    rw [BitVec.xor_self] at this
    simpa using this
  have H : ∀ k, k ≤ 32 → ∀ x : W32, (∀ j, k ≤ j → x.getLsbD j = false) → f x = g x := by
    intro k
    induction k with
    | zero =>
      intro _ x hx
      have : x = 0 := BitVec.eq_of_getLsbD_eq (fun i hi => by rw [hx i (by omega)]; simp)
      rw [this, z hf, z hg]
    | succ k ih =>
      intro hk x hx
      cases hb : x.getLsbD k
      · exact ih (by omega) x (fun j hj => by
          rcases Nat.eq_or_lt_of_le hj with e | l
          · rw [← e]; exact hb
          · exact hx j l)
      · have e : x = (x ^^^ BitVec.twoPow 32 k) ^^^ BitVec.twoPow 32 k := by
          rw [BitVec.xor_assoc, BitVec.xor_self, BitVec.xor_zero]
        have := ih (by omega) (x ^^^ BitVec.twoPow 32 k) (fun j hj => by
          rw [BitVec.getLsbD_xor, BitVec.getLsbD_twoPow]
          rcases Nat.eq_or_lt_of_le hj with e | l
          · rw [← e, hb]; simp; omega
          · rw [hx j l]; simp; omega)
        rw [e, hf, hg, this, h k (by omega)]
  exact H 32 (Nat.le_refl _) x (fun j hj => BitVec.getLsbD_of_ge _ _ hj)

def one : W32 := 0x80000000#32
theorem one_pow : ∀ i : Fin 32, BitVec.twoPow 32 i.val = halfs (31 - i.val) one := by decide +kernel
theorem mul_one (a : W32) : mul a one = a := by
  show tm 32 a one = a
  rw [tm, show one <<< 1 = 0 by decide, tm_zero, if_pos (by decide)]
  exact BitVec.xor_zero
theorem one_mul_bits : ∀ i : Fin 32, tm 32 one (BitVec.twoPow 32 i.val) = BitVec.twoPow 32 i.val := by decide +kernel
theorem one_mul (b : W32) : mul one b = b := lin_ext (fun b => mul one b) (fun b => b) (fun x y => tm_xorr 32 one x y) (fun _ _ => rfl) (fun i hi => one_mul_bits ⟨i, hi⟩) b
theorem halfs_half (n : Nat) (x : W32) : halfs n (half x) = half (halfs n x) := by
  induction n generalizing x with
  | zero => rfl
  | succ n ih => rw [halfs, halfs, ih]
theorem mul_half (a b : W32) : mul a (half b) = half (mul a b) :=
  lin_ext (fun a => mul a (half b)) (fun a => half (mul a b)) (fun x y => tm_xorl 32 x y _) (fun x y => by show half (tm 32 _ _) = _; rw [tm_xorl, half_xor]; rfl)
    (fun i hi => by
      show tm 32 _ _ = half (tm 32 _ _)
      rw [one_pow ⟨i, hi⟩, tm_halfs, tm_halfs, show tm 32 one (half b) = half b from one_mul _, show tm 32 one b = b from one_mul _, halfs_half]) a
theorem mul_halfs (n : Nat) (a b : W32) : mul a (halfs n b) = halfs n (mul a b) := by
  induction n generalizing b with
  | zero => rfl
  | succ n ih => rw [halfs, ih, mul_half, halfs]
/-- a product with a power is as many halvings -/
theorem mul_pow (n : Nat) (a : W32) : mul a (halfs n one) = halfs n a := by rw [mul_halfs, mul_one]
theorem pow_eight : halfs 8 one = 8388608#32 := by decide
theorem pow_twice (n : Nat) : mul (halfs n one) (halfs n one) = halfs (n * 2) one := by rw [mul_pow, ← halfs_add, Nat.mul_two]

/-- how many bits are left of a word that is doubled till it is 0 -/
def lf : Nat → W32 → Nat
  | 0, _ => 0
  | n + 1, b => if b = 0 then 0 else 1 + lf n (b <<< 1)
theorem lf_more (n : Nat) (b : W32) (h : b <<< n = 0) : lf (n + 1) b = lf n b := by
  induction n generalizing b with
  | zero =>
    rw [BitVec.shiftLeft_zero] at h
    show (if b = 0 then 0 else 1 + lf 0 (b <<< 1)) = 0
    rw [if_pos h]
  | succ n ih =>
    show (if b = 0 then 0 else 1 + lf (n + 1) (b <<< 1)) = (if b = 0 then 0 else 1 + lf n (b <<< 1))
    rw [ih (b <<< 1) (by rw [← BitVec.shiftLeft_add, Nat.add_comm]; exact h)]
theorem lf_shl (b : W32) (h : b ≠ 0) : lf 32 (b <<< 1) < lf 32 b := by
  have e : lf 32 b = 1 + lf 31 (b <<< 1) := by rw [lf, if_neg h]
  have e2 := lf_more 31 (b <<< 1) (by rw [← BitVec.shiftLeft_add]; exact BitVec.shiftLeft_eq_zero (by omega))
  rw [e, e2]; omega
theorem shl_zero (b : W32) : b <<< 32 = 0 := BitVec.shiftLeft_eq_zero (by omega)
theorem shl_succ (b : W32) (i : Nat) : (b <<< i) <<< 1 = b <<< (i + 1) := (BitVec.shiftLeft_add ..).symm
/-- one step of the product's loop -/
theorem tm_step {i : Nat} (a b p : W32) (hi : i < 32) : p ^^^ tm (32 - i) a b = (if b.getLsbD 31 = true then p ^^^ a else p) ^^^ tm (32 - (i + 1)) (half a) (b <<< 1) := by
  rw [show 32 - i = (32 - (i + 1)) + 1 by omega, tm, ← BitVec.xor_assoc]
  congr 1
  split <;> simp

end Go.Proofs.Ytkihoimlelbolaa.Crc
