/- Sums of bytes, bit by bit: plain functions on words of 32 bits. -/
import Derived.KernelRfl
namespace Go.Proofs.Ytkihoimlelbolaa.Crc
set_option linter.unusedSimpArgs false
set_option linter.unusedVariables false

abbrev W32 := BitVec 32
def poly : W32 := 0xEDB88320#32
def half (x : W32) : W32 := if x.getLsbD 0 = true then (x >>> 1) ^^^ poly else x >>> 1
theorem half_xor (x y : W32) : half (x ^^^ y) = half x ^^^ half y := by
  unfold half
  rw [BitVec.getLsbD_xor, BitVec.ushiftRight_xor_distrib]
  cases hx : x.getLsbD 0 <;> cases hy : y.getLsbD 0 <;> simp
  · rw [BitVec.xor_assoc]
  · rw [BitVec.xor_assoc, BitVec.xor_assoc, BitVec.xor_comm poly]
  · rw [BitVec.xor_assoc, BitVec.xor_comm poly, BitVec.xor_assoc, BitVec.xor_self, BitVec.xor_zero]
theorem half_zero : half 0 = 0 := by decide
theorem half_eq_zero {x : W32} (h : half x = 0) : x = 0 := by
  unfold half at h
  have h31 : (x >>> 1).getLsbD 31 = false := by rw [BitVec.getLsbD_ushiftRight]; simp
  cases hx : x.getLsbD 0
  · rw [hx] at h
    simp at h
    apply BitVec.eq_of_getLsbD_eq
    intro i hi
    cases i with
    | zero => rw [hx]; simp
    | succ i =>
      have := congrArg (fun v : W32 => v.getLsbD i) h
      simp only [BitVec.getLsbD_ushiftRight] at this
      rw [Nat.add_comm 1 i] at this
      rw [this]; simp
  · rw [hx, if_pos rfl] at h
    have := congrArg (fun v : W32 => v.getLsbD 31) h
    simp only [BitVec.getLsbD_xor, h31] at this
    exact absurd this (by decide)

/-- halved n times -/
def halfs : Nat → W32 → W32
  | 0, x => x
  | n + 1, x => halfs n (half x)
theorem halfs_add (a b : Nat) (x : W32) : halfs (a + b) x = halfs b (halfs a x) := by
  induction a generalizing x with
  | zero => rw [Nat.zero_add]; rfl
  | succ a ih => rw [Nat.succ_add]; exact ih _
theorem halfs_xor (n : Nat) (x y : W32) : halfs n (x ^^^ y) = halfs n x ^^^ halfs n y := by
  induction n generalizing x y with
  | zero => rfl
  | succ n ih => rw [halfs, halfs, halfs, half_xor, ih]
theorem halfs_zero (n : Nat) : halfs n 0 = 0 := by
  induction n with
  | zero => rfl
  | succ n ih => rw [halfs, half_zero, ih]
theorem halfs_eq_zero {n : Nat} {x : W32} (h : halfs n x = 0) : x = 0 := by
  induction n generalizing x with
  | zero => exact h
  | succ n ih => exact half_eq_zero (ih h)

/-- a byte as a word -/
def wd (b : UInt8) : W32 := BitVec.ofNat 32 b.toNat
theorem wd_inj {a b : UInt8} (h : wd a = wd b) : a = b := by
  have := congrArg BitVec.toNat h
  unfold wd at this
  rw [BitVec.toNat_ofNat, BitVec.toNat_ofNat, Nat.mod_eq_of_lt (by have := a.toNat_lt; omega), Nat.mod_eq_of_lt (by have := b.toNat_lt; omega)] at this
  exact UInt8.toNat_inj.1 this
/-- a sum that is under way, behind bytes -/
def bys : W32 → List UInt8 → W32
  | x, [] => x
  | x, b :: r => bys (halfs 8 (x ^^^ wd b)) r
theorem bys_app (x : W32) (a b : List UInt8) : bys x (a ++ b) = bys (bys x a) b := by
  induction a generalizing x with
  | nil => rfl
  | cons c r ih => rw [List.cons_append, bys, bys, ih]
/-- what stood ahead is halved on, apart from the bytes -/
theorem bys_xor (x d : W32) (l : List UInt8) : bys (x ^^^ d) l = bys x l ^^^ halfs (8 * l.length) d := by
  induction l generalizing x d with
  | nil => rfl
  | cons c r ih =>
    rw [bys, bys, BitVec.xor_assoc, BitVec.xor_comm d, ← BitVec.xor_assoc, halfs_xor, ih, List.length_cons, Nat.mul_succ, Nat.add_comm (8 * r.length), halfs_add]

def add (s : W32) (l : List UInt8) : W32 := ~~~ (bys (~~~ s) l)
def sum (l : List UInt8) : W32 := add 0 l
theorem not_xor (x : W32) : ~~~ x = (~~~ (0 : W32)) ^^^ x := by
  rw [show (~~~ (0 : W32)) = BitVec.allOnes 32 by decide, BitVec.allOnes_xor]
theorem not_not (x : W32) : ~~~ (~~~ x) = x := BitVec.not_not
theorem add_nil (s : W32) : add s [] = s := not_not s
theorem add_app (s : W32) (a b : List UInt8) : add s (a ++ b) = add (add s a) b := by
  unfold add; rw [bys_app, not_not]
theorem sum_app (a b : List UInt8) : sum (a ++ b) = add (sum a) b := add_app 0 a b
/-- two sums joined -/
def joined (a b : W32) (n : Nat) : W32 := halfs (8 * n) a ^^^ b
theorem add_joined (s : W32) (l : List UInt8) : add s l = joined s (sum l) l.length := by
  unfold joined sum add
  rw [not_xor s, bys_xor, not_xor, not_xor (bys _ _), ← BitVec.xor_assoc, BitVec.xor_comm]
theorem sum_joined (a b : List UInt8) : sum (a ++ b) = joined (sum a) (sum b) b.length := by rw [sum_app, add_joined]
theorem joined_row (x y z : W32) (b c : Nat) : joined (joined x y b) z c = joined x (joined y z c) (b + c) := by
  unfold joined
  rw [halfs_xor, ← halfs_add, Nat.mul_add, BitVec.xor_assoc]
/-- P3.3 -/
theorem sum_turned (p q : List UInt8) (c d : UInt8) (h : c ≠ d) : sum (p ++ c :: q) ≠ sum (p ++ d :: q) := by
  intro e
  unfold sum add at e
  have e1 := congrArg (fun x : W32 => ~~~ x) e
  simp only [not_not] at e1
  rw [bys_app, bys_app, bys, bys] at e1
  generalize bys (~~~ (0 : W32)) p = x at e1
  have e2 : halfs 8 (x ^^^ wd c) = halfs 8 (x ^^^ wd d) ^^^ halfs 8 (wd c ^^^ wd d) := by
    rw [← halfs_xor]
    congr 1
    rw [BitVec.xor_assoc, BitVec.xor_comm (wd c), ← BitVec.xor_assoc (wd d), BitVec.xor_self, BitVec.zero_xor]
  rw [e2, bys_xor] at e1
  have e3 : halfs (8 * q.length) (halfs 8 (wd c ^^^ wd d)) = 0 := by
    have h1 := congrArg (fun v : W32 => bys (halfs 8 (x ^^^ wd d)) q ^^^ v) e1
    simp only [← BitVec.xor_assoc, BitVec.xor_self, BitVec.zero_xor] at h1
    exact h1
  have e4 := halfs_eq_zero (halfs_eq_zero e3)
  apply h
  apply wd_inj
  have h2 := congrArg (fun v : W32 => v ^^^ wd d) e4
  simp only [BitVec.xor_assoc, BitVec.xor_self, BitVec.xor_zero] at h2
  rw [h2]
  exact BitVec.zero_xor

/-! four bits at once -/
theorem half_even {x : W32} (h : x.getLsbD 0 = false) : half x = x >>> 1 := by unfold half; rw [h]; rfl
theorem halfs_even (n : Nat) (x : W32) (h : ∀ i, i < n → x.getLsbD i = false) : halfs n x = x >>> n := by
  induction n generalizing x with
  | zero => simp [halfs]
  | succ n ih =>
    rw [halfs, half_even (h 0 (by omega)), ih (x >>> 1) (fun i hi => by rw [BitVec.getLsbD_ushiftRight]; exact h _ (by omega))]
    apply BitVec.eq_of_getLsbD_eq
    intro i hi
    rw [BitVec.getLsbD_ushiftRight, BitVec.getLsbD_ushiftRight, BitVec.getLsbD_ushiftRight]
    congr 1
    omega
theorem low_split (x : W32) : x = (x &&& ~~~ 15#32) ^^^ (x &&& 15#32) := by
  apply BitVec.eq_of_getLsbD_eq
  intro i hi
  rw [BitVec.getLsbD_xor, BitVec.getLsbD_and, BitVec.getLsbD_and, BitVec.getLsbD_not]
  cases x.getLsbD i <;> cases (15#32 : W32).getLsbD i <;> simp [hi]
theorem low_bits : ∀ i, i < 4 → (15#32 : W32).getLsbD i = true := by
  intro i hi
  rcases (show i = 0 ∨ i = 1 ∨ i = 2 ∨ i = 3 by omega) with rfl | rfl | rfl | rfl <;> rfl
theorem high_bits : ∀ i, 4 ≤ i → (15#32 : W32).getLsbD i = false := by
  intro i hi
  rw [BitVec.getLsbD_ofNat]
  have : Nat.testBit 15 i = false := Nat.testBit_lt_two_pow (Nat.lt_of_lt_of_le (by decide) (Nat.pow_le_pow_right (by decide) hi))
  rw [this]; simp
/-- four halvings: what is above goes down, and what the four lowest bits turn -/
theorem halfs_four (x : W32) : halfs 4 x = (x >>> 4) ^^^ halfs 4 (x &&& 15#32) := by
  conv => lhs; rw [low_split x]
  rw [halfs_xor]
  congr 1
  rw [halfs_even 4 _ (fun i hi => by rw [BitVec.getLsbD_and, BitVec.getLsbD_not, low_bits i hi]; simp)]
  apply BitVec.eq_of_getLsbD_eq
  intro i hi
  rw [BitVec.getLsbD_ushiftRight, BitVec.getLsbD_ushiftRight, BitVec.getLsbD_and, BitVec.getLsbD_not, high_bits (4 + i) (by omega)]
  by_cases h : 4 + i < 32
  · simp [h]
  · rw [BitVec.getLsbD_of_ge x (4 + i) (by omega)]; simp
theorem halfs_eight (x : W32) : halfs 8 x = halfs 4 (halfs 4 x) := halfs_add 4 4 x

end Go.Proofs.Ytkihoimlelbolaa.Crc
