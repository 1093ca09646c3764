/- Scalars in quotes: plain functions on lists of bytes. -/
import Derived.Test.YtkggdjghjdakoaaGreatDoorUtfPlain3
namespace Go.Proofs.YtkggdjghjdakoaaGreatDoor.Quo
open Utf
set_option linter.unusedSimpArgs false
set_option linter.unusedVariables false

/-- may a sign stand in quotes as it is? -/
def may (n : Int) : Bool := prn n && !(n == 9) && !(n == 10) && !(n == 13)
def smp (l : List UInt8) : Bool := (dec l).1.all may && (dec l).2.isNone
/-- each ' twice -/
def dup (l : List UInt8) : List UInt8 := l.flatMap fun b => if b == 39 then [39, 39] else [b]
def sng (l : List UInt8) : List UInt8 := 39 :: (dup l ++ [39])
def hxd (n : Nat) : UInt8 := if n < 10 then UInt8.ofNat (48 + n) else UInt8.ofNat (87 + n)
/-- so many hexadecimal digits -/
def hexL : Nat → Nat → List UInt8
  | 0, _ => []
  | k + 1, n => hxd (n / 16 ^ k % 16) :: hexL k n
/-- a sign, as it stands in double quotes -/
def esc (n : Int) : List UInt8 :=
  if n = 34 then [92, 34] else if n = 92 then [92, 92] else if n = 9 then [92, 116] else if n = 10 then [92, 110] else if n = 13 then [92, 114] else if n = 0 then [92, 48]
  else if may n = true then u8s (byt n) else if n < 256 then 92 :: 120 :: hexL 2 n.toNat else if n < 65536 then 92 :: 117 :: hexL 4 n.toNat else 92 :: 85 :: hexL 8 n.toNat
def escs (zs : List Int) : List UInt8 := zs.flatMap esc
def dbl (l : List UInt8) : List UInt8 := 34 :: (escs (dec l).1 ++ [34])
/-- a digit's value -/
def dig (c : UInt8) : Int :=
  if 48 ≤ c.toNat ∧ c.toNat ≤ 57 then c.toNat - 48 else if 97 ≤ c.toNat ∧ c.toNat ≤ 102 then c.toNat - 87 else if 65 ≤ c.toNat ∧ c.toNat ≤ 70 then c.toNat - 55 else -1
/-- so many digits are read: their number, or the error -/
def hexR : Nat → List UInt8 → Int → Int × Nat
  | 0, _, acc => (acc, 0)
  | _ + 1, [], _ => (0, 4)
  | k + 1, c :: r, acc => if dig c < 0 then (0, 3) else hexR k r (acc * 16 + dig c)
def escH (l : List UInt8) (many : Nat) : Int × Nat × Nat :=
  if (hexR many (l.drop 2) 0).2 = 0 then (if sgn (hexR many (l.drop 2) 0).1 = true then ((hexR many (l.drop 2) 0).1, 2 + many, 0) else (0, 0, 3)) else (0, 0, (hexR many (l.drop 2) 0).2)
/-- an escape is read: its sign, its bytes, the error -/
def escR (l : List UInt8) : Int × Nat × Nat :=
  if l.length < 2 then (0, 0, 4) else
  if l.getD 1 0 = 34 then (34, 2, 0) else if l.getD 1 0 = 92 then (92, 2, 0) else if l.getD 1 0 = 110 then (10, 2, 0) else if l.getD 1 0 = 116 then (9, 2, 0) else if l.getD 1 0 = 114 then (13, 2, 0) else if l.getD 1 0 = 48 then (0, 2, 0)
  else if l.getD 1 0 = 120 then escH l 2 else if l.getD 1 0 = 117 then escH l 4 else if l.getD 1 0 = 85 then escH l 8 else (0, 0, 3)
/-- what comes next in quotes q: (0: the second quote; 1: a sign; 3, 4, 8: the error), its bytes, how many were read -/
def stp (q : UInt8) (l : List UInt8) : Nat × List UInt8 × Nat :=
  if l = [] then (4, [], 0)
  else if l.getD 0 0 = q then (if q = 39 ∧ 1 < l.length ∧ l.getD 1 0 = 39 then (1, [39], 2) else (0, [], 1))
  else if q = 34 ∧ l.getD 0 0 = 92 then (if (escR l).2.2 = 0 then (1, u8s (byt (escR l).1), (escR l).2.1) else ((escR l).2.2, [], 0))
  else if may (fst l).1 = true then (1, l.take (fk l), fk l) else (8, [], 0)
/-- Read, behind the first quote, at so many bytes: the text, the bytes, the fault -/
def rdF (q : UInt8) : Nat → List UInt8 → Nat → List UInt8 → List UInt8 × Nat × Nat × Nat
  | 0, l, at_, _ => ([], 0, 4, at_ + l.length)
  | f + 1, l, at_, out =>
    if (stp q l).1 = 0 then (out, at_ + 1, 0, 0)
    else if (stp q l).1 = 1 then rdF q f (l.drop (stp q l).2.2) (at_ + (stp q l).2.2) (out ++ (stp q l).2.1)
    else if (stp q l).1 = 4 then ([], 0, 4, at_ + l.length)
    else ([], 0, (stp q l).1, at_)
def rd (l : List UInt8) : List UInt8 × Nat × Nat × Nat :=
  if l = [] then ([], 0, 3, 0)
  else if l.getD 0 0 = 39 ∨ l.getD 0 0 = 34 then rdF (l.getD 0 0) l.length (l.drop 1) 1 [] else ([], 0, 3, 0)

/-! ### signs' bytes -/
theorem head_byt {n : Int} (h0 : 0 ≤ n) (h1 : n ≤ 1114111) : ∃ c t, u8s (byt n) = c :: t ∧ (n < 128 → (c.toNat : Int) = n ∧ t = []) ∧ (128 ≤ n → 192 ≤ c.toNat ∧ ∀ x ∈ t, 128 ≤ x.toNat ∧ x.toNat < 192) := by
  unfold byt
  split
  · refine ⟨_, [], rfl, fun _ => ⟨?_, rfl⟩, fun h => by omega⟩
    rw [toNat_u8 h0 (by omega)]; omega
  split
  · refine ⟨_, _, rfl, fun h => by omega, fun _ => ⟨?_, ?_⟩⟩
    · rw [toNat_u8 (by omega) (by omega)]; omega
    · intro x hx
      simp only [u8s, List.map_cons, List.map_nil, List.mem_cons, List.not_mem_nil, or_false] at hx
      subst hx
      rw [toNat_u8 (by omega) (by omega)]; omega
  split
  · refine ⟨_, _, rfl, fun h => by omega, fun _ => ⟨?_, ?_⟩⟩
    · rw [toNat_u8 (by omega) (by omega)]; omega
    · intro x hx
      simp only [u8s, List.map_cons, List.map_nil, List.mem_cons, List.not_mem_nil, or_false] at hx
      rcases hx with hx | hx <;> (subst hx; rw [toNat_u8 (by omega) (by omega)]; omega)
  · refine ⟨_, _, rfl, fun h => by omega, fun _ => ⟨?_, ?_⟩⟩
    · rw [toNat_u8 (by omega) (by omega)]; omega
    · intro x hx
      simp only [u8s, List.map_cons, List.map_nil, List.mem_cons, List.not_mem_nil, or_false] at hx
      rcases hx with hx | hx | hx <;> (subst hx; rw [toNat_u8 (by omega) (by omega)]; omega)
theorem may_prn {n : Int} (h : may n = true) : prn n = true ∧ n ≠ 9 ∧ n ≠ 10 ∧ n ≠ 13 := by
  unfold may at h
  simp only [Bool.and_eq_true, Bool.not_eq_true', beq_eq_false_iff_ne] at h
  exact ⟨h.1.1.1, h.1.1.2, h.1.2, h.2⟩
theorem may_neg : may (-1) = false := by decide
theorem u8_eq {c d : UInt8} (h : c.toNat = d.toNat) : c = d := UInt8.toNat_inj.1 h
/-- a sign that stands as it is -/
theorem stp_sign {n : Int} (hs : sgn n = true) (hm : may n = true) (q : UInt8) (hq : q = 39 ∨ q = 34) (h1 : n ≠ (q.toNat : Int)) (h2 : q = 34 → n ≠ 92) (r : List UInt8) : stp q (u8s (byt n) ++ r) = (1, u8s (byt n), (byt n).length) := by
  have hb := sgn_bd hs
  obtain ⟨c, t, e, ha, hc⟩ := head_byt hb.1 hb.2.1
  have hq2 : q.toNat < 128 := by rcases hq with rfl | rfl <;> decide
  have hne := enc_ne (n := n) r
  have hg : (u8s (byt n) ++ r).getD 0 0 = c := by rw [e]; rfl
  have hcq : c ≠ q := by
    rintro rfl
    by_cases h : n < 128
    · exact h1 (ha h).1.symm
    · have := (hc (by omega)).1; omega
  have hc92 : ¬ (q = 34 ∧ c = 92) := by
    rintro ⟨hq34, rfl⟩
    by_cases h : n < 128
    · have := (ha h).1
      exact h2 hq34 this.symm
    · have := (hc (by omega)).1
      have e92 : (92 : UInt8).toNat = 92 := rfl
      omega
  unfold stp
  rw [if_neg hne, hg, if_neg hcq, if_neg hc92, fst_enc hs r, if_pos hm, fk_enc hs r]
  have el : (u8s (byt n)).length = (byt n).length := by simp [u8s]
  rw [← el, List.take_left]
end Go.Proofs.YtkggdjghjdakoaaGreatDoor.Quo
