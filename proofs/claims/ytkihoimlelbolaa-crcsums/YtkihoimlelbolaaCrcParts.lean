/- Sum at parts just laid. -/
import Derived.Test.YtkihoimlelbolaaCrcSum
import Derived.Lib.SlBytesConst
namespace Go.Proofs.Ytkihoimlelbolaa.Crc
open Go.RowKit
set_option linter.unusedSimpArgs false
set_option linter.unusedVariables false

theorem lt_of_heap {w : World} {b : Nat} {o : Obj} (hb : w.heap[b]? = some o) : b < w.heap.size := (Array.getElem?_eq_some_iff.1 hb).1
theorem bys_of_block {w : World} {b : Nat} {C : Array Value} {t : TypeId} {fr : Nat × Nat} (hb : w.heap[b]? = some (.cells C t fr)) (l : List UInt8) (hC : C = (l.map fun x => Value.int .u8 (nm (wd x))).toArray) : Bys w (some ⟨b, 0, none⟩) l.length l := by
  refine ⟨rfl, fun _ => ⟨b, 0, rfl, lt_of_heap hb, fun i hi => ?_⟩⟩
  rw [cell_of_row _ _ (0 + i) C t fr hb, Nat.zero_add, hC]
  simp [hi]
theorem parts_of_block {w : World} {b : Nat} {C : Array Value} {t : TypeId} {fr : Nat × Nat} (hb : w.heap[b]? = some (.cells C t fr)) (ps : List (List UInt8))
    (hC : ∀ i, i < ps.length → ∃ pa pl pc, C[i]? = some (.slice pa pl pc) ∧ Bys w pa pl (ps.getD i []) ∧ pl ≤ maxLen) : Parts w (some ⟨b, 0, none⟩) ps.length ps := by
  refine ⟨rfl, fun _ => ⟨b, 0, rfl, lt_of_heap hb, fun i hi => ?_⟩⟩
  obtain ⟨pa, pl, pc, h1, h2, h3⟩ := hC i hi
  exact ⟨pa, pl, pc, by rw [cell_of_row _ _ (0 + i) C t fr hb, Nat.zero_add]; exact h1, h2, h3⟩
theorem parts_one {w : World} {a : Option Addr} {len cap : Nat} {l : List UInt8} (t : TypeId) (h : Bys w a len l) (hm : len ≤ maxLen) : Parts (w.alloc (.cells #[.slice a len cap] t)) (some ⟨w.heap.size, 0, none⟩) 1 [l] := by
  refine parts_of_block (heap_alloc_last w _) [l] fun i hi => ?_
  obtain rfl : i = 0 := by simp at hi; omega
  exact ⟨a, len, cap, rfl, h.later ((Below.refl _ w).alloc (Nat.le_refl _) _) (Nat.le_refl _), hm⟩
theorem parts_two {w : World} {a a' : Option Addr} {len cap len' cap' : Nat} {l l' : List UInt8} (t : TypeId) (h : Bys w a len l) (hm : len ≤ maxLen) (h' : Bys w a' len' l') (hm' : len' ≤ maxLen) :
    Parts (w.alloc (.cells #[.slice a len cap, .slice a' len' cap'] t)) (some ⟨w.heap.size, 0, none⟩) 2 [l, l'] := by
  refine parts_of_block (heap_alloc_last w _) [l, l'] fun i hi => ?_
  have hb : Below w.heap.size w (w.alloc (.cells #[.slice a len cap, .slice a' len' cap'] t)) := (Below.refl _ w).alloc (Nat.le_refl _) _
  rcases (show i = 0 ∨ i = 1 by simp at hi; omega) with rfl | rfl
  · exact ⟨a, len, cap, rfl, h.later hb (Nat.le_refl _), hm⟩
  · exact ⟨a', len', cap', rfl, h'.later hb (Nat.le_refl _), hm'⟩
theorem parts_three {w : World} {a a' b : Option Addr} {len cap len' cap' lenb capb : Nat} {l l' lb : List UInt8} (t : TypeId) (h : Bys w a len l) (hm : len ≤ maxLen) (h' : Bys w a' len' l') (hm' : len' ≤ maxLen) (hb : Bys w b lenb lb) (hmb : lenb ≤ maxLen) :
    Parts (w.alloc (.cells #[.slice a len cap, .slice a' len' cap', .slice b lenb capb] t)) (some ⟨w.heap.size, 0, none⟩) 3 [l, l', lb] := by
  refine parts_of_block (heap_alloc_last w _) [l, l', lb] fun i hi => ?_
  have hbe : Below w.heap.size w (w.alloc (.cells #[.slice a len cap, .slice a' len' cap', .slice b lenb capb] t)) := (Below.refl _ w).alloc (Nat.le_refl _) _
  rcases (show i = 0 ∨ i = 1 ∨ i = 2 by simp at hi; omega) with rfl | rfl | rfl
  · exact ⟨a, len, cap, rfl, h.later hbe (Nat.le_refl _), hm⟩
  · exact ⟨a', len', cap', rfl, h'.later hbe (Nat.le_refl _), hm'⟩
  · exact ⟨b, lenb, capb, rfl, hb.later hbe (Nat.le_refl _), hmb⟩

theorem sum_one {w : World} {a : Option Addr} {len cap : Nat} {l : List UInt8} (b : Nat) (hb : b = w.heap.size) (h : Bys w a len l) (hm : len ≤ maxLen) :
    Calls Try.prog 9 #[.slice (some ⟨b, 0, none⟩) 1 1] (w.alloc (.cells #[.slice a len cap] 28)) fun e w' => e = .returned (.int .u32 (nm (sums [l]))) ∧ Below w.heap.size w w' := by
  subst hb
  refine (sum_any _ 1 1 [l] _ (parts_one _ h hm) (by decide)).mono ?_
  rintro e w' ⟨rfl, hbe⟩
  exact ⟨rfl, ((Below.refl _ w).alloc (Nat.le_refl _) _).trans (hbe.mono (by simp))⟩
theorem sum_two {w : World} {a a' : Option Addr} {len cap len' cap' : Nat} {l l' : List UInt8} (b : Nat) (hb : b = w.heap.size) (h : Bys w a len l) (hm : len ≤ maxLen) (h' : Bys w a' len' l') (hm' : len' ≤ maxLen) :
    Calls Try.prog 9 #[.slice (some ⟨b, 0, none⟩) 2 2] (w.alloc (.cells #[.slice a len cap, .slice a' len' cap'] 28)) fun e w' => e = .returned (.int .u32 (nm (sums [l, l']))) ∧ Below w.heap.size w w' := by
  subst hb
  refine (sum_any _ 2 2 [l, l'] _ (parts_two _ h hm h' hm') (by decide)).mono ?_
  rintro e w' ⟨rfl, hbe⟩
  exact ⟨rfl, ((Below.refl _ w).alloc (Nat.le_refl _) _).trans (hbe.mono (by simp))⟩
theorem sum_three {w : World} {a a' c : Option Addr} {len cap len' cap' lenc capc : Nat} {l l' lc : List UInt8} (b : Nat) (hb : b = w.heap.size) (h : Bys w a len l) (hm : len ≤ maxLen) (h' : Bys w a' len' l') (hm' : len' ≤ maxLen) (hc : Bys w c lenc lc) (hmc : lenc ≤ maxLen) :
    Calls Try.prog 9 #[.slice (some ⟨b, 0, none⟩) 3 3] (w.alloc (.cells #[.slice a len cap, .slice a' len' cap', .slice c lenc capc] 28)) fun e w' => e = .returned (.int .u32 (nm (sums [l, l', lc]))) ∧ Below w.heap.size w w' := by
  subst hb
  refine (sum_any _ 3 3 [l, l', lc] _ (parts_three _ h hm h' hm' hc hmc) (by decide)).mono ?_
  rintro e w' ⟨rfl, hbe⟩
  exact ⟨rfl, ((Below.refl _ w).alloc (Nat.le_refl _) _).trans (hbe.mono (by simp))⟩
end Go.Proofs.Ytkihoimlelbolaa.Crc
