/- Two texts of whole lines, one behind the other: plain facts. -/
import Derived.Test.YthppoibdiehfkaaDoorRowsOut
namespace Go.Proofs.YthppoibdiehfkaaDoor.Rws
open Utf
set_option linter.unusedSimpArgs false
set_option linter.unusedVariables false

theorem bef_app (a b : List UInt8) (h : has 10 a = true) : bef (a ++ b) = bef a ∧ has 10 (a ++ b) = true ∧ aft (a ++ b) = aft a ++ b := by
  have h2 : has 10 (a ++ b) = true := by unfold has at *; rw [List.any_append, h]; rfl
  have h1 : bef (a ++ b) = bef a := by
    induction a with
    | nil => cases h
    | cons x r ih =>
      unfold bef at *
      rw [List.cons_append, List.takeWhile_cons, List.takeWhile_cons]
      by_cases hx : not10 x = true
      · rw [if_pos hx, if_pos hx]
        have hr : has 10 r = true := by
          rw [has_cons] at h
          have : (x == 10) = false := by unfold not10 at hx; simpa using hx
          rw [this] at h; simpa using h
        have hr2 : has 10 (r ++ b) = true := by unfold has at *; rw [List.any_append, hr]; rfl
        rw [ih hr hr2]
      · rw [if_neg hx, if_neg hx]
  refine ⟨h1, h2, ?_⟩
  unfold aft
  rw [h1]
  have hlt : (bef a).length < a.length := take_lt h
  rw [List.drop_append_of_le_length (by omega)]
theorem aft_end (s : List UInt8) : aft (s ++ [10]) = [] ∨ ∃ r, aft (s ++ [10]) = r ++ [10] ∧ r.length < s.length + 1 := by
  have hh : has 10 (s ++ [10]) = true := by unfold has; rw [List.any_append]; simp
  have hlt : (bef (s ++ [10])).length < (s ++ [10]).length := take_lt hh
  rw [List.length_append] at hlt
  simp at hlt
  unfold aft
  by_cases he : (bef (s ++ [10])).length + 1 = s.length + 1
  · left; exact List.drop_of_length_le (by simp; omega)
  · right
    refine ⟨s.drop ((bef (s ++ [10])).length + 1), ?_, by rw [List.length_drop]; omega⟩
    rw [List.drop_append_of_le_length (by omega)]
theorem lns_app (n : Nat) : ∀ s t : List UInt8, s.length ≤ n → lns (s ++ [10] ++ t) = lns (s ++ [10]) ++ lns t := by
  induction n with
  | zero =>
    intro s t hs
    obtain rfl : s = [] := List.eq_nil_iff_length_eq_zero.2 (by omega)
    rw [List.nil_append, lns_next ([10] ++ t) (by simp), lns_next [10] (by simp)]
    have h := bef_app [10] t rfl
    have e1 : line ([10] ++ t) = line [10] := by unfold line; rw [h.2.1, h.1]; rfl
    rw [e1, h.2.2]
    have e2 : aft [10] = [] := rfl
    rw [e2, lns_nil]; rfl
  | succ n ih =>
    intro s t hs
    have hh : has 10 (s ++ [10]) = true := by unfold has; rw [List.any_append]; simp
    have h := bef_app (s ++ [10]) t hh
    rw [lns_next (s ++ [10] ++ t) (by simp), lns_next (s ++ [10]) (by simp)]
    have e1 : line (s ++ [10] ++ t) = line (s ++ [10]) := by unfold line; rw [h.2.1, h.1, hh]; rfl
    rw [e1, h.2.2]
    rcases aft_end s with e | ⟨r, e, hr⟩
    · rw [e, lns_nil]; rfl
    · rw [e]
      have hl : (aft (s ++ [10])).length < (s ++ [10]).length := aft_len _ (by simp)
      rw [e] at hl; simp at hl
      rw [ih r t (by omega)]; rfl

theorem flt_appL (A B : List (List UInt8)) (h : okay A = false) (k : Nat) : flt k (A ++ B) = flt k A := by
  induction A generalizing k with
  | nil => cases h
  | cons l r ih =>
    rw [List.cons_append, flt, flt]
    by_cases hl : wr l = 0
    · rw [if_pos hl, if_pos hl]
      refine ih ?_ _
      unfold okay at h ⊢
      rw [List.all_cons] at h
      have : (wr l == 0) = true := by simpa using hl
      rw [this] at h; simpa using h
    · rw [if_neg hl, if_neg hl]
theorem flt_shift (B : List (List UInt8)) (h : okay B = false) (k m : Nat) : flt (k + m) B = ((flt k B).1, (flt k B).2 + m) := by
  induction B generalizing k with
  | nil => cases h
  | cons l r ih =>
    rw [flt, flt]
    by_cases hl : wr l = 0
    · rw [if_pos hl, if_pos hl]
      have hr : okay r = false := by
        unfold okay at h ⊢
        rw [List.all_cons] at h
        have : (wr l == 0) = true := by simpa using hl
        rw [this] at h; simpa using h
      have := ih hr (k + 1)
      rw [← this]; congr 1; omega
    · rw [if_neg hl, if_neg hl]; simp
theorem flt_bd (L : List (List UInt8)) (k : Nat) : 0 ≤ (flt k L).2 ∧ (flt k L).2 ≤ k + L.length := by
  induction L generalizing k with
  | nil => simp [flt]
  | cons l r ih =>
    rw [flt]
    split
    · have := ih (k + 1); simp; omega
    · simp; omega
theorem okay_both (A B : List (List UInt8)) : okay (A ++ B) = (okay A && okay B) := by unfold okay; rw [List.all_append]
def shift (n : Nat) (x : R3) : R3 := (x.1, x.2.1, x.2.2 + n)
theorem num_shift (B : List (List UInt8)) (k n : Nat) : (num (k + n) B).map r3 = ((num k B).map r3).map (shift n) := by
  induction B generalizing k with
  | nil => rfl
  | cons l r ih =>
    rw [num, num, List.map_cons, List.map_cons, List.map_cons]
    have := ih (k + 1)
    rw [show k + n + 1 = k + 1 + n by omega, this]
    congr 1
theorem at_bd (B : List (List UInt8)) (k i : Nat) (h : i < B.length) : (((num k B).map r3).getD i z3).2.2 = (k + i : Nat) := by
  induction B generalizing k i with
  | nil => simp at h
  | cons l r ih =>
    rw [num, List.map_cons]
    cases i with
    | zero => simp [r3]
    | succ i => rw [List.getD_cons_succ, ih _ _ (by simp at h; omega)]; congr 1; omega
theorem outR_ok {s : List UInt8} (hs : s.length ≤ 65536) (h : okay (lns s) = true) : outR s = (num 1 (lns s)).map r3 ∧ outF s = (0, 0) := by
  refine ⟨?_, ?_⟩
  · unfold outR rws; rw [if_pos hs, if_pos h]
  · unfold outF; rw [if_pos hs]; exact flt_ok _ h 1
theorem outR_no {s : List UInt8} (hs : s.length ≤ 65536) (h : okay (lns s) = false) : outR s = [] ∧ outF s = flt 1 (lns s) ∧ ((outF s).1 == 0 && (outF s).2 == 0) = false := by
  refine ⟨?_, ?_, ?_⟩
  · unfold outR rws; rw [if_pos hs, h]; rfl
  · unfold outF; rw [if_pos hs]
  · unfold outF; rw [if_pos hs]
    rcases flt_cases (lns s) with h1 | h1
    · rw [h] at h1; cases h1
    · have := h1.2 1
      have e : ((flt 1 (lns s)).1 == 0) = false := by simpa using this
      rw [e]; rfl
theorem mk_app (a b : List UInt8) : mk a ++ mk b = mk (a ++ b) := by
  have h : (mk a ++ mk b).data.toList = a ++ b := by
    rw [ByteArray.data_append, Array.toList_append, mk_data, mk_data]
  rw [← mk_of (mk a ++ mk b), h]

end Go.Proofs.YthppoibdiehfkaaDoor.Rws
