/- Notes: what is left has none, and is a beginning. -/
import Derived.Test.YtgopjpihobekjaaDoorRowsPlain
namespace Go.Proofs.YtgopjpihobekjaaDoor.Rws
open Utf
set_option linter.unusedSimpArgs false
set_option linter.unusedVariables false

theorem hx_take (q : Bool) (l : List UInt8) (k : Nat) (h : k ≤ hx q l) : hx q (l.take k) = k := by
  induction l generalizing q k with
  | nil => simp [hx] at h; subst h; rfl
  | cons b r ih =>
    cases k with
    | zero => rfl
    | succ k =>
      rw [hx] at h
      split at h
      · omega
      · rename_i hc
        rw [List.take_succ_cons, hx, if_neg hc, ih _ _ (by omega)]
theorem drop_idem (p : UInt8 → Bool) (l : List UInt8) : (l.dropWhile p).dropWhile p = l.dropWhile p := by
  induction l with
  | nil => rfl
  | cons b r ih =>
    rw [List.dropWhile_cons]
    split
    · exact ih
    · rename_i h; rw [List.dropWhile_cons, if_neg h]
theorem trR_idem (p : UInt8 → Bool) (l : List UInt8) : trR p (trR p l) = trR p l := by
  unfold trR; rw [List.reverse_reverse, drop_idem]
theorem trR_take (p : UInt8 → Bool) (l : List UInt8) : trR p l = l.take (trR p l).length := by
  have h : trR p l <+: l := by
    unfold trR
    rw [← List.reverse_suffix, List.reverse_reverse]
    exact List.dropWhile_suffix _
  exact (List.prefix_iff_eq_take.1 h)
theorem note_take (l : List UInt8) : note l = l.take (note l).length ∧ (note l).length ≤ hx true l := by
  have h1 := trR_take sp (l.take (hx true l))
  have h2 := trR_len sp (l.take (hx true l))
  rw [List.length_take] at h2
  have h3 : (note l).length ≤ hx true l := by unfold note; omega
  refine ⟨?_, h3⟩
  unfold note at h3 ⊢
  conv => lhs; rw [h1]
  rw [List.take_take, Nat.min_eq_left h3]
theorem note_len (l : List UInt8) : (note l).length ≤ l.length := Nat.le_trans (note_take l).2 (hx_le _ _)
theorem note_note (l : List UInt8) : note (note l) = note l := by
  obtain ⟨h1, h2⟩ := note_take l
  have h3 : hx true (note l) = (note l).length := by
    have := hx_take true l _ h2
    rw [← h1] at this
    exact this
  have h4 : ∀ m, hx true m = m.length → note m = trR sp m := by
    intro m hm
    unfold note
    rw [hm, List.take_length]
  replace h4 := h4 _ h3
  rw [h4]
  unfold note
  exact trR_idem _ _

end Go.Proofs.YtgopjpihobekjaaDoor.Rws
