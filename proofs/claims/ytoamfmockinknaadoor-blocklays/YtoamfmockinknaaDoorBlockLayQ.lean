/- Laying as the reference does it: the same. -/
import Derived.Test.YtoamfmockinknaaDoorBlockLay
import Derived.Test.YtoamfmockinknaaDoorBlockAt
namespace Go.Proofs.YtoamfmockinknaaDoor.Blk
open Rws (lns lns_nil has trL is32)
open Utf (chk)
set_option linter.unusedSimpArgs false
set_option linter.unusedVariables false

def badL (x : Ln) : Bool := (x.getLast? == some 32) || (trL x).head? == some 9
def fstL : List Ln → Ln
  | [] => []
  | x :: r => if x = [] then fstL r else x
theorem bad_nil : badL [] = false := rfl
theorem trL_head (x : Ln) (h : x ≠ []) : trL x = x ↔ ¬ x.head? = some 32 := by
  cases x with
  | nil => exact absurd rfl h
  | cons b r =>
    rw [Rws.trL, List.dropWhile_cons]
    by_cases hb : is32 b = true
    · rw [if_pos hb]
      have : b = 32 := by simpa [is32] using hb
      constructor
      · intro e
        have h1 := congrArg List.length e
        have h2 : (List.dropWhile is32 r).length ≤ r.length := (List.dropWhile_sublist _).length_le
        rw [List.length_cons] at h1
        omega
      · intro e; exact absurd (by rw [this]; rfl) e
    · rw [if_neg hb]
      have : ¬ b = 32 := by simpa [is32] using hb
      simp [this]
theorem stC_true : ∀ l : List Ln, stC true l = !(l.any badL)
  | [] => rfl
  | x :: r => by
    by_cases hx : x = []
    · rw [stC, if_pos hx, stC_true r, hx, List.any_cons, bad_nil, Bool.false_or]
    · rw [stC, if_neg hx, List.any_cons]
      by_cases hb : badL x = true
      · have hb' : (x.getLast? == some 32 || (trL x).head? == some 9) = true := hb
        rw [if_pos hb', hb]; rfl
      · have hb' : ¬ (x.getLast? == some 32 || (trL x).head? == some 9) = true := hb
        rw [if_neg hb', if_neg (fun h => by cases h.1), stC_true r, Bool.eq_false_iff.2 hb, Bool.false_or]
theorem stC_false : ∀ l : List Ln, stC false l = (!(l.any badL) && (decide (fstL l ≠ []) && !((fstL l).head? == some 32)))
  | [] => rfl
  | x :: r => by
    by_cases hx : x = []
    · rw [stC, if_pos hx, stC_false r, List.any_cons, fstL, if_pos hx, hx, bad_nil, Bool.false_or]
    · rw [stC, if_neg hx, List.any_cons, fstL, if_neg hx]
      by_cases hb : badL x = true
      · have hb' : (x.getLast? == some 32 || (trL x).head? == some 9) = true := hb
        rw [if_pos hb', hb]; rfl
      · have hb' : ¬ (x.getLast? == some 32 || (trL x).head? == some 9) = true := hb
        rw [if_neg hb', Bool.eq_false_iff.2 hb, Bool.false_or, decide_eq_true hx, Bool.true_and]
        by_cases ht : trL x = x
        · rw [if_neg (fun h => h.2 ht), stC_true r]
          have := (trL_head x hx).1 ht
          rw [show (x.head? == some 32) = false by simpa using this]
          simp
        · rw [if_pos ⟨rfl, ht⟩]
          have h2 : x.head? = some 32 := by
            by_cases q : x.head? = some 32
            · exact q
            · exact absurd ((trL_head x hx).2 q) ht
          rw [h2]
          simp
theorem fstL_snoc : ∀ (l : List Ln) (x : Ln), fstL (l ++ [x]) = if fstL l = [] then x else fstL l
  | [], x => by
    by_cases h : x = []
    · subst h; rfl
    · show (if x = [] then fstL [] else x) = x
      rw [if_neg h]
  | y :: r, x => by
    rw [List.cons_append, fstL, fstL]
    by_cases h : y = []
    · rw [if_pos h, if_pos h, fstL_snoc r x]
    · rw [if_neg h, if_neg h, if_neg h]
theorem any_snoc (l : List Ln) (x : Ln) : (l ++ [x]).any badL = (l.any badL || badL x) := by simp
/-- whether a text is laid, of all its lines -/
theorem okC_spl (s : Ln) : okC s = ((chk s).isNone && (!((spl s).any badL) && (!has 13 s && (decide (fstL (spl s) ≠ []) && !((fstL (spl s)).head? == some 32))))) := by
  unfold okC
  cases h13 : has 13 s
  · obtain ⟨i1, i2⟩ := lns_spl _ s (Nat.le_refl _) h13
    have ha : (spl s).any badL = (lns s).any badL := by
      by_cases he : ends s
      · rw [i1 he, any_snoc, bad_nil, Bool.or_false]
      · rw [i2 he]
    have hf : fstL (spl s) = fstL (lns s) := by
      by_cases he : ends s
      · rw [i1 he, fstL_snoc]
        split
        · rename_i h; exact h.symm
        · rfl
      · rw [i2 he]
    rw [ha, hf, stC_false]
    simp
  · simp
theorem head9 (x : Ln) : ((trL x).head? == some 9) = (decide (nb x < x.length) && (x.getD (nb x) 0 == 9)) := by
  have h1 := nb_drop x
  by_cases h : nb x < x.length
  · rw [← h1, List.head?_drop, List.getD_eq_getElem?_getD, List.getElem?_eq_getElem h, decide_eq_true h]
    simp
  · rw [← h1, List.drop_of_length_le (by omega), decide_eq_false h]
    rfl

theorem lay_last (s : Ln) (h13 : has 13 s = false) (hst : stC false (lns s) = true) :
    (spl s = lns s ∧ ∃ A y, lns s = A ++ [y] ∧ y ≠ [] ∧ chC s = 1) ∨ (spl s = lns s ++ [[]] ∧ ∃ A y, lns s = A ++ [y] ∧ ((y ≠ [] ∧ chC s = 0) ∨ (y = [] ∧ chC s = 2))) := by
  obtain ⟨i1, i2⟩ := lns_spl _ s (Nat.le_refl _) h13
  have htn := trm_ne _ (stC_ex _ hst)
  obtain ⟨k, hk⟩ := trm_split (lns s)
  rcases trm_snoc (lns s) with h | ⟨A, y, hA, hy⟩
  · exact absurd h htn
  obtain ⟨Y, b, rfl⟩ : ∃ Y b, y = Y ++ [b] := ⟨y.dropLast, y.getLast hy, (List.dropLast_concat_getLast hy).symm⟩
  have hys : Y ++ [b] ∈ spl s := by
    have : Y ++ [b] ∈ lns s := by rw [hk, hA]; simp
    by_cases he : ends s
    · rw [i1 he]; simp [this]
    · rw [i2 he]; exact this
  have hb : b ≠ 10 := by
    intro e
    exact spl_no10 s _ hys (by rw [e]; simp)
  obtain ⟨Z, hZ⟩ := join_last A Y b
  have hjs := join_spl s
  by_cases he : ends s
  · right
    refine ⟨i1 he, ?_⟩
    rw [i1 he, hk, List.append_assoc, show List.replicate k ([] : Ln) ++ [[]] = List.replicate (k + 1) [] from List.replicate_succ'.symm, join_nils 10 _ htn] at hjs
    cases k with
    | zero =>
      refine ⟨A, Y ++ [b], by rw [hk, hA]; simp, .inl ⟨by simp, ?_⟩⟩
      rw [← hjs, hA, hZ]
      exact chC_clip Z b hb
    | succ k =>
      refine ⟨trm (lns s) ++ List.replicate k [], [], by rw [List.append_assoc, show List.replicate k ([] : Ln) ++ [[]] = List.replicate (k + 1) [] from List.replicate_succ'.symm]; exact hk, .inr ⟨rfl, ?_⟩⟩
      rw [← hjs, List.replicate_succ', List.replicate_succ', ← List.append_assoc, ← List.append_assoc]
      exact chC_keep _
  · left
    refine ⟨i2 he, ?_⟩
    rw [i2 he] at hjs
    rw [hk, join_nils 10 _ htn] at hjs
    cases k with
    | zero =>
      rw [List.replicate_zero, List.append_nil] at hjs
      refine ⟨A, Y ++ [b], by rw [hk, hA]; simp, by simp, ?_⟩
      rw [← hjs, hA, hZ]
      exact chC_one Z b hb
    | succ k =>
      exfalso
      apply he
      right
      rw [← hjs, List.replicate_succ', ← List.append_assoc, List.getLast?_append]
      simp

end Go.Proofs.YtoamfmockinknaaDoor.Blk
