/- Plain texts, their ends and cuts: plain functions on lists of bytes. -/
import Derived.Test.YtkggdjghjdakoaaGreatDoorRowsPlain
namespace Go.Proofs.YtkggdjghjdakoaaGreatDoor.Pln
open Utf Rws
set_option linter.unusedSimpArgs false
set_option linter.unusedVariables false

def flows : List UInt8 := [44, 91, 93, 123, 125]
def marks : List UInt8 := [63, 58, 44, 91, 93, 123, 125, 35, 38, 42, 33, 124, 62, 39, 34, 37, 64, 96]
def fl (b : UInt8) : Bool := has b flows
def mrk (b : UInt8) : Bool := has b marks
/-- does anything end the text at a place? -/
def en (l : List UInt8) (f : Bool) (i : Nat) : Bool :=
  if (l.getD i 0 == 58) = true then (i + 1 == l.length || l.getD (i + 1) 0 == 32 || (f && fl (l.getD (i + 1) 0)))
  else if (l.getD i 0 == 35) = true then (decide (0 < i) && l.getD (i - 1) 0 == 32)
  else (f && fl (l.getD i 0))
/-- the first such place from i on, of k places -/
def fro (l : List UInt8) (f : Bool) : Nat → Nat → Nat
  | 0, i => i
  | k + 1, i => if en l f i = true then i else fro l f k (i + 1)
def fin (l : List UInt8) (f : Bool) : Nat := fro l f l.length 0
def cutT (l : List UInt8) (f : Bool) : List UInt8 := trR is32 (l.take (fin l f))
def bg (l : List UInt8) : Bool := !(l == []) && !(l == [45]) && !(l == [45, 45, 45]) && !(l.getD 0 0 == 32) && !(mrk (l.getD 0 0)) && !(l.take 2 == [45, 32])
def pri (l : List UInt8) : Bool := (chk l).isNone && !(has 9 l || has 10 l || has 13 l)
def isP (l : List UInt8) (f : Bool) : Bool := pri l && bg l && !(l.getD (l.length - 1) 0 == 32) && (fin l f == l.length)

theorem fro_le (l : List UInt8) (f : Bool) (k i : Nat) : fro l f k i ≤ i + k := by
  induction k generalizing i with
  | zero => exact Nat.le_refl _
  | succ k ih =>
    unfold fro
    split
    · omega
    · have := ih (i + 1); omega
theorem fro_ge (l : List UInt8) (f : Bool) (k i : Nat) : i ≤ fro l f k i := by
  induction k generalizing i with
  | zero => exact Nat.le_refl _
  | succ k ih =>
    unfold fro
    split
    · omega
    · have := ih (i + 1); omega
theorem fin_le (l : List UInt8) (f : Bool) : fin l f ≤ l.length := by have := fro_le l f l.length 0; unfold fin; omega
theorem fro_no (l : List UInt8) (f : Bool) (k i : Nat) : ∀ j, i ≤ j → j < fro l f k i → en l f j = false := by
  induction k generalizing i with
  | zero => intro j h1 h2; unfold fro at h2; omega
  | succ k ih =>
    intro j h1 h2
    unfold fro at h2
    split at h2
    · omega
    · rename_i hn
      by_cases e : j = i
      · subst e; simpa using hn
      · exact ih (i + 1) j (by omega) h2
theorem fin_no (l : List UInt8) (f : Bool) (j : Nat) (h : j < fin l f) : en l f j = false := fro_no l f l.length 0 j (Nat.zero_le _) h
theorem fro_at (l : List UInt8) (f : Bool) (k i : Nat) (h : fro l f k i < i + k) : en l f (fro l f k i) = true := by
  induction k generalizing i with
  | zero => unfold fro at h; omega
  | succ k ih =>
    unfold fro at h ⊢
    split
    · rename_i hn; exact hn
    · rename_i hn; rw [if_neg hn] at h; exact ih (i + 1) (by omega)
theorem fin_at (l : List UInt8) (f : Bool) (h : fin l f < l.length) : en l f (fin l f) = true := fro_at l f l.length 0 (by unfold fin at h; omega)
theorem fin_uniq (l : List UInt8) (f : Bool) (e : Nat) (h : e ≤ l.length) (hn : ∀ j, j < e → en l f j = false) (ha : e = l.length ∨ en l f e = true) : fin l f = e := by
  rcases Nat.lt_trichotomy (fin l f) e with h1 | h1 | h1
  · have h2 := fin_at l f (by omega); rw [hn _ h1] at h2; cases h2
  · exact h1
  · have h2 := fin_le l f
    rcases ha with ha | ha
    · omega
    · rw [fin_no l f e h1] at ha; cases ha
theorem fin_len (l : List UInt8) (f : Bool) : (fin l f == l.length) = true ↔ ∀ j, j < l.length → en l f j = false := by
  rw [beq_iff_eq]
  constructor
  · intro h j hj; exact fin_no l f j (by omega)
  · intro h; exact fin_uniq l f _ (Nat.le_refl _) h (.inl rfl)

theorem fl_58 : fl 58 = false := by decide
theorem fl_35 : fl 35 = false := by decide
theorem fl_32 : fl 32 = false := by decide
theorem fl_0 : fl 0 = false := by decide

/-- in a flow, one that ends outside ends too -/
theorem en_flow (l : List UInt8) (i : Nat) (h : en l false i = true) : en l true i = true := by
  unfold en at h ⊢
  by_cases c1 : (l.getD i 0 == 58) = true
  · rw [if_pos c1] at h ⊢
    simp only [Bool.false_and, Bool.or_false] at h
    rw [h]; rfl
  · rw [if_neg c1] at h ⊢
    by_cases c2 : (l.getD i 0 == 35) = true
    · rw [if_pos c2] at h ⊢; exact h
    · rw [if_neg c2] at h ⊢; simp at h
theorem en_of_flow (l : List UInt8) (i : Nat) (h : en l true i = false) : en l false i = false := by
  cases e : en l false i
  · rfl
  · rw [en_flow l i e] at h; cases h
theorem isP_flow (l : List UInt8) (h : isP l true = true) : isP l false = true := by
  unfold isP at h ⊢
  simp only [Bool.and_eq_true] at h ⊢
  refine ⟨h.1, ?_⟩
  rw [fin_len]
  intro j hj
  exact en_of_flow l j ((fin_len l true).1 h.2 j hj)

theorem isP_ne {l : List UInt8} {f : Bool} (h : isP l f = true) : l ≠ [] := by
  rintro rfl
  unfold isP bg at h
  simp at h
theorem isP_last {l : List UInt8} {f : Bool} (h : isP l f = true) : (l.getD (l.length - 1) 0 == 32) = false := by
  unfold isP at h
  simp only [Bool.and_eq_true] at h
  simpa using h.1.2
theorem isP_fin {l : List UInt8} {f : Bool} (h : isP l f = true) : fin l f = l.length := by
  unfold isP at h
  simp only [Bool.and_eq_true] at h
  simpa using h.2

theorem trR_keep (p : UInt8 → Bool) (l : List UInt8) (h0 : l ≠ []) (h : p (l.getD (l.length - 1) 0) = false) : trR p l = l := by
  have e : l = l.dropLast ++ [l.getLast h0] := (List.dropLast_concat_getLast h0).symm
  have hl : 0 < l.length := List.length_pos_iff.2 h0
  have e2 : l.getD (l.length - 1) 0 = l.getLast h0 := by
    rw [List.getD_eq_getElem?_getD, List.getElem?_eq_getElem (by omega), List.getLast_eq_getElem]; rfl
  rw [e2] at h
  rw [e, trR_snoc, h]
  simp
/-- P6.3: a plain text is cut whole -/
theorem cutT_whole {l : List UInt8} {f : Bool} (h : isP l f = true) : cutT l f = l := by
  unfold cutT
  rw [isP_fin h, List.take_length]
  exact trR_keep is32 l (isP_ne h) (isP_last h)

theorem getD_app_left (a b : List UInt8) (i : Nat) (h : i < a.length) : (a ++ b).getD i 0 = a.getD i 0 := by
  rw [List.getD_eq_getElem?_getD, List.getD_eq_getElem?_getD, List.getElem?_append_left h]
theorem getD_app_right (a b : List UInt8) (i : Nat) : (a ++ b).getD (a.length + i) 0 = b.getD i 0 := by
  rw [List.getD_eq_getElem?_getD, List.getD_eq_getElem?_getD, List.getElem?_append_right (by omega)]
  congr 2; omega
theorem getD_take (l : List UInt8) (n i : Nat) (h : i < n) : (l.take n).getD i 0 = l.getD i 0 := by
  rw [List.getD_eq_getElem?_getD, List.getD_eq_getElem?_getD, List.getElem?_take, if_pos h]

/-- a place whose next one is there, too, hangs on these alone -/
theorem en_take (l : List UInt8) (f : Bool) (n i : Nat) (hn : n ≤ l.length) (h : i + 1 < n) : en (l.take n) f i = en l f i := by
  have hl : (l.take n).length = n := by rw [List.length_take]; omega
  unfold en
  rw [hl, getD_take l n i (by omega), getD_take l n (i + 1) h, getD_take l n (i - 1) (by omega)]
  have e1 : (i + 1 == n) = false := by simp; omega
  have e2 : (i + 1 == l.length) = false := by simp; omega
  rw [e1, e2]

theorem trR_last (p : UInt8 → Bool) (l : List UInt8) (h0 : l ≠ []) : trR p l = if p (l.getLast h0) = true then trR p l.dropLast else l := by
  have e : l.dropLast ++ [l.getLast h0] = l := List.dropLast_concat_getLast h0
  have h := trR_snoc p l.dropLast (l.getLast h0)
  rw [e] at h
  exact h
theorem trR_take (p : UInt8 → Bool) (l : List UInt8) : ∃ n, n ≤ l.length ∧ trR p l = l.take n := by
  generalize hk : l.length = k
  induction k generalizing l with
  | zero =>
    obtain rfl : l = [] := List.eq_nil_iff_length_eq_zero.2 hk
    exact ⟨0, Nat.le_refl _, rfl⟩
  | succ k ih =>
    have h0 : l ≠ [] := by rintro rfl; simp at hk
    have hd : l.dropLast.length = k := by rw [List.length_dropLast]; omega
    rw [trR_last p l h0]
    cases hp : p (l.getLast h0)
    · refine ⟨k + 1, Nat.le_refl _, ?_⟩
      rw [List.take_of_length_le (by omega)]; rfl
    · obtain ⟨n, hn, he⟩ := ih l.dropLast hd
      refine ⟨n, by omega, ?_⟩
      rw [if_pos rfl, he, List.dropLast_eq_take, List.take_take]
      congr 1; omega
/-- what is cut is a beginning of what stands ahead of the end -/
theorem cutT_take (l : List UInt8) (f : Bool) : ∃ n, n ≤ fin l f ∧ cutT l f = l.take n := by
  have hf := fin_le l f
  obtain ⟨n, hn, he⟩ := trR_take is32 (l.take (fin l f))
  rw [List.length_take] at hn
  refine ⟨n, by omega, ?_⟩
  unfold cutT
  rw [he, List.take_take]
  congr 1; omega
theorem cutT_len (l : List UInt8) (f : Bool) : (cutT l f).length ≤ fin l f := by
  obtain ⟨n, hn, he⟩ := cutT_take l f
  rw [he, List.length_take]; omega
theorem cutT_ext (l : List UInt8) (f : Bool) : cutT l f = l.take (cutT l f).length := by
  obtain ⟨n, hn, he⟩ := cutT_take l f
  have hf := fin_le l f
  rw [he, List.length_take, Nat.min_eq_left (by omega)]

theorem trR_trR (p : UInt8 → Bool) (l : List UInt8) : trR p (trR p l) = trR p l := by
  generalize hk : l.length = k
  induction k generalizing l with
  | zero =>
    obtain rfl : l = [] := List.eq_nil_iff_length_eq_zero.2 hk
    rfl
  | succ k ih =>
    have h0 : l ≠ [] := by rintro rfl; simp at hk
    cases hp : p (l.getLast h0)
    · have e2 : trR p l = l := by rw [trR_last p l h0, hp]; rfl
      rw [e2, e2]
    · have e2 : trR p l = trR p l.dropLast := by rw [trR_last p l h0, hp]; rfl
      rw [e2]
      exact ih l.dropLast (by rw [List.length_dropLast]; omega)

/-- P6.1: nothing of what is cut is cut again, but that a colon may end it -/
theorem cut_again (l : List UInt8) (f : Bool) : (cutT (cutT l f) f = cutT l f ∧ fin (cutT l f) f = (cutT l f).length) ∨ ((cutT l f) ≠ [] ∧ fin (cutT l f) f = (cutT l f).length - 1 ∧ (cutT l f).getD ((cutT l f).length - 1) 0 = 58) := by
  obtain ⟨n, hn, he⟩ := cutT_take l f
  have hf := fin_le l f
  have hl : (l.take n).length = n := by rw [List.length_take]; omega
  have hlen : (cutT l f).length = n := by rw [he, hl]
  have hin : ∀ j, j + 1 < n → en (cutT l f) f j = false := by
    intro j hj
    rw [he, en_take l f n j (by omega) hj]
    exact fin_no l f j (by omega)
  by_cases h0 : n = 0
  · left
    have e0 : cutT l f = [] := List.eq_nil_iff_length_eq_zero.2 (by omega)
    rw [e0]
    exact ⟨rfl, rfl⟩
  cases hlast : en (cutT l f) f (n - 1)
  · left
    have hfin : fin (cutT l f) f = (cutT l f).length := by
      refine fin_uniq _ _ _ (Nat.le_refl _) (fun j hj => ?_) (.inl rfl)
      by_cases hj1 : j + 1 < n
      · exact hin j hj1
      · have : j = n - 1 := by omega
        rw [this]; exact hlast
    refine ⟨?_, hfin⟩
    have e : cutT (cutT l f) f = trR is32 (cutT l f) := by
      conv => lhs; unfold cutT
      rw [show fin (trR is32 (List.take (fin l f) l)) f = fin (cutT l f) f from rfl, hfin, show trR is32 (List.take (fin l f) l) = cutT l f from rfl, List.take_length]
    rw [e]
    unfold cutT
    exact trR_trR _ _
  · right
    refine ⟨by intro e; rw [e] at hlen; simp at hlen; omega, ?_, ?_⟩
    · rw [hlen]
      exact fin_uniq _ _ _ (by omega) (fun j hj => hin j (by omega)) (.inr hlast)
    · rw [hlen]
      have hno : en l f (n - 1) = false := fin_no l f (n - 1) (by omega)
      rw [he] at hlast ⊢
      unfold en at hlast hno
      rw [getD_take l n (n - 1) (by omega)] at hlast ⊢
      rw [getD_take l n (n - 1 - 1) (by omega)] at hlast
      by_cases c1 : (l.getD (n - 1) 0 == 58) = true
      · simpa using c1
      · rw [if_neg c1] at hlast hno
        rw [hno] at hlast; cases hlast

/-- P6.3: ahead of what ends it a plain text is cut as a whole -/
theorem cut_ahead (t s : List UInt8) (f : Bool) (h : isP t f = true) : fin (t ++ [58, 32] ++ s) f = t.length ∧ cutT (t ++ [58, 32] ++ s) f = t := by
  have hfin : fin (t ++ [58, 32] ++ s) f = t.length := by
    have hf := isP_fin h
    have g0 : (t ++ [58, 32] ++ s).getD t.length 0 = 58 := by
      rw [List.append_assoc]
      exact getD_app_right t ([58, 32] ++ s) 0
    have g1 : (t ++ [58, 32] ++ s).getD (t.length + 1) 0 = 32 := by
      rw [List.append_assoc]
      exact getD_app_right t ([58, 32] ++ s) 1
    refine fin_uniq _ _ _ (by simp) (fun j hj => ?_) (.inr ?_)
    · have hno : en t f j = false := fin_no t f j (by omega)
      have g2 : (t ++ [58, 32] ++ s).getD j 0 = t.getD j 0 := by rw [List.append_assoc]; exact getD_app_left _ _ _ hj
      have g3 : (t ++ [58, 32] ++ s).getD (j - 1) 0 = t.getD (j - 1) 0 := by rw [List.append_assoc]; exact getD_app_left _ _ _ (by omega)
      unfold en at hno ⊢
      rw [g2, g3]
      by_cases c1 : (t.getD j 0 == 58) = true
      · rw [if_pos c1] at hno ⊢
        simp only [Bool.or_eq_false_iff, Bool.and_eq_false_iff] at hno
        have hj1 : j + 1 < t.length := by
          have := hno.1.1
          simp at this; omega
        have g4 : (t ++ [58, 32] ++ s).getD (j + 1) 0 = t.getD (j + 1) 0 := by rw [List.append_assoc]; exact getD_app_left _ _ _ hj1
        have e1 : (j + 1 == (t ++ [58, 32] ++ s).length) = false := by simp; omega
        rw [g4, e1, hno.1.2]
        simp
        rcases hno.2 with h2 | h2
        · simp [h2]
        · simp at h2; simp [h2]
      · rw [if_neg c1] at hno ⊢
        exact hno
    · unfold en
      rw [g0, g1]
      simp
  refine ⟨hfin, ?_⟩
  unfold cutT
  rw [hfin, List.append_assoc, List.take_append_of_le_length (Nat.le_refl _), List.take_length]
  exact trR_keep is32 t (isP_ne h) (isP_last h)

/-- P6.1: in a flow -/
def some5 (l : List UInt8) : Bool := l.any fl
theorem some5_getD (l : List UInt8) : some5 l = true ↔ ∃ j, j < l.length ∧ fl (l.getD j 0) = true := by
  unfold some5
  rw [List.any_eq_true]
  constructor
  · rintro ⟨x, hx, hf⟩
    obtain ⟨j, hj, rfl⟩ := List.getElem_of_mem hx
    exact ⟨j, hj, by rw [List.getD_eq_getElem?_getD, List.getElem?_eq_getElem hj]; exact hf⟩
  · rintro ⟨j, hj, hf⟩
    rw [List.getD_eq_getElem?_getD, List.getElem?_eq_getElem hj] at hf
    exact ⟨l[j], List.getElem_mem hj, hf⟩
theorem isP_some (l : List UInt8) : isP l true = (isP l false && !some5 l) := by
  rw [Bool.eq_iff_iff]
  constructor
  · intro h
    rw [Bool.and_eq_true]
    refine ⟨isP_flow l h, ?_⟩
    rw [Bool.not_eq_true', Bool.eq_false_iff]
    intro hs
    obtain ⟨j, hj, hf⟩ := (some5_getD l).1 hs
    have hno := fin_no l true j (by rw [isP_fin h]; exact hj)
    unfold en at hno
    have c1 : ¬ (l.getD j 0 == 58) = true := by
      intro e; rw [beq_iff_eq] at e; rw [e, fl_58] at hf; cases hf
    have c2 : ¬ (l.getD j 0 == 35) = true := by
      intro e; rw [beq_iff_eq] at e; rw [e, fl_35] at hf; cases hf
    rw [if_neg c1, if_neg c2, hf] at hno
    cases hno
  · intro h
    rw [Bool.and_eq_true] at h
    obtain ⟨h1, h2⟩ := h
    have h3 : ∀ j, j < l.length → fl (l.getD j 0) = false := by
      intro j hj
      cases e : fl (l.getD j 0)
      · rfl
      · rw [(some5_getD l).2 ⟨j, hj, e⟩] at h2; cases h2
    have h4 := (fin_len l false).1 (by rw [isP_fin h1]; simp)
    unfold isP at h1 ⊢
    simp only [Bool.and_eq_true] at h1 ⊢
    refine ⟨h1.1, ?_⟩
    rw [fin_len]
    intro j hj
    have h5 := h4 j hj
    have h6 : fl (l.getD (j + 1) 0) = false := by
      by_cases hj1 : j + 1 < l.length
      · exact h3 _ hj1
      · rw [List.getD_eq_getElem?_getD, List.getElem?_eq_none (by omega)]; exact fl_0
    unfold en at h5 ⊢
    rw [h3 j hj, h6]
    simpa using h5

end Go.Proofs.YtkggdjghjdakoaaGreatDoor.Pln
