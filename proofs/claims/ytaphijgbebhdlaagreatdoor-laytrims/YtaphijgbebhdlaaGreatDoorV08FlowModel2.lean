/- Several texts as one: FlowModel2, FlowModel3. -/
import Derived.Test.YtaphijgbebhdlaaGreatDoorV01RowsPlain
section
/- What is written is read. -/
namespace Go.Proofs.YtaphijgbebhdlaaGreatDoor.Flw
open Utf Rws Pln
set_option linter.unusedSimpArgs false
set_option linter.unusedVariables false

/-- what may stand behind a value -/
def Stop (f : Bool) (l : Ln) : Prop := l = [] ∨ (f = true ∧ fl (hd l) = true)

theorem fl_cases {c : UInt8} (h : fl c = true) : c = 44 ∨ c = 91 ∨ c = 93 ∨ c = 123 ∨ c = 125 := by
  unfold fl has flows at h
  simp only [List.any_cons, List.any_nil, Bool.or_false, Bool.or_eq_true, beq_iff_eq] at h
  rcases h with h | h | h | h | h <;> simp [h]
theorem fl_letter {c : UInt8} (h : fl c = true) : letter c = false := by
  rcases fl_cases h with rfl | rfl | rfl | rfl | rfl <;> decide
theorem Stop.letter {f : Bool} {l : Ln} (h : Stop f l) : letter (hd l) = false := by
  rcases h with rfl | ⟨_, h⟩
  · decide
  · exact fl_letter h
theorem takeWhile_app (p : UInt8 → Bool) (a l : Ln) (ha : a.all p = true) (hl : p (hd l) = false ∨ l = []) : (a ++ l).takeWhile p = a := by
  induction a with
  | nil =>
    cases l with
    | nil => rfl
    | cons b r =>
      rcases hl with hl | hl
      · have : p b = false := hl
        simp [List.takeWhile, this]
      · cases hl
  | cons b r ih =>
    simp only [List.all_cons, Bool.and_eq_true] at ha
    rw [List.cons_append, List.takeWhile_cons_of_pos ha.1, ih ha.2]
/-- what a tree that may be is, field by field -/
theorem rstep_inv {inner : Option (Tr → Bool)} {t : Tr} (h : rstep inner t = true) :
    1 ≤ t.kind ∧ t.kind ≤ 7 ∧ (t.anc = [] ∧ t.kind ≠ 7 ∨ isName t.anc = true) ∧ txt t.kind t.text = true ∧ ((t.kind ≠ 5 ∧ t.kind ≠ 6) → t.kids = []) ∧
      ((t.kind = 5 ∨ t.kind = 6) → ∃ v, inner = some v ∧ (t.kind = 6 → t.kids.length % 2 = 0 ∧ keysOk 0 t.kids = true) ∧ ∀ k ∈ t.kids, v k = true) := by
  unfold rstep at h
  simp only [Bool.and_eq_true, decide_eq_true_eq] at h
  obtain ⟨⟨⟨⟨h1, h7⟩, ha⟩, ht⟩, hk⟩ := h
  refine ⟨h1, h7, ?_, ht, ?_, ?_⟩
  · simpa using ha
  · intro hn
    rw [if_pos hn] at hk
    simpa using hk
  · intro hy
    rw [if_neg (by omega)] at hk
    cases inner with
    | none => cases hk
    | some v =>
      simp only [Bool.and_eq_true, List.all_eq_true] at hk
      refine ⟨v, rfl, fun h6 => ?_, hk.2⟩
      have := hk.1
      simpa [h6] using this
end Go.Proofs.YtaphijgbebhdlaaGreatDoor.Flw
end

section
/- What is read may be. -/
namespace Go.Proofs.YtaphijgbebhdlaaGreatDoor.Flw
open Utf Rws Pln
set_option linter.unusedSimpArgs false
set_option linter.unusedVariables false

theorem tw_all (p : UInt8 → Bool) (l : Ln) : (l.takeWhile p).all p = true := by
  induction l with
  | nil => rfl
  | cons b r ih =>
    by_cases h : p b = true
    · rw [List.takeWhile_cons_of_pos h]; simp [h, ih]
    · rw [List.takeWhile_cons_of_neg h]; rfl
theorem tw_len (p : UInt8 → Bool) (l : Ln) : (l.takeWhile p).length ≤ l.length := by
  induction l with
  | nil => exact Nat.le_refl _
  | cons b r ih =>
    by_cases h : p b = true
    · rw [List.takeWhile_cons_of_pos h]; simp; exact ih
    · rw [List.takeWhile_cons_of_neg h]; simp
/-- a leaf that may be, at every depth -/
def LeafOk (t : Tr) : Prop := 1 ≤ t.kind ∧ t.kind ≤ 7 ∧ t.kind ≠ 5 ∧ t.kind ≠ 6 ∧ (t.anc = [] ∧ t.kind ≠ 7 ∨ isName t.anc = true) ∧ txt t.kind t.text = true ∧ t.kids = []
theorem LeafOk.rgt {t : Tr} (h : LeafOk t) (d : Nat) : rgt d t = true ∧ cntT d t = 1 := by
  obtain ⟨h1, h7, h5, h6, ha, ht, hk⟩ := h
  have hr : ∀ inner, rstep inner t = true := by
    intro inner
    unfold rstep
    simp only [Bool.and_eq_true, decide_eq_true_eq]
    refine ⟨⟨⟨⟨h1, h7⟩, ?_⟩, ht⟩, ?_⟩
    · simpa using ha
    · rw [if_pos ⟨h5, h6⟩, hk]; rfl
  cases d with
  | zero => exact ⟨hr _, rfl⟩
  | succ d => exact ⟨hr _, by unfold cntT; rw [hk]; rfl⟩
/-- every fault has a number -/
def Bad {α : Type} (x : Ot α) : Prop := ∀ e, x = .error e → e.1 ≠ 0
theorem Bad.ok {α : Type} (a : α) : Bad (.ok a : Ot α) := fun e h => by cases h
theorem Bad.err {α : Type} {e : Fa} (h : e.1 ≠ 0) : Bad (.error e : Ot α) := fun e2 h2 => by cases h2; exact h
theorem Bad.bnd {α β : Type} {x : Ot α} {f : α → Ot β} (h : Bad x) (hf : ∀ a, Bad (f a)) : Bad (bnd x f) := by
  cases x with
  | ok a => exact hf a
  | error e => intro e2 h2; cases h2; exact h e rfl
end Go.Proofs.YtaphijgbebhdlaaGreatDoor.Flw
end
