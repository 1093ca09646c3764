/- Several texts as one: FlowModel2, FlowModel3. -/
import Derived.Test.YtfohbiohleekbaaGreatDoorQFbB
section
/- . -/
namespace Go.Proofs.YtfohbiohleekbaaGreatDoor.Flw
open Utf Rws Pln
set_option linter.unusedSimpArgs false
set_option linter.unusedVariables false
def Stop (f : Bool) (l : Ln) : Prop := l = [] ∨ (f = true ∧ fl (hd l) = true)
theorem fl_cases {c : UInt8} (h : fl c = true) : c = 44 ∨ c = 91 ∨ c = 93 ∨ c = 123 ∨ c = 125 := by
 unfold fl has flows at h
 simp only [List.any_cons, List.any_nil, Bool.or_false, Bool.or_eq_true, beq_iff_eq] at h
 rcases h with h | h | h | h | h <;> simp [h]
theorem fl_letter {c : UInt8} (h : fl c = true) : letter c = false := by
 rcases fl_cases h with rfl | rfl | rfl | rfl | rfl <;> decide
theorem Stop.letter {f : Bool} {l : Ln} (h : Stop f l) : letter (hd l) = false := by
 rcases h with rfl | ⟨_, h⟩
 ·decide
 ·exact fl_letter h
theorem isP_hd {t : Ln} {f : Bool} (h : isP t f = true) : mrk (hd t) = false ∧ hd t ≠ 32 := by
 unfold isP bg at h
 simp only [Bool.and_eq_true, Bool.not_eq_true'] at h
 refine ⟨h.1.1.2.1.2, ?_⟩
 have := h.1.1.2.1.1.2
 intro e
 rw [show t.getD 0 0 = hd t from rfl, e] at this
 exact absurd this (by decide)
theorem takeWhile_app (p : UInt8 → Bool) (a l : Ln) (ha : a.all p = true) (hl : p (hd l) = false ∨ l = []) : (a ++ l).takeWhile p = a := by
 induction a with
 | nil =>
  cases l with
  | nil => rfl
  | cons b r =>
   rcases hl with hl | hl
   ·have : p b = false := hl
    simp [List.takeWhile, this]
   ·cases hl
 | cons b r ih =>
  simp only [List.all_cons, Bool.and_eq_true] at ha
  rw [List.cons_append, List.takeWhile_cons_of_pos ha.1, ih ha.2]
theorem rstep_inv {inner : Option (Tr → Bool)} {t : Tr} (h : rstep inner t = true) :
  1 ≤ t.kind ∧ t.kind ≤ 7 ∧ (t.anc = [] ∧ t.kind ≠ 7 ∨ isName t.anc = true) ∧ txt t.kind t.text = true ∧ ((t.kind ≠ 5 ∧ t.kind ≠ 6) → t.kids = []) ∧
   ((t.kind = 5 ∨ t.kind = 6) → ∃ v, inner = some v ∧ (t.kind = 6 → t.kids.length % 2 = 0 ∧ keysOk 0 t.kids = true) ∧ ∀ k ∈ t.kids, v k = true) := by
 unfold rstep at h
 simp only [Bool.and_eq_true, decide_eq_true_eq] at h
 obtain ⟨⟨⟨⟨h1, h7⟩, ha⟩, ht⟩, hk⟩ := h
 refine ⟨h1, h7, ?_, ht, ?_, ?_⟩
 ·simpa using ha
 ·intro hn
  rw [if_pos hn] at hk
  simpa using hk
 ·intro hy
  rw [if_neg (by omega)] at hk
  cases inner with
  | none => cases hk
  | some v =>
   simp only [Bool.and_eq_true, List.all_eq_true] at hk
   refine ⟨v, rfl, fun h6 => ?_, hk.2⟩
   have := hk.1
   simpa [h6] using this
theorem isName_hd {a : Ln} (h : isName a = true) : a ≠ [] := by
 rintro rfl
 revert h; decide
end Go.Proofs.YtfohbiohleekbaaGreatDoor.Flw
end

section
/- . -/
namespace Go.Proofs.YtfohbiohleekbaaGreatDoor.Flw
open Utf Rws Pln
set_option linter.unusedSimpArgs false
set_option linter.unusedVariables false
theorem hd_ne {l : Ln} (h : hd l ≠ 0) : l ≠ [] ∧ (l.drop 1).length + 1 = l.length := by
 cases l with
 | nil => exact absurd rfl h
 | cons b r => exact ⟨by simp, by simp⟩
theorem tw_all (p : UInt8 → Bool) (l : Ln) : (l.takeWhile p).all p = true := by
 induction l with
 | nil => rfl
 | cons b r ih =>
  by_cases h : p b = true
  ·rw [List.takeWhile_cons_of_pos h]; simp [h, ih]
  ·rw [List.takeWhile_cons_of_neg h]; rfl
theorem tw_len (p : UInt8 → Bool) (l : Ln) : (l.takeWhile p).length ≤ l.length := by
 induction l with
 | nil => exact Nat.le_refl _
 | cons b r ih =>
  by_cases h : p b = true
  ·rw [List.takeWhile_cons_of_pos h]; simp; exact ih
  ·rw [List.takeWhile_cons_of_neg h]; simp
theorem nam_inv {l : Ln} {x : Ln × Ln} (h : nam l = .ok x) : isName x.1 = true ∧ x.1.length + x.2.length = l.length := by
 unfold nam at h
 obtain ⟨hn, e⟩ := ite_inv h
 cases e
 have h1 := tw_all letter l
 have h2 := tw_len letter l
 have h3 : ((l.takeWhile letter).take 32).length ≤ (l.takeWhile letter).length := by rw [List.length_take]; omega
 refine ⟨?_, by show ((l.takeWhile letter).take 32).length + (l.drop _).length = _; rw [List.length_drop]; omega⟩
 unfold isName
 simp only [Bool.and_eq_true, decide_eq_true_eq]
 refine ⟨⟨?_, ?_⟩, ?_⟩
 ·rw [List.all_eq_true] at h1 ⊢
  intro b hb
  exact h1 b (List.mem_of_mem_take hb)
 ·rcases Nat.eq_zero_or_pos ((l.takeWhile letter).take 32).length with h0 | h0
  ·exact absurd (.inl h0) hn
  ·exact h0
 ·rw [List.length_take]; omega
theorem gap_inv {f : Bool} {l r : Ln} (h : gap f l = .ok r) : r.length ≤ l.length := by
 unfold gap at h
 obtain ⟨_, e⟩ := ite_inv h
 cases e
 exact gaps_len l
theorem word_bd (l : Ln) : 0 ≤ word l ∧ word l ≤ 6 := by
 unfold word
 repeat' split
 all_goals exact ⟨by decide, by decide⟩
theorem tag_inv {l : Ln} {x : Int × Ln} (h : tag l = .ok x) : 1 ≤ x.1 ∧ x.1 ≤ 6 ∧ x.2.length ≤ l.length := by
 unfold tag at h
 obtain ⟨hn, e⟩ := ite_inv h
 cases e
 have := word_bd (l.takeWhile letter)
 refine ⟨by omega, by omega, ?_⟩
 show (l.drop _).length ≤ _
 rw [List.length_drop]; omega
def PrOk (p : Pr) : Prop := (p.anc = [] ∨ isName p.anc = true) ∧ 0 ≤ p.tag ∧ p.tag ≤ 6
theorem prp_inv (f : Bool) : ∀ (n : Nat) (p : Pr) (l : Ln) (x : Pr × Ln), PrOk p → prp f n p l = .ok x → PrOk x.1 ∧ x.2.length ≤ l.length
 | 0, p, l, x, hp, h => by cases h; exact ⟨hp, Nat.le_refl _⟩
 | n + 1, p, l, x, hp, h => by
  unfold prp at h
  by_cases c1 : hd l = 38 ∧ p.anc = []
  ·rw [if_pos c1] at h
   obtain ⟨y, hy, h⟩ := bnd_inv h
   obtain ⟨r, hr, h⟩ := bnd_inv h
   have h1 := nam_inv hy
   have h2 := gap_inv hr
   have h3 := prp_inv f n _ r x (show PrOk ⟨y.1, p.tag, p.at_, true⟩ from ⟨.inr h1.1, hp.2⟩) h
   have h4 := hd_ne (l := l) (by rw [c1.1]; decide)
   exact ⟨h3.1, by omega⟩
  ·rw [if_neg c1] at h
   by_cases c2 : hd l = 33 ∧ hd (l.drop 1) = 33 ∧ p.tag = 0
   ·rw [if_pos c2] at h
    obtain ⟨y, hy, h⟩ := bnd_inv h
    obtain ⟨r, hr, h⟩ := bnd_inv h
    have h1 := tag_inv hy
    have h2 := gap_inv hr
    have h3 := prp_inv f n _ r x (show PrOk ⟨p.anc, y.1, l.length, true⟩ from ⟨hp.1, by show (0 : Int) ≤ y.1; omega, h1.2.1⟩) h
    have h4 : (l.drop 2).length ≤ l.length := by rw [List.length_drop]; omega
    exact ⟨h3.1, by omega⟩
   ·rw [if_neg c2] at h
    cases h
    exact ⟨hp, Nat.le_refl _⟩
theorem quoted_inv {l : Ln} {x : Ln × Ln} (h : quoted l = .ok x) : (dec x.1).2 = none ∧ x.2.length + 2 ≤ l.length := by
 unfold quoted at h
 obtain ⟨hn, e⟩ := ite_inv h
 cases e
 have := Quo.rd_means l (by omega)
 refine ⟨this.1, ?_⟩
 show (l.drop _).length + 2 ≤ _
 rw [List.length_drop]; omega
theorem knd_bd (s : Ln) : 1 ≤ knd s ∧ knd s ≤ 4 := by
 unfold knd
 repeat' split
 all_goals exact ⟨by decide, by decide⟩
def LeafOk (t : Tr) : Prop := 1 ≤ t.kind ∧ t.kind ≤ 7 ∧ t.kind ≠ 5 ∧ t.kind ≠ 6 ∧ (t.anc = [] ∧ t.kind ≠ 7 ∨ isName t.anc = true) ∧ txt t.kind t.text = true ∧ t.kids = []
theorem LeafOk.rgt {t : Tr} (h : LeafOk t) (d : Nat) : rgt d t = true ∧ cntT d t = 1 := by
 obtain ⟨h1, h7, h5, h6, ha, ht, hk⟩ := h
 have hr : ∀ inner, rstep inner t = true := by
  intro inner
  unfold rstep
  simp only [Bool.and_eq_true, decide_eq_true_eq]
  refine ⟨⟨⟨⟨h1, h7⟩, ?_⟩, ht⟩, ?_⟩
  ·simpa using ha
  ·rw [if_pos ⟨h5, h6⟩, hk]; rfl
 cases d with
 | zero => exact ⟨hr _, rfl⟩
 | succ d => exact ⟨hr _, by unfold cntT; rw [hk]; rfl⟩
theorem p0_ok : PrOk p0 := ⟨.inl rfl, by decide, by decide⟩
def Bad {α : Type} (x : Ot α) : Prop := ∀ e, x = .error e → e.1 ≠ 0
theorem Bad.ok {α : Type} (a : α) : Bad (.ok a : Ot α) := fun e h => by cases h
theorem Bad.err {α : Type} {e : Fa} (h : e.1 ≠ 0) : Bad (.error e : Ot α) := fun e2 h2 => by cases h2; exact h
theorem Bad.bnd {α β : Type} {x : Ot α} {f : α → Ot β} (h : Bad x) (hf : ∀ a, Bad (f a)) : Bad (bnd x f) := by
 cases x with
 | ok a => exact hf a
 | error e => intro e2 h2; cases h2; exact h e rfl
theorem Bad.ite {α : Type} {p : Prop} [Decidable p] {x y : Ot α} (hx : Bad x) (hy : Bad y) : Bad (if p then x else y) := by split <;> assumption
theorem stands_ne (l : Ln) : (stands l).1 ≠ 0 := by
 unfold stands
 split
 ·exact (by decide : (4 : Nat) ≠ 0)
 ·exact (by decide : (3 : Nat) ≠ 0)
theorem nam_bad (l : Ln) : Bad (nam l) := .ite (.err (stands_ne _)) (.ok _)
theorem tag_bad (l : Ln) : Bad (tag l) := .ite (.err (stands_ne _)) (.ok _)
theorem gap_bad (f : Bool) (l : Ln) : Bad (gap f l) := .ite (.err (show 3 ≠ 0 by decide)) (.ok _)
theorem prp_bad (f : Bool) : ∀ (n : Nat) (p : Pr) (l : Ln), Bad (prp f n p l)
 | 0, p, l => .ok _
 | n + 1, p, l => by
  unfold prp
  exact .ite (.bnd (nam_bad _) fun a => .bnd (gap_bad f _) fun r => prp_bad f n _ r) (.ite (.bnd (tag_bad _) fun a => .bnd (gap_bad f _) fun r => prp_bad f n _ r) (.ok _))
theorem quoted_bad (l : Ln) : Bad (quoted l) := by
 unfold quoted
 by_cases c : (Quo.rd l).2.2.1 ≠ 0
 ·rw [if_pos c]; exact .err c
 ·rw [if_neg c]; exact .ok _
theorem plain_bad (f : Bool) (l : Ln) : Bad (plain f l) := .ite (.err (show 3 ≠ 0 by decide)) (.ok _)
theorem fits_bad (s : Ln) (q : Bool) (p : Pr) : Bad (fits s q p) := .ite (.ok _) (.ite (.ite (.err (show 12 ≠ 0 by decide)) (.ok _)) (.ok _))
theorem key_bad (l : Ln) : Bad (key l) := .ite (.bnd (quoted_bad l) fun _ => .ok _) (.bnd (plain_bad true l) fun _ => .ite (.err (stands_ne _)) (.ok _))
theorem part_bad {v : Ln → Ot (Tr × Ln)} (hv : ∀ l, Bad (v l)) (map : Bool) (l : Ln) : Bad (part v map l) :=
 .ite (.bnd (key_bad l) fun _ => .ite (.err (stands_ne _)) (.bnd (hv _) fun _ => .ok _)) (.ite (.err (stands_ne _)) (.bnd (hv _) fun _ => .ok _))
theorem lst_bad {v : Ln → Ot (Tr × Ln)} (hv : ∀ l, Bad (v l)) (map : Bool) : ∀ (n : Nat) (l : Ln), Bad (lst v map n l)
 | 0, l => .err (stands_ne _)
 | n + 1, l => by
  unfold lst
  exact .ite (.ok _) (.bnd (part_bad hv map _) fun _ => .ite (.bnd (lst_bad hv map n _) fun _ => .ok _) (.ite (.ok _) (.err (stands_ne _))))
theorem vstep_bad {inner : Option (Ln → Ot (Tr × Ln))} (hv : ∀ v, inner = some v → ∀ l, Bad (v l)) (f : Bool) (l : Ln) : Bad (vstep inner f l) := by
 unfold vstep body
 refine .bnd (prp_bad f _ _ _) fun x => .ite (.ite (.err (stands_ne _)) (.bnd (nam_bad _) fun _ => .ok _)) (.ite ?_ (.ite (.bnd (quoted_bad _) fun _ => .bnd (fits_bad _ _ _) fun _ => .ok _) (.bnd (plain_bad _ _) fun _ => .bnd (fits_bad _ _ _) fun _ => .ok _)))
 cases inner with
 | none => exact .err (show 10 ≠ 0 by decide)
 | some v => exact .bnd (lst_bad (hv v rfl) _ _ _) fun _ => .ite (.err (show 12 ≠ 0 by decide)) (.ok _)
theorem val_bad : ∀ (d : Nat) (f : Bool) (l : Ln), Bad (val d f l)
 | 0, f, l => vstep_bad (inner := none) (fun v h => by cases h) f l
 | d + 1, f, l => vstep_bad (inner := some fun m => val d true m) (fun v h m => by cases h; exact val_bad d true m) f l
end Go.Proofs.YtfohbiohleekbaaGreatDoor.Flw
end
