/- Scalars of several lines: plain functions on lists of bytes, and what follows. -/
import Derived.Test.YtoamfmockinknaaDoorUtfPlain2
namespace Go.Proofs.YtoamfmockinknaaDoor.Blk
open Utf
set_option linter.unusedSimpArgs false
set_option linter.unusedVariables false

abbrev Ln := List UInt8
/-- a row: its column, its text, its line -/
abbrev Rw := Int × List UInt8 × Int

/-! ### styles -/
/-- what tells a style -/
def mark (f : Bool) (c : Int) : Ln := (if f then 62 else 124) :: (if c = 1 then [45] else if c = 2 then [43] else [])
/-- the style that a text tells -/
def headO (s : Ln) : Option (Bool × Int) :=
  if s = [124] then some (false, 0) else if s = [124, 45] then some (false, 1) else if s = [124, 43] then some (false, 2)
  else if s = [62] then some (true, 0) else if s = [62, 45] then some (true, 1) else if s = [62, 43] then some (true, 2) else none
theorem head_mark (f : Bool) (c : Int) (h0 : 0 ≤ c) (h2 : c ≤ 2) : headO (mark f c) = some (f, c) := by
  rcases (show c = 0 ∨ c = 1 ∨ c = 2 by omega) with rfl | rfl | rfl <;> cases f <;> decide
theorem mark_head (s : Ln) (f : Bool) (c : Int) (h : headO s = some (f, c)) : mark f c = s := by
  unfold headO at h
  by_cases h1 : s = [124]
  · rw [if_pos h1] at h; cases h; rw [h1]; rfl
  rw [if_neg h1] at h
  by_cases h2 : s = [124, 45]
  · rw [if_pos h2] at h; cases h; rw [h2]; rfl
  rw [if_neg h2] at h
  by_cases h3 : s = [124, 43]
  · rw [if_pos h3] at h; cases h; rw [h3]; rfl
  rw [if_neg h3] at h
  by_cases h4 : s = [62]
  · rw [if_pos h4] at h; cases h; rw [h4]; rfl
  rw [if_neg h4] at h
  by_cases h5 : s = [62, 45]
  · rw [if_pos h5] at h; cases h; rw [h5]; rfl
  rw [if_neg h5] at h
  by_cases h6 : s = [62, 43]
  · rw [if_pos h6] at h; cases h; rw [h6]; rfl
  rw [if_neg h6] at h
  cases h
theorem mark_len (f : Bool) (c : Int) : (mark f c).length ≤ 2 := by unfold mark; simp only [List.length_cons]; split; simp; split <;> simp

/-! ### folding -/
def flat (s : Ln) : Bool := match s with
  | [] => false
  | b :: _ => b != 32
/-- what stands behind a line, ahead of others -/
def sep (x : Ln) (r : List Ln) : Ln := match r.dropWhile (·.isEmpty) with
  | [] => [10]
  | z :: _ => if (flat x && flat z) = true then (match r with | [] :: _ => [] | _ => [32]) else [10]
def fld : List Ln → Ln
  | [] => []
  | x :: r => match r with
    | [] => x
    | y :: t => x ++ sep x (y :: t) ++ fld (y :: t)
def joinW (c : UInt8) : List Ln → Ln
  | [] => []
  | x :: r => match r with
    | [] => x
    | y :: t => x ++ c :: joinW c (y :: t)
theorem fld_cons (x y : Ln) (t : List Ln) : fld (x :: y :: t) = x ++ sep x (y :: t) ++ fld (y :: t) := rfl
theorem join_cons (c : UInt8) (x y : Ln) (t : List Ln) : joinW c (x :: y :: t) = x ++ c :: joinW c (y :: t) := rfl
theorem sep_flat {x y : Ln} {t : List Ln} (hx : flat x = true) (hy : flat y = true) : sep x (y :: t) = [32] := by
  cases y with
  | nil => cases hy
  | cons b r =>
    unfold sep
    have e : ((b :: r) :: t).dropWhile (·.isEmpty) = (b :: r) :: t := rfl
    rw [e]
    simp only
    rw [hx, hy]
    rfl
/-- lines that are not empty, and begin with no blank, are folded to one -/
theorem fld_flat : ∀ l : List Ln, (∀ x ∈ l, flat x = true) → fld l = joinW 32 l
  | [], _ => rfl
  | [x], _ => rfl
  | x :: y :: t, h => by
    rw [fld_cons, join_cons, sep_flat (h x (by simp)) (h y (by simp)), fld_flat (y :: t) (fun z hz => h z (by simp [hz]))]
    simp
theorem join_snoc (c : UInt8) : ∀ (l : List Ln) (x : Ln), l ≠ [] → joinW c (l ++ [x]) = joinW c l ++ c :: x
  | [], x, h => absurd rfl h
  | [y], x, _ => rfl
  | y :: z :: t, x, _ => by
    have e : (y :: z :: t) ++ [x] = y :: z :: (t ++ [x]) := rfl
    have e2 : z :: (t ++ [x]) = (z :: t) ++ [x] := rfl
    rw [e, join_cons, join_cons, e2, join_snoc c (z :: t) x (by simp)]
    simp
theorem join_nils (c : UInt8) (l : List Ln) (h : l ≠ []) : ∀ n : Nat, joinW c (l ++ List.replicate n []) = joinW c l ++ List.replicate n c
  | 0 => by simp
  | n + 1 => by
    rw [List.replicate_succ', ← List.append_assoc, join_snoc c _ _ (by simp [h]), join_nils c l h n, List.append_assoc]
    rw [show c :: ([] : Ln) = [c] from rfl, ← List.replicate_succ']

/-! ### lines of a text -/
def spl : Ln → List Ln
  | [] => [[]]
  | b :: r => if b = 10 then [] :: spl r else match spl r with
    | [] => [[b]]
    | h :: t => (b :: h) :: t
theorem spl_ne : ∀ s : Ln, spl s ≠ []
  | [] => by simp [spl]
  | b :: r => by
    rw [spl]
    split
    · simp
    · split <;> simp
theorem join_spl : ∀ s : Ln, joinW 10 (spl s) = s
  | [] => rfl
  | b :: r => by
    have ih := join_spl r
    rw [spl]
    by_cases h : b = 10
    · rw [if_pos h]
      cases hs : spl r with
      | nil => exact absurd hs (spl_ne r)
      | cons x t =>
        rw [join_cons, ← hs, ih, h]
        rfl
    · rw [if_neg h]
      cases hs : spl r with
      | nil => exact absurd hs (spl_ne r)
      | cons x t =>
        rw [hs] at ih
        simp only
        cases t with
        | nil => simp only [joinW] at ih ⊢; rw [ih]
        | cons y u => rw [join_cons] at ih ⊢; rw [List.cons_append, ih]
theorem spl_len : ∀ s : Ln, ∀ x ∈ spl s, x.length ≤ s.length
  | [], x, hx => by simp [spl] at hx; simp [hx]
  | b :: r, x, hx => by
    have ih := spl_len r
    rw [spl] at hx
    by_cases h : b = 10
    · rw [if_pos h] at hx
      rcases List.mem_cons.1 hx with rfl | hx
      · simp
      · have := ih x hx; simp; omega
    · rw [if_neg h] at hx
      cases hs : spl r with
      | nil => exact absurd hs (spl_ne r)
      | cons y t =>
        rw [hs] at hx ih
        simp only at hx
        rcases List.mem_cons.1 hx with rfl | hx
        · have := ih y (by simp); simp; omega
        · have := ih x (by simp [hx]); simp; omega

/-! ### taking -/
def mx (c : Int) : Nat := c.toNat
def isIn (col : Int) (r : Rw) : Bool := r.2.1.isEmpty || decide (col < (mx r.1 : Int))
/-- the rows of a block -/
def rws (l : List Rw) (col : Int) : List Rw := l.takeWhile (isIn col)
/-- its base -/
def bas (l : List Rw) : Nat := match l.find? (fun r => !r.2.1.isEmpty) with
  | some r => mx r.1
  | none => 0
def badR (b : Nat) (r : Rw) : Bool := !r.2.1.isEmpty && (decide (mx r.1 < b) || decide (b + 65536 < mx r.1))
def lineR (b : Nat) (r : Rw) : Ln := if r.2.1.isEmpty then [] else List.replicate (mx r.1 - b) 32 ++ r.2.1
/-- lines without the empty ones at the end -/
def trm (l : List Ln) : List Ln := (l.reverse.dropWhile (·.isEmpty)).reverse
def body (f : Bool) (k : List Ln) : Ln := if f then fld k else joinW 10 k
/-- Take: the text and how many rows; or the row's line -/
def tak (l : List Rw) (col : Int) (f : Bool) (c : Int) : (Ln × Nat) ⊕ Int :=
  match (rws l col).find? (badR (bas (rws l col))) with
  | some r => .inr r.2.2
  | none => .inl (body f (trm ((rws l col).map (lineR (bas (rws l col))))) ++
      ((if c ≠ 1 ∧ trm ((rws l col).map (lineR (bas (rws l col)))) ≠ [] then [10] else []) ++
       (if c = 2 then List.replicate ((rws l col).length - (trm ((rws l col).map (lineR (bas (rws l col))))).length) 10 else [])), (rws l col).length)

theorem trm_snoc_nil (l : List Ln) : trm (l ++ [[]]) = trm l := by simp [trm]
theorem trm_nils (l : List Ln) : ∀ n, trm (l ++ List.replicate n []) = trm l
  | 0 => by simp
  | n + 1 => by rw [List.replicate_succ', ← List.append_assoc, trm_snoc_nil, trm_nils l n]
theorem trm_last (l : List Ln) (x : Ln) (h : x ≠ []) : trm (l ++ [x]) = l ++ [x] := by
  unfold trm
  rw [List.reverse_append, List.reverse_singleton, List.singleton_append, List.dropWhile_cons]
  have : x.isEmpty = false := by cases x; exact absurd rfl h; rfl
  simp [this]
/-- lines are some, of which the last one is not empty, and empty ones -/
theorem trm_split (l : List Ln) : ∃ n, l = trm l ++ List.replicate n [] := by
  have key : ∀ m : List Ln, ∃ n, m.reverse = (m.dropWhile (·.isEmpty)).reverse ++ List.replicate n [] := by
    intro m
    induction m with
    | nil => exact ⟨0, rfl⟩
    | cons x t ih =>
      cases x with
      | nil =>
        obtain ⟨n, hn⟩ := ih
        refine ⟨n + 1, ?_⟩
        rw [List.reverse_cons, hn, List.append_assoc, List.replicate_succ']
        rfl
      | cons a b => exact ⟨0, by simp⟩
  have := key l.reverse
  rw [List.reverse_reverse] at this
  exact this

end Go.Proofs.YtoamfmockinknaaDoor.Blk
