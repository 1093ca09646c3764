/- Lines, rows and notes: plain functions on lists of bytes. -/
import Derived.Test.YtkggdjghjdakoaaGreatDoorUtfPlain2
import Derived.Laws.Strings2
namespace Go.Proofs.YtkggdjghjdakoaaGreatDoor.Rws
open Utf
set_option linter.unusedSimpArgs false
set_option linter.unusedVariables false

def mk (l : List UInt8) : ByteArray := ⟨l.toArray⟩
theorem mk_data (l : List UInt8) : (mk l).data.toList = l := by simp [mk]
theorem mk_size (l : List UInt8) : (mk l).size = l.length := by simp [mk, ByteArray.size]
theorem mk_of (s : ByteArray) : mk s.data.toList = s := by simp [mk]
theorem mk_ex (s : ByteArray) : ∃ l, s = mk l := ⟨_, (mk_of s).symm⟩
theorem mk_inj {a b : List UInt8} (h : mk a = mk b) : a = b := by rw [← mk_data a, h, mk_data]
theorem mk_ext (l : List UInt8) (i j : Nat) : (mk l).extract i j = mk ((l.drop i).take (j - i)) := by
  have h := ByteArray.extract_mk l i j
  unfold mk
  rw [h]
theorem mk_get (l : List UInt8) (k : Nat) (h : k < (mk l).size) : (mk l)[k]'h = l[k]'(by rw [mk_size] at h; exact h) := by
  simp [mk, ByteArray.getElem_eq_getElem_data]

/-- the blanks of a note -/
def sp (b : UInt8) : Bool := b == 32 || b == 9
def is32 (b : UInt8) : Bool := b == 32
def trL (l : List UInt8) : List UInt8 := l.dropWhile is32
def trR (p : UInt8 → Bool) (l : List UInt8) : List UInt8 := (l.reverse.dropWhile p).reverse
theorem trR_nil (p : UInt8 → Bool) : trR p [] = [] := rfl
theorem trR_snoc (p : UInt8 → Bool) (l : List UInt8) (b : UInt8) : trR p (l ++ [b]) = if p b = true then trR p l else l ++ [b] := by
  unfold trR
  rw [List.reverse_append, List.reverse_cons, List.reverse_nil, List.nil_append, List.singleton_append, List.dropWhile_cons]
  split
  · rfl
  · simp
theorem trL_len (l : List UInt8) : (trL l).length ≤ l.length := (List.dropWhile_sublist _).length_le
theorem trR_len (p : UInt8 → Bool) (l : List UInt8) : (trR p l).length ≤ l.length := by
  unfold trR
  rw [List.length_reverse]
  exact Nat.le_trans (List.dropWhile_sublist _).length_le (by simp)

/-- up to the first feed -/
def not10 (b : UInt8) : Bool := b != 10
def bef (l : List UInt8) : List UInt8 := l.takeWhile not10
def aft (l : List UInt8) : List UInt8 := l.drop ((bef l).length + 1)
def has (c : UInt8) (l : List UInt8) : Bool := l.any (· == c)
def chop (l : List UInt8) : List UInt8 := if l.getLast? = some 13 then l.dropLast else l
def line (l : List UInt8) : List UInt8 := if has 10 l = true then chop (bef l) else l
def lnsF : Nat → List UInt8 → List (List UInt8)
  | 0, _ => []
  | f + 1, l => if l = [] then [] else line l :: lnsF f (aft l)
def lns (l : List UInt8) : List (List UInt8) := lnsF l.length l

theorem aft_len (l : List UInt8) (h : l ≠ []) : (aft l).length < l.length := by
  have : 0 < l.length := List.length_pos_iff.2 h
  unfold aft; rw [List.length_drop]; omega
theorem lnsF_eq (f : Nat) : ∀ l : List UInt8, l.length ≤ f → lnsF f l = lnsF l.length l := by
  induction f using Nat.strongRecOn with
  | ind f ih =>
    intro l hl
    by_cases e : l = []
    · subst e; cases f <;> simp [lnsF]
    · have hp := aft_len l e
      cases f with
      | zero => omega
      | succ f =>
        obtain ⟨m, hm⟩ : ∃ m, l.length = m + 1 := ⟨l.length - 1, by omega⟩
        rw [hm]
        simp only [lnsF, if_neg e]
        rw [ih f (by omega) _ (by omega)]
        by_cases hmf : m = f
        · subst hmf; rw [ih m (by omega) _ (by omega)]
        · rw [ih m (by omega) _ (by omega)]
theorem lns_nil : lns [] = [] := rfl
theorem lns_next (l : List UInt8) (h : l ≠ []) : lns l = line l :: lns (aft l) := by
  have hp := aft_len l h
  unfold lns
  obtain ⟨m, hm⟩ : ∃ m, l.length = m + 1 := ⟨l.length - 1, by omega⟩
  rw [hm]
  simp only [lnsF, if_neg h]
  rw [lnsF_eq m _ (by omega)]
theorem bef_len (l : List UInt8) : (bef l).length ≤ l.length := (List.takeWhile_sublist _).length_le
theorem chop_len (l : List UInt8) : (chop l).length ≤ l.length := by unfold chop; split <;> simp
theorem line_len (l : List UInt8) : (line l).length ≤ l.length := by
  unfold line; split
  · exact Nat.le_trans (chop_len _) (bef_len _)
  · exact Nat.le_refl _
theorem lns_len (n : Nat) : ∀ l : List UInt8, l.length ≤ n → (lns l).length ≤ l.length := by
  induction n with
  | zero => intro l hl; obtain rfl : l = [] := List.eq_nil_iff_length_eq_zero.2 (by omega); simp [lns_nil]
  | succ n ih =>
    intro l hl
    by_cases e : l = []
    · subst e; simp [lns_nil]
    · have hp := aft_len l e
      have := ih (aft l) (by omega)
      rw [lns_next l e, List.length_cons]; omega
theorem lns_mem_len (n : Nat) : ∀ l : List UInt8, l.length ≤ n → ∀ x ∈ lns l, x.length ≤ l.length := by
  induction n with
  | zero => intro l hl; obtain rfl : l = [] := List.eq_nil_iff_length_eq_zero.2 (by omega); simp [lns_nil]
  | succ n ih =>
    intro l hl
    by_cases e : l = []
    · subst e; simp [lns_nil]
    · have hp := aft_len l e
      intro x hx
      rw [lns_next l e] at hx
      rcases List.mem_cons.1 hx with rfl | hx
      · exact line_len l
      · have := ih (aft l) (by omega) x hx; omega

/-- where the first such byte is -/
theorem bef_take (l : List UInt8) : l.take (bef l).length = bef l := by
  induction l with
  | nil => rfl
  | cons b r ih =>
    unfold bef at *
    rw [List.takeWhile_cons]
    split
    · simp [ih]
    · simp
def idx (c : UInt8) (l : List UInt8) : Int := if has c l = true then ((l.takeWhile (· != c)).length : Int) else -1
theorem idx_no {c : UInt8} {l : List UInt8} (h : has c l = false) : idx c l = -1 := by unfold idx; rw [h]; rfl
theorem idx_yes {c : UInt8} {l : List UInt8} (h : has c l = true) : idx c l = ((l.takeWhile (· != c)).length : Int) := by unfold idx; rw [h]; rfl
theorem take_lt {c : UInt8} {l : List UInt8} (h : has c l = true) : (l.takeWhile (· != c)).length < l.length := by
  induction l with
  | nil => cases h
  | cons b r ih =>
    rw [List.takeWhile_cons]
    split
    · rename_i hb
      have : has c r = true := by
        simp only [has, List.any_cons, Bool.or_eq_true] at h
        rcases h with h | h
        · have : b = c := by simpa using h
          subst this; simp at hb
        · exact h
      have := ih this
      simp; omega
    · simp

/-- rows -/
def col (l : List UInt8) : Nat := l.length - (trL l).length
def text (l : List UInt8) : List UInt8 := trR is32 (trL l)
def emp (t : List UInt8) : Bool := t.head? == none || t.head? == some 35
def bad (l : List UInt8) : Bool := has 13 l || (chk l).isSome
def wr (l : List UInt8) : Int := if bad l = true then 8 else if (!emp (text l) && (text l).head? == some 9) = true then 9 else 0
/-- the first line that is wrong: what, and its number -/
def flt : Nat → List (List UInt8) → Int × Int
  | _, [] => (0, 0)
  | k, l :: r => if wr l = 0 then flt (k + 1) r else (wr l, k)
def okay (L : List (List UInt8)) : Bool := L.all fun l => wr l == 0
theorem flt_ok (L : List (List UInt8)) (h : okay L = true) (k : Nat) : flt k L = (0, 0) := by
  induction L generalizing k with
  | nil => rfl
  | cons l r ih =>
    simp only [okay, List.all_cons, Bool.and_eq_true] at h
    rw [flt, if_pos (by simpa using h.1)]
    exact ih h.2 _
theorem flt_app (A : List (List UInt8)) (hA : okay A = true) (B : List (List UInt8)) (k : Nat) : flt k (A ++ B) = flt (k + A.length) B := by
  induction A generalizing k with
  | nil => simp
  | cons l r ih =>
    simp only [okay, List.all_cons, Bool.and_eq_true] at hA
    rw [List.cons_append, flt, if_pos (by simpa using hA.1), ih hA.2, List.length_cons]
    congr 1; omega
theorem flt_bad (A : List (List UInt8)) (hA : okay A = true) (l : List UInt8) (hl : wr l ≠ 0) (B : List (List UInt8)) (k : Nat) : flt k (A ++ l :: B) = (wr l, ((k + A.length : Nat) : Int)) := by
  rw [flt_app A hA, flt, if_neg hl]
theorem wr_cases (l : List UInt8) : wr l = 0 ∨ wr l = 8 ∨ wr l = 9 := by
  unfold wr; split
  · exact .inr (.inl rfl)
  · split
    · exact .inr (.inr rfl)
    · exact .inl rfl
theorem flt_cases (L : List (List UInt8)) : okay L = true ∨ okay L = false ∧ ∀ k, (flt k L).1 ≠ 0 := by
  induction L with
  | nil => exact .inl rfl
  | cons l r ih =>
    by_cases h : wr l = 0
    · rcases ih with ih | ⟨ih, h2⟩
      · left; simp only [okay, List.all_cons, Bool.and_eq_true]; exact ⟨by simpa using h, ih⟩
      · right; refine ⟨?_, fun k => ?_⟩
        · simp only [okay, List.all_cons, Bool.and_eq_false_iff]; right; exact ih
        · rw [flt, if_pos h]; exact h2 _
    · right
      refine ⟨?_, fun k => ?_⟩
      · simp only [okay, List.all_cons, Bool.and_eq_false_iff]; left; simpa using h
      · rw [flt, if_neg h]; exact h

/-- notes -/
def hx : Bool → List UInt8 → Nat
  | _, [] => 0
  | q, b :: r => if (b == 35 && q) = true then 0 else hx (sp b) r + 1
def note (l : List UInt8) : List UInt8 := trR sp (l.take (hx true l))
theorem hx_le (q : Bool) (l : List UInt8) : hx q l ≤ l.length := by
  induction l generalizing q with
  | nil => simp [hx]
  | cons b r ih => rw [hx]; split <;> simp; exact ih _
/-- whether a note may begin at a place -/
def at0 (l : List UInt8) (i : Nat) : Bool := i == 0 || sp (l.getD (i - 1) 0)
theorem hx_at (l : List UInt8) (i : Nat) (h : i < l.length) : hx (at0 l i) (l.drop i) = if (l.getD i 0 == 35 && at0 l i) = true then 0 else hx (at0 l (i + 1)) (l.drop (i + 1)) + 1 := by
  have e : l.drop i = l.getD i 0 :: l.drop (i + 1) := by
    rw [List.getD_eq_getElem?_getD, List.getElem?_eq_getElem h]; simp
  have e2 : at0 l (i + 1) = sp (l.getD i 0) := by simp [at0]
  rw [e, hx, e2]

end Go.Proofs.YtkggdjghjdakoaaGreatDoor.Rws
