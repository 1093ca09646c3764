/- Texts as signs, one behind the other: plain functions on lists of bytes. -/
import Derived.Test.YtkggdjghjdakoaaGreatDoorUtfPlain
namespace Go.Proofs.YtkggdjghjdakoaaGreatDoor.Utf

def allS (zs : List Int) : Bool := zs.all sgn
theorem allS_take (zs : List Int) (k : Nat) (h : k < zs.length) : allS (zs.take (k + 1)) = (allS (zs.take k) && sgn (zs.getD k 0)) := by
  unfold allS
  rw [List.take_succ_eq_append_getElem h, List.all_append, List.getD_eq_getElem?_getD, List.getElem?_eq_getElem h]
  simp
theorem allS_false (zs : List Int) (k : Nat) (h : k < zs.length) (hn : sgn (zs.getD k 0) = false) : allS zs = false := by
  unfold allS
  rw [Bool.eq_false_iff]
  intro ha
  rw [List.all_eq_true] at ha
  have := ha (zs.getD k 0) (by rw [List.getD_eq_getElem?_getD, List.getElem?_eq_getElem h]; simp)
  rw [hn] at this; cases this

/-- the bytes of many signs -/
def bytes (zs : List Int) : List Int := zs.flatMap byt
theorem bytes_take (zs : List Int) (k : Nat) (h : k < zs.length) : bytes (zs.take (k + 1)) = bytes (zs.take k) ++ byt (zs.getD k 0) := by
  unfold bytes
  rw [List.take_succ_eq_append_getElem h, List.flatMap_append, List.getD_eq_getElem?_getD, List.getElem?_eq_getElem h]
  simp
theorem byt_len (n : Int) : 1 ≤ (byt n).length ∧ (byt n).length ≤ 4 := by
  unfold byt; split; · simp
  split; · simp
  split <;> simp
theorem bytes_len (zs : List Int) : zs.length ≤ (bytes zs).length ∧ (bytes zs).length ≤ 4 * zs.length := by
  unfold bytes
  induction zs with
  | nil => simp
  | cons n zs ih => have := byt_len n; simp only [List.flatMap_cons, List.length_append, List.length_cons]; omega

theorem fst_bd (l : List UInt8) : -1 ≤ (fst l).1 ∧ (fst l).1 ≤ 1114111 ∧ 0 ≤ (fst l).2 ∧ (fst l).2 ≤ 4 ∧ (fst l).2 ≤ l.length ∧ (l ≠ [] → 1 ≤ (fst l).2) := by
  by_cases h0 : l.length = 0
  · rw [fst_nil l h0]
    have e : l = [] := List.eq_nil_iff_length_eq_zero.2 h0
    exact ⟨by decide, by decide, by decide, by decide, by simp, fun h => absurd e h⟩
  by_cases h1 : hdL (l.getD 0 0) = 0 ∨ (l.length : Int) < hdL (l.getD 0 0)
  · rw [fst_no l h0 h1]
    exact ⟨by decide, by decide, by decide, by decide, by simp; omega, fun _ => by decide⟩
  have h2 := hdL_cases (l.getD 0 0)
  by_cases h3 : okL l (hdL (l.getD 0 0)).toNat = true ∧ sgn (accL l ((hdL (l.getD 0 0)).toNat - 1)) = true ∧ wid (accL l ((hdL (l.getD 0 0)).toNat - 1)) = hdL (l.getD 0 0)
  · rw [fst_yes l (by omega) (by omega) h3]
    have := sgn_bd h3.2.1
    simp only
    omega
  · have e : fst l = (-1, 1) := by unfold fst; rw [if_neg h0, if_neg h1, if_neg h3]
    rw [e]
    exact ⟨by decide, by decide, by decide, by decide, by simp; omega, fun _ => by decide⟩

/-- how many bytes the first sign has -/
def fk (l : List UInt8) : Nat := (fst l).2.toNat
theorem fk_pos (l : List UInt8) (h : l ≠ []) : 1 ≤ fk l ∧ fk l ≤ l.length ∧ fk l ≤ 4 ∧ ((fk l : Nat) : Int) = (fst l).2 := by
  have := fst_bd l
  have := this.2.2.2.2.2 h
  unfold fk
  omega

def cntF : Nat → List UInt8 → Nat
  | 0, _ => 0
  | f + 1, l => if l = [] then 0 else cntF f (l.drop (fk l)) + 1
def cnt (l : List UInt8) : Nat := cntF l.length l
def chkF : Nat → List UInt8 → Option Nat
  | 0, _ => none
  | f + 1, l => if l = [] then none else if prn (fst l).1 = true then (chkF f (l.drop (fk l))).map (· + fk l) else some 0
def chk (l : List UInt8) : Option Nat := chkF l.length l
def decF : Nat → List UInt8 → List Int × Option Nat
  | 0, _ => ([], none)
  | f + 1, l => if l = [] then ([], none) else if (fst l).1 < 0 then ([], some 0) else ((fst l).1 :: (decF f (l.drop (fk l))).1, (decF f (l.drop (fk l))).2.map (· + fk l))
def dec (l : List UInt8) : List Int × Option Nat := decF l.length l

theorem cntF_eq (f : Nat) : ∀ l : List UInt8, l.length ≤ f → cntF f l = cntF l.length l := by
  induction f using Nat.strongRecOn with
  | ind f ih =>
    intro l hl
    by_cases e : l = []
    · subst e; cases f <;> simp [cntF]
    · have hp := fk_pos l e
      have hlen : 0 < l.length := List.length_pos_iff.2 e
      cases f with
      | zero => omega
      | succ f =>
        obtain ⟨m, hm⟩ : ∃ m, l.length = m + 1 := ⟨l.length - 1, by omega⟩
        rw [hm]
        simp only [cntF, if_neg e]
        have hd : (l.drop (fk l)).length ≤ m := by rw [List.length_drop]; omega
        rw [ih f (by omega) _ (by omega)]
        by_cases hmf : m = f
        · subst hmf; rw [ih m (by omega) _ hd]
        · rw [ih m (by omega) _ hd]
theorem cnt_nil : cnt [] = 0 := rfl
theorem cnt_next (l : List UInt8) (h : l ≠ []) : cnt l = cnt (l.drop (fk l)) + 1 := by
  have hp := fk_pos l h
  unfold cnt
  obtain ⟨m, hm⟩ : ∃ m, l.length = m + 1 := ⟨l.length - 1, by omega⟩
  rw [hm]
  simp only [cntF, if_neg h]
  rw [cntF_eq m _ (by rw [List.length_drop]; omega)]

theorem chkF_eq (f : Nat) : ∀ l : List UInt8, l.length ≤ f → chkF f l = chkF l.length l := by
  induction f using Nat.strongRecOn with
  | ind f ih =>
    intro l hl
    by_cases e : l = []
    · subst e; cases f <;> simp [chkF]
    · have hp := fk_pos l e
      have hlen : 0 < l.length := List.length_pos_iff.2 e
      cases f with
      | zero => omega
      | succ f =>
        obtain ⟨m, hm⟩ : ∃ m, l.length = m + 1 := ⟨l.length - 1, by omega⟩
        rw [hm]
        simp only [chkF, if_neg e]
        have hd : (l.drop (fk l)).length ≤ m := by rw [List.length_drop]; omega
        rw [ih f (by omega) _ (by omega)]
        by_cases hmf : m = f
        · subst hmf; rw [ih m (by omega) _ hd]
        · rw [ih m (by omega) _ hd]
theorem chk_next (l : List UInt8) (h : l ≠ []) : chk l = if prn (fst l).1 = true then (chk (l.drop (fk l))).map (· + fk l) else some 0 := by
  have hp := fk_pos l h
  unfold chk
  obtain ⟨m, hm⟩ : ∃ m, l.length = m + 1 := ⟨l.length - 1, by omega⟩
  rw [hm]
  simp only [chkF, if_neg h]
  rw [chkF_eq m _ (by rw [List.length_drop]; omega)]

theorem decF_eq (f : Nat) : ∀ l : List UInt8, l.length ≤ f → decF f l = decF l.length l := by
  induction f using Nat.strongRecOn with
  | ind f ih =>
    intro l hl
    by_cases e : l = []
    · subst e; cases f <;> simp [decF]
    · have hp := fk_pos l e
      have hlen : 0 < l.length := List.length_pos_iff.2 e
      cases f with
      | zero => omega
      | succ f =>
        obtain ⟨m, hm⟩ : ∃ m, l.length = m + 1 := ⟨l.length - 1, by omega⟩
        rw [hm]
        simp only [decF, if_neg e]
        have hd : (l.drop (fk l)).length ≤ m := by rw [List.length_drop]; omega
        rw [ih f (by omega) _ (by omega)]
        by_cases hmf : m = f
        · subst hmf; rw [ih m (by omega) _ hd]
        · rw [ih m (by omega) _ hd]
theorem dec_nil : dec [] = ([], none) := rfl
theorem dec_bad (l : List UInt8) (h : l ≠ []) (hn : (fst l).1 < 0) : dec l = ([], some 0) := by
  have hp := fk_pos l h
  unfold dec
  obtain ⟨m, hm⟩ : ∃ m, l.length = m + 1 := ⟨l.length - 1, by omega⟩
  rw [hm]
  simp only [decF, if_neg h, if_pos hn]
theorem dec_next (l : List UInt8) (h : l ≠ []) (hn : ¬ (fst l).1 < 0) : dec l = ((fst l).1 :: (dec (l.drop (fk l))).1, (dec (l.drop (fk l))).2.map (· + fk l)) := by
  have hp := fk_pos l h
  unfold dec
  obtain ⟨m, hm⟩ : ∃ m, l.length = m + 1 := ⟨l.length - 1, by omega⟩
  rw [hm]
  simp only [decF, if_neg h, if_neg hn]
  rw [decF_eq m _ (by rw [List.length_drop]; omega)]
/-- the length of what is decoded -/
theorem dec_len (n : Nat) : ∀ l : List UInt8, l.length ≤ n → (dec l).1.length ≤ l.length ∧ cnt l ≤ l.length := by
  induction n with
  | zero =>
    intro l hl
    have e : l = [] := List.eq_nil_iff_length_eq_zero.2 (by omega)
    subst e; exact ⟨by simp [dec_nil], by simp [cnt_nil]⟩
  | succ n ih =>
    intro l hl
    by_cases e : l = []
    · subst e; exact ⟨by simp [dec_nil], by simp [cnt_nil]⟩
    · have hp := fk_pos l e
      have hi := ih (l.drop (fk l)) (by rw [List.length_drop]; omega)
      rw [List.length_drop] at hi
      refine ⟨?_, by rw [cnt_next l e]; omega⟩
      by_cases hn : (fst l).1 < 0
      · rw [dec_bad l e hn]; simp
      · rw [dec_next l e hn]; simp only [List.length_cons]; omega

end Go.Proofs.YtkggdjghjdakoaaGreatDoor.Utf
