/- Reading in quotes, a step at a time: plain facts. -/
import Derived.Test.YtiipndfogofhgaaDoorQuotePlain3
namespace Go.Proofs.YtiipndfogofhgaaDoor.Quo
open Utf
set_option linter.unusedSimpArgs false
set_option linter.unusedVariables false

theorem stp_le {q : UInt8} {l : List UInt8} (h : (stp q l).1 = 1) : (stp q l).2.1.length ≤ (stp q l).2.2 := by
  unfold stp at h ⊢
  by_cases h0 : l = []
  · rw [if_pos h0] at h; simp at h
  rw [if_neg h0] at h ⊢
  by_cases h1 : l.getD 0 0 = q
  · rw [if_pos h1] at h ⊢
    by_cases h2 : q = 39 ∧ 1 < l.length ∧ l.getD 1 0 = 39
    · rw [if_pos h2]; simp
    · rw [if_neg h2] at h; simp at h
  rw [if_neg h1] at h ⊢
  by_cases h2 : q = 34 ∧ l.getD 0 0 = 92
  · rw [if_pos h2] at h ⊢
    by_cases h3 : (escR l).2.2 = 0
    · rw [if_pos h3]
      simp only [u8s_len]
      have h4 := byt_len (escR l).1
      by_cases h5 : 4 ≤ (escR l).2.1
      · omega
      · -- a short one
        unfold escR at h3 h5 ⊢
        by_cases hl : l.length < 2
        · rw [if_pos hl] at h3; simp at h3
        rw [if_neg hl] at h3 h5 ⊢
        generalize l.getD 1 0 = c at *
        by_cases a1 : c = 34
        · rw [if_pos a1]; decide
        rw [if_neg a1] at h3 h5 ⊢
        by_cases a2 : c = 92
        · rw [if_pos a2]; decide
        rw [if_neg a2] at h3 h5 ⊢
        by_cases a3 : c = 110
        · rw [if_pos a3]; decide
        rw [if_neg a3] at h3 h5 ⊢
        by_cases a4 : c = 116
        · rw [if_pos a4]; decide
        rw [if_neg a4] at h3 h5 ⊢
        by_cases a5 : c = 114
        · rw [if_pos a5]; decide
        rw [if_neg a5] at h3 h5 ⊢
        by_cases a6 : c = 48
        · rw [if_pos a6]; decide
        rw [if_neg a6] at h3 h5 ⊢
        have hH : ∀ k, 2 ≤ k → (escH l k).2.2 = 0 → ¬ 4 ≤ (escH l k).2.1 → False := by
          intro k hk e1 e2
          unfold escH at e1 e2
          by_cases g1 : (hexR k (l.drop 2) 0).2 = 0
          · rw [if_pos g1] at e1 e2
            by_cases g2 : sgn (hexR k (l.drop 2) 0).1 = true
            · rw [if_pos g2] at e2; simp only at e2; omega
            · rw [if_neg g2] at e1; simp at e1
          · rw [if_neg g1] at e1; exact g1 e1
        by_cases a7 : c = 120
        · rw [if_pos a7] at h3 h5; exact (hH 2 (by decide) h3 h5).elim
        rw [if_neg a7] at h3 h5 ⊢
        by_cases a8 : c = 117
        · rw [if_pos a8] at h3 h5; exact (hH 4 (by decide) h3 h5).elim
        rw [if_neg a8] at h3 h5 ⊢
        by_cases a9 : c = 85
        · rw [if_pos a9] at h3 h5; exact (hH 8 (by decide) h3 h5).elim
        rw [if_neg a9] at h3
        simp at h3
    · rw [if_neg h3] at h
      exact absurd h (escR_ne l)
  rw [if_neg h2] at h ⊢
  by_cases h3 : may (fst l).1 = true
  · rw [if_pos h3]; simp only [List.length_take]; omega
  · rw [if_neg h3] at h; simp at h

theorem rdF_fuel (q : UInt8) : ∀ (f : Nat) (m : List UInt8), m.length ≤ f → ∀ (at_ : Nat) (out : List UInt8), rdF q f m at_ out = rdF q m.length m at_ out := by
  intro f
  induction f using Nat.strongRecOn with
  | ind f ih =>
    intro m hm at_ out
    cases f with
    | zero => rw [show m.length = 0 by omega]
    | succ f =>
      by_cases e : m = []
      · subst e
        rw [rdF]
        have h4 : (stp q []).1 = 4 := by unfold stp; rfl
        rw [if_neg (by rw [h4]; decide), if_neg (by rw [h4]; decide), if_pos h4]
        rfl
      · have hlen : 0 < m.length := List.length_pos_iff.2 e
        obtain ⟨g, hg⟩ : ∃ g, m.length = g + 1 := ⟨m.length - 1, by omega⟩
        rw [hg, rdF, rdF]
        by_cases h0 : (stp q m).1 = 0
        · rw [if_pos h0, if_pos h0]
        rw [if_neg h0, if_neg h0]
        by_cases h1 : (stp q m).1 = 1
        · rw [if_pos h1, if_pos h1]
          obtain ⟨n, _, _, h2, h3⟩ := stp_out h1
          have hd : (m.drop (stp q m).2.2).length ≤ g := by rw [List.length_drop]; omega
          rw [ih f (by omega) _ (by omega)]
          by_cases hgf : g = f
          · subst hgf; rw [ih g (by omega) _ hd]
          · rw [ih g (by omega) _ hd]
        · rw [if_neg h1, if_neg h1, hg]
/-- Read behind the first quote, from a place on -/
def rdA (q : UInt8) (m : List UInt8) (at_ : Nat) (out : List UInt8) : List UInt8 × Nat × Nat × Nat := rdF q m.length m at_ out
theorem rdA_nil (q : UInt8) (at_ : Nat) (out : List UInt8) : rdA q [] at_ out = ([], 0, 4, at_) := rfl
theorem rdA_end {q : UInt8} {m : List UInt8} (h : (stp q m).1 = 0) (at_ : Nat) (out : List UInt8) : rdA q m at_ out = (out, at_ + 1, 0, 0) := by
  unfold rdA
  cases m with
  | nil => exact absurd h (by unfold stp; simp)
  | cons a r => rw [List.length_cons, rdF_end h]
theorem rdA_step {q : UInt8} {m : List UInt8} (h : (stp q m).1 = 1) (at_ : Nat) (out : List UInt8) : rdA q m at_ out = rdA q (m.drop (stp q m).2.2) (at_ + (stp q m).2.2) (out ++ (stp q m).2.1) := by
  obtain ⟨n, _, _, h2, h3⟩ := stp_out h
  unfold rdA
  cases hm : m with
  | nil => rw [hm] at h; exact absurd h (by unfold stp; simp)
  | cons a r =>
    rw [← hm]
    have hg : m.length = r.length + 1 := by rw [hm]; rfl
    rw [hg, rdF, if_neg (by rw [h]; decide), if_pos h]
    exact rdF_fuel q _ _ (by rw [List.length_drop]; omega) _ _
theorem rdA_four {q : UInt8} {m : List UInt8} (h : (stp q m).1 = 4) (at_ : Nat) (out : List UInt8) : rdA q m at_ out = ([], 0, 4, at_ + m.length) := by
  unfold rdA
  cases m with
  | nil => rfl
  | cons a r => rw [List.length_cons, rdF, if_neg (by rw [h]; decide), if_neg (by rw [h]; decide), if_pos h, List.length_cons]
theorem rdA_bad {q : UInt8} {m : List UInt8} (hm : m ≠ []) (h0 : (stp q m).1 ≠ 0) (h1 : (stp q m).1 ≠ 1) (h4 : (stp q m).1 ≠ 4) (at_ : Nat) (out : List UInt8) : rdA q m at_ out = ([], 0, (stp q m).1, at_) := by
  unfold rdA
  cases m with
  | nil => exact absurd rfl hm
  | cons a r => rw [List.length_cons, rdF, if_neg h0, if_neg h1, if_neg h4]
theorem rd_A (l : List UInt8) : rd l = if l = [] then ([], 0, 3, 0) else if l.getD 0 0 = 39 ∨ l.getD 0 0 = 34 then rdA (l.getD 0 0) (l.drop 1) 1 [] else ([], 0, 3, 0) := by
  unfold rd rdA
  split
  · rfl
  split
  · exact rdF_fuel _ _ _ (by rw [List.length_drop]; omega) _ _
  · rfl

/-! ### the steps, by the first byte -/
theorem stp_quote (q : UInt8) (m : List UInt8) (h : m ≠ []) (hq : m.getD 0 0 = q) (h2 : ¬ (q = 39 ∧ 1 < m.length ∧ m.getD 1 0 = 39)) : stp q m = (0, [], 1) := by
  unfold stp; rw [if_neg h, if_pos hq, if_neg h2]
theorem stp_twice (m : List UInt8) (h : m ≠ []) (hq : m.getD 0 0 = 39) (h1 : 1 < m.length) (h2 : m.getD 1 0 = 39) : stp 39 m = (1, [39], 2) := by
  unfold stp; rw [if_neg h, if_pos hq, if_pos ⟨rfl, h1, h2⟩]
theorem stp_other (q : UInt8) (m : List UInt8) (h : m ≠ []) (hq : m.getD 0 0 ≠ q) (h2 : ¬ (q = 34 ∧ m.getD 0 0 = 92)) : stp q m = if may (fst m).1 = true then (1, m.take (fk m), fk m) else (8, [], 0) := by
  unfold stp; rw [if_neg h, if_neg hq, if_neg h2]
theorem stp_escape (m : List UInt8) (h : m ≠ []) (hq : m.getD 0 0 = 92) : stp 34 m = if (escR m).2.2 = 0 then (1, u8s (byt (escR m).1), (escR m).2.1) else ((escR m).2.2, [], 0) := by
  unfold stp; rw [if_neg h, if_neg (by rw [hq]; decide), if_pos ⟨rfl, hq⟩]
theorem fst_39 (r : List UInt8) : fst (39 :: r) = (39, 1) ∧ fk (39 :: r) = 1 := by
  have h := fst_enc (n := 39) (by decide) r
  have h2 := fk_enc (n := 39) (by decide) r
  rw [u8s_39] at h h2
  exact ⟨h, h2⟩
end Go.Proofs.YtiipndfogofhgaaDoor.Quo
