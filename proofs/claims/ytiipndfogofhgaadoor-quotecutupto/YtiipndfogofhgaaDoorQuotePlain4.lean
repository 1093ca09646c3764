/- A quoted text that is cut off: plain facts. -/
import Derived.Test.YtiipndfogofhgaaDoorQuotePlain3
namespace Go.Proofs.YtiipndfogofhgaaDoor.Quo
open Utf
set_option linter.unusedSimpArgs false
set_option linter.unusedVariables false

theorem hexR_short : ∀ (k n j : Nat) (acc : Nat), j < k → hexR k ((hexL k n).take j) (acc : Int) = (0, 4)
  | 0, n, j, acc, h => by omega
  | k + 1, n, 0, acc, h => by simp [hexR]
  | k + 1, n, j + 1, acc, h => by
    have hd := dig_hxd ⟨n / 16 ^ k % 16, Nat.mod_lt _ (by decide)⟩
    simp only at hd
    have e : (hexL (k + 1) n).take (j + 1) = hxd (n / 16 ^ k % 16) :: (hexL k n).take j := rfl
    rw [e, hexR, hd, if_neg (by omega)]
    have e2 : ((acc : Int) * 16 + ((n / 16 ^ k % 16 : Nat) : Int)) = ((acc * 16 + n / 16 ^ k % 16 : Nat) : Int) := by omega
    rw [e2]
    exact hexR_short k n j _ (by omega)
theorem rdF_nil (q : UInt8) (f at_ : Nat) (out : List UInt8) : rdF q f [] at_ out = ([], 0, 4, at_) := by
  cases f with
  | zero => simp [rdF]
  | succ f => simp [rdF, stp]
theorem rdF_four {q : UInt8} {l : List UInt8} (h : (stp q l).1 = 4) (f at_ : Nat) (out : List UInt8) : rdF q f l at_ out = ([], 0, 4, at_ + l.length) := by
  cases f with
  | zero => simp [rdF]
  | succ f => rw [rdF, h]; simp
theorem stp_four {l : List UInt8} (h : l.getD 0 0 = 92) (h1 : l ≠ []) (h2 : (escR l).2.2 = 4) : (stp 34 l).1 = 4 := by
  unfold stp
  rw [if_neg h1, h, if_neg (by decide), if_pos ⟨rfl, rfl⟩, h2, if_neg (by decide)]
theorem escR_one : (escR [92]).2.2 = 4 := by decide
theorem escH_short {n k j : Nat} (c : UInt8) (h : j < k) : (escH (92 :: c :: (hexL k n).take j) k).2.2 = 4 := by
  unfold escH
  have e : (92 :: c :: (hexL k n).take j).drop 2 = (hexL k n).take j := rfl
  have q := hexR_short k n j 0 h
  have q2 : hexR k ((hexL k n).take j) 0 = (0, 4) := q
  rw [e, q2]
  simp
/-- an escape of digits, cut off -/
theorem hex_cut {n k a : Nat} (c : UInt8) (hc : c = 120 ∧ k = 2 ∨ c = 117 ∧ k = 4 ∨ c = 85 ∧ k = 8) (h1 : 1 ≤ a) (h2 : a < 2 + k) : (stp 34 ((92 :: c :: hexL k n).take a)).1 = 4 := by
  obtain ⟨a, rfl⟩ : ∃ b, a = b + 1 := ⟨a - 1, by omega⟩
  cases a with
  | zero => exact stp_four rfl (by simp) escR_one
  | succ j =>
    have e : (92 :: c :: hexL k n).take (j + 1 + 1) = 92 :: c :: (hexL k n).take j := rfl
    rw [e]
    refine stp_four rfl (by simp) ?_
    have q := escH_short (n := n) (k := k) (j := j) c (by omega)
    unfold escR
    rw [if_neg (escR_long _ (by simp))]
    have hg : (92 :: c :: (hexL k n).take j).getD 1 0 = c := rfl
    rw [hg]
    rcases hc with ⟨rfl, rfl⟩ | ⟨rfl, rfl⟩ | ⟨rfl, rfl⟩
    · simp only [show (120 : UInt8) ≠ 34 by decide, show (120 : UInt8) ≠ 92 by decide, show (120 : UInt8) ≠ 110 by decide, show (120 : UInt8) ≠ 116 by decide, show (120 : UInt8) ≠ 114 by decide, show (120 : UInt8) ≠ 48 by decide, if_false, if_true]
      exact q
    · simp only [show (117 : UInt8) ≠ 34 by decide, show (117 : UInt8) ≠ 92 by decide, show (117 : UInt8) ≠ 110 by decide, show (117 : UInt8) ≠ 116 by decide, show (117 : UInt8) ≠ 114 by decide, show (117 : UInt8) ≠ 48 by decide, show (117 : UInt8) ≠ 120 by decide, if_false, if_true]
      exact q
    · simp only [show (85 : UInt8) ≠ 34 by decide, show (85 : UInt8) ≠ 92 by decide, show (85 : UInt8) ≠ 110 by decide, show (85 : UInt8) ≠ 116 by decide, show (85 : UInt8) ≠ 114 by decide, show (85 : UInt8) ≠ 48 by decide, show (85 : UInt8) ≠ 120 by decide, show (85 : UInt8) ≠ 117 by decide, if_false, if_true]
      exact q
theorem two_cut {c : UInt8} {a : Nat} (h1 : 1 ≤ a) (h2 : a < 2) : (stp 34 (([92, c] : List UInt8).take a)).1 = 4 := by
  obtain rfl : a = 1 := by omega
  exact stp_four rfl (by simp) escR_one
/-- within a sign's bytes stands none that begins one -/
theorem sign_cut {n : Int} (hs : sgn n = true) (r : List UInt8) {a : Nat} (h1 : 1 ≤ a) (h2 : a < (byt n).length) : isRestB ((u8s (byt n) ++ r).getD a 0) = true := by
  have hb := sgn_bd hs
  obtain ⟨c, t, e, ha, hc⟩ := head_byt hb.1 hb.2.1
  have hl : t.length + 1 = (byt n).length := by rw [← u8s_len (byt n), e]; rfl
  by_cases hn : n < 128
  · rw [(ha hn).2] at hl
    simp at hl
    omega
  · obtain ⟨a, rfl⟩ : ∃ b, a = b + 1 := ⟨a - 1, by omega⟩
    have hx : (u8s (byt n) ++ r).getD (a + 1) 0 = t[a]'(by omega) := by
      rw [e, List.getD_eq_getElem?_getD]
      simp only [List.cons_append, List.getElem?_cons_succ]
      rw [List.getElem?_append_left (by omega), List.getElem?_eq_getElem (by omega)]
      rfl
    rw [hx]
    have := (hc (by omega)).2 _ (List.getElem_mem (by omega : a < t.length))
    unfold isRestB
    simp
    omega
theorem esc_cut {n : Int} (hs : sgn n = true) (r : List UInt8) {a : Nat} (h1 : 1 ≤ a) (h2 : a < (esc n).length) (h3 : isRestB ((esc n ++ r).getD a 0) = false) : (stp 34 ((esc n).take a)).1 = 4 := by
  unfold esc at h2 h3 ⊢
  split
  · rename_i h; rw [if_pos h] at h2; exact two_cut h1 h2
  rename_i g1; rw [if_neg g1] at h2 h3
  split
  · rename_i h; rw [if_pos h] at h2; exact two_cut h1 h2
  rename_i g2; rw [if_neg g2] at h2 h3
  split
  · rename_i h; rw [if_pos h] at h2; exact two_cut h1 h2
  rename_i g3; rw [if_neg g3] at h2 h3
  split
  · rename_i h; rw [if_pos h] at h2; exact two_cut h1 h2
  rename_i g4; rw [if_neg g4] at h2 h3
  split
  · rename_i h; rw [if_pos h] at h2; exact two_cut h1 h2
  rename_i g5; rw [if_neg g5] at h2 h3
  split
  · rename_i h; rw [if_pos h] at h2; exact two_cut h1 h2
  rename_i g6; rw [if_neg g6] at h2 h3
  split
  · rename_i h
    rw [if_pos h] at h2 h3
    rw [u8s_len] at h2
    rw [sign_cut hs r h1 h2] at h3
    cases h3
  rename_i g7; rw [if_neg g7] at h2 h3
  split
  · rename_i h
    rw [if_pos h] at h2
    simp only [List.length_cons, hexL_len] at h2
    exact hex_cut 120 (.inl ⟨rfl, rfl⟩) h1 (by omega)
  rename_i g8; rw [if_neg g8] at h2 h3
  split
  · rename_i h
    rw [if_pos h] at h2
    simp only [List.length_cons, hexL_len] at h2
    exact hex_cut 117 (.inr (.inl ⟨rfl, rfl⟩)) h1 (by omega)
  rename_i g9; rw [if_neg g9] at h2 h3
  simp only [List.length_cons, hexL_len] at h2
  exact hex_cut 85 (.inr (.inr ⟨rfl, rfl⟩)) h1 (by omega)
theorem getD_right (e r : List UInt8) (a : Nat) (h : e.length ≤ a) : (e ++ r).getD a 0 = r.getD (a - e.length) 0 := by
  rw [List.getD_eq_getElem?_getD, List.getElem?_append_right h, ← List.getD_eq_getElem?_getD]
theorem take_right (e r : List UInt8) (a : Nat) (h : e.length ≤ a) : (e ++ r).take a = e ++ r.take (a - e.length) := by
  rw [List.take_append, List.take_of_length_le h]
theorem take_left_ (e r : List UInt8) (a : Nat) (h : a ≤ e.length) : (e ++ r).take a = e.take a := List.take_append_of_le_length h
theorem rdF_cutD : ∀ (zs : List Int), (∀ n ∈ zs, sgn n = true) → ∀ (a : Nat), a ≤ (escs zs).length → isRestB ((escs zs ++ [34]).getD a 0) = false → ∀ (f at_ : Nat) (out : List UInt8), rdF 34 f ((escs zs ++ [34]).take a) at_ out = ([], 0, 4, at_ + a)
  | zs, hz, 0, _, _, f, at_, out => by rw [List.take_zero, rdF_nil]; rfl
  | [], hz, a + 1, ha, _, f, at_, out => by simp [escs] at ha
  | n :: zs, hz, a + 1, ha, hr, f, at_, out => by
    have e : escs (n :: zs) = esc n ++ escs zs := rfl
    rw [e, List.append_assoc] at hr ⊢
    rw [e, List.length_append] at ha
    have hs := hz n (by simp)
    by_cases h : (esc n).length ≤ a + 1
    · rw [getD_right _ _ _ h] at hr
      rw [take_right _ _ _ h]
      cases f with
      | zero =>
        simp only [rdF, List.length_append, List.length_take]
        simp
        omega
      | succ f =>
        rw [rdF_item (stp_dbl hs _), rdF_cutD zs (fun m hm => hz m (by simp [hm])) (a + 1 - (esc n).length) (by omega) hr]
        refine Prod.ext rfl (Prod.ext rfl (Prod.ext rfl ?_))
        simp only
        omega
    · rw [take_left_ _ _ _ (by omega), rdF_four (esc_cut hs _ (by omega) (by omega) hr), List.length_take]
      refine Prod.ext rfl (Prod.ext rfl (Prod.ext rfl ?_))
      simp only
      omega
/-- double quotes, cut off: they end too early -/
theorem rd_cutD (l : List UInt8) (h : (dec l).2 = none) (a : Nat) (h1 : 1 ≤ a) (h2 : a < (dbl l).length) (h3 : isRestB ((dbl l).getD a 0) = false) : rd ((dbl l).take a) = ([], 0, 4, a) := by
  obtain ⟨g1, g2⟩ := (dec_sound l.length l (Nat.le_refl _)).1 h
  have g3 : ∀ n ∈ (dec l).1, sgn n = true := fun n hn => by unfold allS at g1; exact List.all_eq_true.1 g1 n hn
  obtain ⟨a, rfl⟩ : ∃ b, a = b + 1 := ⟨a - 1, by omega⟩
  have e : (dbl l).take (a + 1) = 34 :: (escs (dec l).1 ++ [34]).take a := rfl
  have e2 : (dbl l).getD (a + 1) 0 = (escs (dec l).1 ++ [34]).getD a 0 := rfl
  have e3 : (dbl l).length = (escs (dec l).1).length + 2 := by simp [dbl]
  rw [e2] at h3
  rw [e]
  unfold rd
  rw [if_neg (by simp), if_pos (.inr rfl)]
  refine Eq.trans (rdF_cutD _ g3 a (by omega) h3 _ _ _) ?_
  rw [Nat.add_comm]
/-- single quotes, cut off -/
theorem rdF_cutS : ∀ (zs : List Int), (∀ n ∈ zs, sgn n = true ∧ may n = true) → ∀ (a : Nat), a ≤ (dup (u8s (bytes zs))).length → isRestB ((dup (u8s (bytes zs)) ++ [39]).getD a 0) = false → ∀ (f at_ : Nat) (out : List UInt8),
    rdF 39 f ((dup (u8s (bytes zs)) ++ [39]).take a) at_ out = ([], 0, 4, at_ + a) ∨ ∃ z1 z2, zs = z1 ++ 39 :: z2 ∧ rdF 39 f ((dup (u8s (bytes zs)) ++ [39]).take a) at_ out = (out ++ u8s (bytes z1), at_ + a, 0, 0)
  | zs, hz, 0, _, _, f, at_, out => .inl (by rw [List.take_zero, rdF_nil]; rfl)
  | [], hz, a + 1, ha, _, f, at_, out => by simp [bytes, u8s, dup] at ha
  | n :: zs, hz, a + 1, ha, hr, f, at_, out => by
    obtain ⟨hs, hm⟩ := hz n (by simp)
    rw [bytes_cons, dup_app, List.append_assoc] at hr ⊢
    rw [bytes_cons, dup_app, List.length_append] at ha
    cases f with
    | zero =>
      refine .inl ?_
      simp only [rdF, List.length_append, List.length_take]
      simp
      omega
    | succ f =>
    have hst : ∀ r, stp 39 (dup (u8s (byt n)) ++ r) = (1, u8s (byt n), (dup (u8s (byt n))).length) := by
      intro r
      rw [sign_39 hs]
      split
      · rename_i e
        subst e
        rw [stp_two, u8s_39]; rfl
      · rename_i e
        rw [stp_sign hs hm 39 (.inl rfl) e (fun q => by cases q), u8s_len]
    by_cases h : (dup (u8s (byt n))).length ≤ a + 1
    · rw [getD_right _ _ _ h] at hr
      rw [take_right _ _ _ h, rdF_item (hst _)]
      rcases rdF_cutS zs (fun m hm => hz m (by simp [hm])) (a + 1 - (dup (u8s (byt n))).length) (by omega) hr f (at_ + (dup (u8s (byt n))).length) (out ++ u8s (byt n)) with q | ⟨z1, z2, q1, q2⟩
      · refine .inl ?_
        rw [q]
        refine Prod.ext rfl (Prod.ext rfl (Prod.ext rfl ?_))
        simp only
        omega
      · refine .inr ⟨n :: z1, z2, by rw [q1]; rfl, ?_⟩
        rw [q2, bytes_cons]
        refine Prod.ext (by simp) (Prod.ext ?_ rfl)
        simp only
        omega
    · by_cases h39 : n = 39
      · subst h39
        have e : dup (u8s (byt 39)) = [39, 39] := by decide
        rw [e] at h ⊢
        have ha1 : a = 0 := by simp at h; omega
        subst ha1
        refine .inr ⟨[], zs, rfl, ?_⟩
        have e2 : ([39, 39] ++ (dup (u8s (bytes zs)) ++ [39])).take (0 + 1) = [39] := rfl
        rw [e2, rdF_end (by rw [stp_end 39 [] (fun _ => by simp)])]
        simp [bytes, u8s]
      · exfalso
        have e : dup (u8s (byt n)) = u8s (byt n) := by rw [sign_39 hs, if_neg h39]
        rw [e] at h hr
        rw [u8s_len] at h
        rw [sign_cut hs _ (by omega) (by omega)] at hr
        cases hr
theorem rd_cutS (l : List UInt8) (h : smp l = true) (a : Nat) (h1 : 1 ≤ a) (h2 : a < (sng l).length) (h3 : isRestB ((sng l).getD a 0) = false) :
    rd ((sng l).take a) = ([], 0, 4, a) ∨ ∃ t s, l = t ++ 39 :: s ∧ rd ((sng l).take a) = (t, a, 0, 0) := by
  unfold smp at h
  rw [Bool.and_eq_true, List.all_eq_true, Option.isNone_iff_eq_none] at h
  obtain ⟨g1, g2⟩ := (dec_sound l.length l (Nat.le_refl _)).1 h.2
  have g3 : ∀ n ∈ (dec l).1, sgn n = true ∧ may n = true := fun n hn => ⟨by unfold allS at g1; exact List.all_eq_true.1 g1 n hn, h.1 n hn⟩
  obtain ⟨a, rfl⟩ : ∃ b, a = b + 1 := ⟨a - 1, by omega⟩
  have e : (sng l).take (a + 1) = 39 :: (dup l ++ [39]).take a := rfl
  have e2 : (sng l).getD (a + 1) 0 = (dup l ++ [39]).getD a 0 := rfl
  have e3 : (sng l).length = (dup l).length + 2 := by simp [sng]
  rw [e2] at h3
  rw [e]
  have key : rd (39 :: (dup l ++ [39]).take a) = rdF 39 (39 :: (dup l ++ [39]).take a).length ((dup l ++ [39]).take a) 1 [] := by
    unfold rd
    rw [if_neg (by simp), if_pos (.inl rfl)]
    rfl
  rw [key]
  have q := rdF_cutS _ g3 a (by rw [g2]; omega) (by rw [g2]; exact h3) (39 :: (dup l ++ [39]).take a).length 1 []
  rw [g2] at q
  rcases q with q | ⟨z1, z2, q1, q2⟩
  · exact .inl (by rw [q, Nat.add_comm])
  · refine .inr ⟨u8s (bytes z1), u8s (bytes z2), ?_, ?_⟩
    · rw [← g2, q1]
      have : u8s (bytes (z1 ++ 39 :: z2)) = u8s (bytes z1) ++ u8s (bytes (39 :: z2)) := by simp [bytes, u8s]
      rw [this, bytes_cons, u8s_39]
      rfl
    · rw [q2, Nat.add_comm]; rfl
end Go.Proofs.YtiipndfogofhgaaDoor.Quo
