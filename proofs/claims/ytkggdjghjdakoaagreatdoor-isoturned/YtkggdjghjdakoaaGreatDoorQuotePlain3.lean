/- What is read in quotes is a text; what is put in double quotes is printable; a quoted text that is cut off: plain facts. -/
import Derived.Test.YtkggdjghjdakoaaGreatDoorQuotePlain2
namespace Go.Proofs.YtkggdjghjdakoaaGreatDoor.Quo
open Utf
set_option linter.unusedSimpArgs false
set_option linter.unusedVariables false

/-! ### what is read is a text -/
theorem hexR_len : ∀ (k : Nat) (l : List UInt8) (acc : Int), (hexR k l acc).2 = 0 → k ≤ l.length
  | 0, _, _, _ => Nat.zero_le _
  | k + 1, [], acc, h => by simp [hexR] at h
  | k + 1, c :: r, acc, h => by
    rw [hexR] at h
    split at h
    · simp at h
    · have := hexR_len k r _ h
      simp only [List.length_cons]
      omega
theorem escH_ok {l : List UInt8} {k : Nat} (hl : 2 ≤ l.length) (h : (escH l k).2.2 = 0) : sgn (escH l k).1 = true ∧ 1 ≤ (escH l k).2.1 ∧ (escH l k).2.1 ≤ l.length := by
  unfold escH at h ⊢
  by_cases h1 : (hexR k (l.drop 2) 0).2 = 0
  · rw [if_pos h1] at h ⊢
    by_cases h2 : sgn (hexR k (l.drop 2) 0).1 = true
    · rw [if_pos h2]
      have := hexR_len _ _ _ h1
      rw [List.length_drop] at this
      refine ⟨h2, ?_, ?_⟩ <;> simp only <;> omega
    · rw [if_neg h2] at h; simp at h
  · rw [if_neg h1] at h
    exact absurd h h1
theorem escR_ok {l : List UInt8} (h : (escR l).2.2 = 0) : sgn (escR l).1 = true ∧ 1 ≤ (escR l).2.1 ∧ (escR l).2.1 ≤ l.length := by
  unfold escR at h ⊢
  by_cases hl : l.length < 2
  · rw [if_pos hl] at h; simp at h
  rw [if_neg hl] at h ⊢
  generalize l.getD 1 0 = c at *
  by_cases h1 : c = 34
  · rw [if_pos h1]; exact ⟨by decide, by decide, by simp only; omega⟩
  rw [if_neg h1] at h ⊢
  by_cases h2 : c = 92
  · rw [if_pos h2]; exact ⟨by decide, by decide, by simp only; omega⟩
  rw [if_neg h2] at h ⊢
  by_cases h3 : c = 110
  · rw [if_pos h3]; exact ⟨by decide, by decide, by simp only; omega⟩
  rw [if_neg h3] at h ⊢
  by_cases h4 : c = 116
  · rw [if_pos h4]; exact ⟨by decide, by decide, by simp only; omega⟩
  rw [if_neg h4] at h ⊢
  by_cases h5 : c = 114
  · rw [if_pos h5]; exact ⟨by decide, by decide, by simp only; omega⟩
  rw [if_neg h5] at h ⊢
  by_cases h6 : c = 48
  · rw [if_pos h6]; exact ⟨by decide, by decide, by simp only; omega⟩
  rw [if_neg h6] at h ⊢
  by_cases h7 : c = 120
  · rw [if_pos h7] at h ⊢; exact escH_ok (by omega) h
  rw [if_neg h7] at h ⊢
  by_cases h8 : c = 117
  · rw [if_pos h8] at h ⊢; exact escH_ok (by omega) h
  rw [if_neg h8] at h ⊢
  by_cases h9 : c = 85
  · rw [if_pos h9] at h ⊢; exact escH_ok (by omega) h
  rw [if_neg h9] at h
  simp at h
theorem hexR_ne : ∀ (k : Nat) (l : List UInt8) (acc : Int), (hexR k l acc).2 ≠ 1
  | 0, l, acc => by simp [hexR]
  | k + 1, [], acc => by simp [hexR]
  | k + 1, c :: r, acc => by
    rw [hexR]
    split
    · simp
    · exact hexR_ne k r _
theorem ite_ne {p : Prop} [Decidable p] {a b : Int × Nat × Nat} (ha : a.2.2 ≠ 1) (hb : b.2.2 ≠ 1) : (if p then a else b).2.2 ≠ 1 := by split <;> assumption
theorem escH_ne (l : List UInt8) (k : Nat) : (escH l k).2.2 ≠ 1 := by
  unfold escH
  exact ite_ne (ite_ne (by simp) (by simp)) (hexR_ne k _ _)
theorem escR_ne (l : List UInt8) : (escR l).2.2 ≠ 1 := by
  unfold escR
  exact ite_ne (by simp) (ite_ne (by simp) (ite_ne (by simp) (ite_ne (by simp) (ite_ne (by simp) (ite_ne (by simp) (ite_ne (by simp) (ite_ne (escH_ne l 2) (ite_ne (escH_ne l 4) (ite_ne (escH_ne l 8) (by simp))))))))))
theorem may_fst {l : List UInt8} (h : may (fst l).1 = true) : 0 ≤ (fst l).1 := by
  have := (fst_bd l).1
  by_cases e : (fst l).1 = -1
  · rw [e, may_neg] at h; cases h
  · omega
theorem stp_out {q : UInt8} {l : List UInt8} (h : (stp q l).1 = 1) : ∃ n, sgn n = true ∧ (stp q l).2.1 = u8s (byt n) ∧ 1 ≤ (stp q l).2.2 ∧ (stp q l).2.2 ≤ l.length := by
  unfold stp at h ⊢
  by_cases h1 : l = []
  · rw [if_pos h1] at h; simp at h
  rw [if_neg h1] at h ⊢
  by_cases h2 : l.getD 0 0 = q
  · rw [if_pos h2] at h ⊢
    by_cases h3 : q = 39 ∧ 1 < l.length ∧ l.getD 1 0 = 39
    · rw [if_pos h3]
      exact ⟨39, by decide, u8s_39.symm, by decide, by simp only; omega⟩
    · rw [if_neg h3] at h; simp at h
  rw [if_neg h2] at h ⊢
  by_cases h4 : q = 34 ∧ l.getD 0 0 = 92
  · rw [if_pos h4] at h ⊢
    by_cases h5 : (escR l).2.2 = 0
    · rw [if_pos h5]
      obtain ⟨a, b, c⟩ := escR_ok h5
      exact ⟨_, a, rfl, b, c⟩
    · rw [if_neg h5] at h
      exact absurd h (escR_ne l)
  rw [if_neg h4] at h ⊢
  by_cases h6 : may (fst l).1 = true
  · rw [if_pos h6]
    have h0 := may_fst h6
    obtain ⟨s1, s2, s3⟩ := fst_sound l h0
    have hk : fk l = (byt (fst l).1).length := by unfold fk; rw [s2]; simp
    have hp := fk_pos l h1
    refine ⟨_, s1, ?_, hp.1, hp.2.1⟩
    simp only
    rw [hk]
    have e : (u8s (byt (fst l).1)).length = (byt (fst l).1).length := u8s_len _
    generalize u8s (byt (fst l).1) = U at *
    generalize (byt (fst l).1).length = B at *
    rw [s3, ← e, List.take_left]
  · rw [if_neg h6] at h; simp at h
theorem rdF_means (q : UInt8) : ∀ (f : Nat) (l : List UInt8) (at_ : Nat) (out : List UInt8), (∃ zs, allS zs = true ∧ out = u8s (bytes zs)) → (rdF q f l at_ out).2.2.1 = 0 →
    (∃ zs, allS zs = true ∧ (rdF q f l at_ out).1 = u8s (bytes zs)) ∧ at_ + 1 ≤ (rdF q f l at_ out).2.1 ∧ (rdF q f l at_ out).2.1 ≤ at_ + l.length
  | 0, l, at_, out, ho, h => by simp [rdF] at h
  | f + 1, l, at_, out, ho, h => by
    rw [rdF] at h ⊢
    by_cases h1 : (stp q l).1 = 0
    · rw [if_pos h1]
      refine ⟨ho, Nat.le_refl _, ?_⟩
      have : l ≠ [] := by rintro rfl; simp [stp] at h1
      have := List.length_pos_iff.2 this
      simp only
      omega
    rw [if_neg h1] at h ⊢
    by_cases h2 : (stp q l).1 = 1
    · rw [if_pos h2] at h ⊢
      obtain ⟨n, hs, e, k1, k2⟩ := stp_out h2
      obtain ⟨zs, hz, ho⟩ := ho
      obtain ⟨a, b, c⟩ := rdF_means q f _ _ _ ⟨zs ++ [n], by unfold allS at hz ⊢; simp [hz, hs], by rw [ho, e]; simp [bytes, u8s]⟩ h
      rw [List.length_drop] at c
      exact ⟨a, by omega, by omega⟩
    rw [if_neg h2] at h
    split at h
    · simp at h
    · exact absurd h h1
/-- P7.3: what a quoted text means is a text -/
theorem rd_means (l : List UInt8) (h : (rd l).2.2.1 = 0) : (dec (rd l).1).2 = none ∧ 2 ≤ (rd l).2.1 ∧ (rd l).2.1 ≤ l.length := by
  unfold rd at h ⊢
  by_cases h1 : l = []
  · rw [if_pos h1] at h; simp at h
  rw [if_neg h1] at h ⊢
  by_cases h2 : l.getD 0 0 = 39 ∨ l.getD 0 0 = 34
  · rw [if_pos h2] at h ⊢
    obtain ⟨⟨zs, hz, e⟩, b, c⟩ := rdF_means _ _ _ _ [] ⟨[], rfl, rfl⟩ h
    have hp := List.length_pos_iff.2 h1
    rw [List.length_drop] at c
    refine ⟨?_, b, by omega⟩
    rw [e, (dec_enc zs hz).1]
  · rw [if_neg h2] at h; simp at h
theorem rdF_none (q : UInt8) : ∀ (f : Nat) (l : List UInt8) (at_ : Nat) (out : List UInt8), (rdF q f l at_ out).2.2.1 ≠ 0 → (rdF q f l at_ out).1 = [] ∧ (rdF q f l at_ out).2.1 = 0
  | 0, l, at_, out, h => ⟨rfl, rfl⟩
  | f + 1, l, at_, out, h => by
    rw [rdF] at h ⊢
    by_cases h1 : (stp q l).1 = 0
    · rw [if_pos h1] at h; exact absurd rfl h
    rw [if_neg h1] at h ⊢
    by_cases h2 : (stp q l).1 = 1
    · rw [if_pos h2] at h ⊢; exact rdF_none q f _ _ _ h
    rw [if_neg h2] at h ⊢
    split <;> exact ⟨rfl, rfl⟩
theorem rd_none (l : List UInt8) (h : (rd l).2.2.1 ≠ 0) : (rd l).1 = [] ∧ (rd l).2.1 = 0 := by
  unfold rd at h ⊢
  split
  · exact ⟨rfl, rfl⟩
  rename_i h1
  rw [if_neg h1] at h
  split
  · rename_i h2
    rw [if_pos h2] at h
    exact rdF_none _ _ _ _ _ h
  · exact ⟨rfl, rfl⟩

/-! ### printable -/
theorem chk_sign {n : Int} (hs : sgn n = true) (hp : prn n = true) (r : List UInt8) : chk (u8s (byt n) ++ r) = none ↔ chk r = none := by
  rw [chk_next _ (enc_ne r), fst_enc hs r, if_pos hp, fk_enc hs r, drop_enc, Option.map_eq_none_iff]
theorem one_byt {b : UInt8} (h : b.toNat < 128) : u8s (byt (b.toNat : Int)) = [b] := by
  unfold byt
  rw [if_pos (by omega)]
  simp [u8s]
theorem chk_asc : ∀ (e r : List UInt8), (∀ b ∈ e, 32 ≤ b.toNat ∧ b.toNat ≤ 126) → (chk (e ++ r) = none ↔ chk r = none)
  | [], r, _ => Iff.rfl
  | b :: e, r, h => by
    have hb := h b (by simp)
    have e1 : (b :: e) ++ r = u8s (byt (b.toNat : Int)) ++ (e ++ r) := by rw [one_byt (by omega)]; rfl
    rw [e1, chk_sign (by unfold sgn inR; simp; omega) (by unfold prn inR; simp; omega)]
    exact chk_asc e r fun x hx => h x (by simp [hx])
theorem hxd_asc : ∀ d : Fin 16, 32 ≤ (hxd d.1).toNat ∧ (hxd d.1).toNat ≤ 126 := by decide
theorem hexL_asc : ∀ (k n : Nat), ∀ b ∈ hexL k n, 32 ≤ b.toNat ∧ b.toNat ≤ 126
  | 0, n, b, h => by cases h
  | k + 1, n, b, h => by
    rcases List.mem_cons.1 h with rfl | h
    · exact hxd_asc ⟨n / 16 ^ k % 16, Nat.mod_lt _ (by decide)⟩
    · exact hexL_asc k n b h
theorem asc_two {a : UInt8} (h : 32 ≤ a.toNat ∧ a.toNat ≤ 126) (k n : Nat) : ∀ b ∈ 92 :: a :: hexL k n, 32 ≤ b.toNat ∧ b.toNat ≤ 126 := by
  intro b hb
  rcases List.mem_cons.1 hb with rfl | hb
  · decide
  rcases List.mem_cons.1 hb with rfl | hb
  · exact h
  · exact hexL_asc k n b hb
theorem chk_esc {n : Int} (hs : sgn n = true) (r : List UInt8) : chk (esc n ++ r) = none ↔ chk r = none := by
  unfold esc
  split
  · exact chk_asc _ _ (by decide)
  split
  · exact chk_asc _ _ (by decide)
  split
  · exact chk_asc _ _ (by decide)
  split
  · exact chk_asc _ _ (by decide)
  split
  · exact chk_asc _ _ (by decide)
  split
  · exact chk_asc _ _ (by decide)
  split
  · rename_i hm; exact chk_sign hs (may_prn hm).1 r
  split
  · exact chk_asc _ _ (asc_two (by decide) 2 _)
  split
  · exact chk_asc _ _ (asc_two (by decide) 4 _)
  · exact chk_asc _ _ (asc_two (by decide) 8 _)
theorem chk_escs : ∀ (zs : List Int) (r : List UInt8), (∀ n ∈ zs, sgn n = true) → (chk (escs zs ++ r) = none ↔ chk r = none)
  | [], r, _ => Iff.rfl
  | n :: zs, r, h => by
    have e : escs (n :: zs) ++ r = esc n ++ (escs zs ++ r) := by simp [escs]
    rw [e, chk_esc (h n (by simp))]
    exact chk_escs zs r fun m hm => h m (by simp [hm])
/-- all that is told is printable -/
theorem chk_dbl (l : List UInt8) (h : (dec l).2 = none) : chk (dbl l) = none := by
  obtain ⟨h1, h2⟩ := (dec_sound l.length l (Nat.le_refl _)).1 h
  have h3 : ∀ n ∈ (dec l).1, sgn n = true := fun n hn => by unfold allS at h1; exact List.all_eq_true.1 h1 n hn
  have e : dbl l = [34] ++ (escs (dec l).1 ++ [34]) := rfl
  rw [e, chk_asc _ _ (by decide), chk_escs _ _ h3]
  decide
end Go.Proofs.YtkggdjghjdakoaaGreatDoor.Quo
