/- What is put in quotes is read, whatever stands behind: plain facts. -/
import Derived.Test.YtkggdjghjdakoaaGreatDoorQuotePlain
namespace Go.Proofs.YtkggdjghjdakoaaGreatDoor.Quo
open Utf
set_option linter.unusedSimpArgs false
set_option linter.unusedVariables false

theorem rdF_item {q : UInt8} {e r o : List UInt8} (h : stp q (e ++ r) = (1, o, e.length)) (f at_ : Nat) (out : List UInt8) : rdF q (f + 1) (e ++ r) at_ out = rdF q f r (at_ + e.length) (out ++ o) := by
  rw [rdF, h]
  simp only [if_neg (show ¬ (1 = 0) by decide), if_pos, List.drop_left]
theorem rdF_end {q : UInt8} {l : List UInt8} (h : (stp q l).1 = 0) (f at_ : Nat) (out : List UInt8) : rdF q (f + 1) l at_ out = (out, at_ + 1, 0, 0) := by
  rw [rdF, if_pos h]
theorem stp_two (r : List UInt8) : stp 39 ([39, 39] ++ r) = (1, [39], 2) := by
  unfold stp
  simp
theorem stp_end (q : UInt8) (r : List UInt8) (h : q = 39 → r.head? ≠ some 39) : stp q (q :: r) = (0, [], 1) := by
  unfold stp
  have hg : (q :: r).getD 0 0 = q := rfl
  rw [if_neg (by simp), hg, if_pos rfl]
  rw [if_neg]
  rintro ⟨h1, h2, h3⟩
  refine h h1 ?_
  cases r with
  | nil => simp at h2
  | cons a r => simp at h3; simp [h3]

/-! ### single quotes -/
theorem dup_app (a b : List UInt8) : dup (a ++ b) = dup a ++ dup b := by simp [dup]
theorem dup_none : ∀ {l : List UInt8}, (∀ x ∈ l, x ≠ 39) → dup l = l
  | [], _ => rfl
  | a :: l, h => by
    have e : dup (a :: l) = (if a == 39 then [39, 39] else [a]) ++ dup l := rfl
    rw [e, if_neg (by simpa using h a (by simp)), dup_none (fun x hx => h x (by simp [hx]))]
    rfl
theorem u8s_39 : u8s (byt 39) = [39] := by decide
theorem sign_39 {n : Int} (hs : sgn n = true) : dup (u8s (byt n)) = if n = 39 then [39, 39] else u8s (byt n) := by
  split
  · rename_i h
    subst h
    decide
  · rename_i h
    have hb := sgn_bd hs
    obtain ⟨c, t, e, ha, hc⟩ := head_byt hb.1 hb.2.1
    refine dup_none ?_
    rw [e]
    intro x hx h39
    subst h39
    have e39 : (39 : UInt8).toNat = 39 := rfl
    by_cases hn : n < 128
    · obtain ⟨h1, h2⟩ := ha hn
      rw [h2] at hx
      simp at hx
      rw [← hx, e39] at h1
      exact h h1.symm
    · obtain ⟨h1, h2⟩ := hc (by omega)
      rcases List.mem_cons.1 hx with hx | hx
      · rw [← hx, e39] at h1; omega
      · have := h2 _ hx
        rw [e39] at this
        omega
theorem bytes_cons (n : Int) (zs : List Int) : u8s (bytes (n :: zs)) = u8s (byt n) ++ u8s (bytes zs) := by simp [bytes, u8s]
theorem u8s_len (l : List Int) : (u8s l).length = l.length := by simp [u8s]
theorem rdF_single : ∀ (zs : List Int), (∀ n ∈ zs, sgn n = true ∧ may n = true) → ∀ (rest : List UInt8), rest.head? ≠ some 39 → ∀ (f at_ : Nat) (out : List UInt8), (dup (u8s (bytes zs))).length + 1 ≤ f →
    rdF 39 f (dup (u8s (bytes zs)) ++ 39 :: rest) at_ out = (out ++ u8s (bytes zs), at_ + (dup (u8s (bytes zs))).length + 1, 0, 0)
  | [], _, rest, hr, f, at_, out, hf => by
    obtain ⟨f, rfl⟩ : ∃ g, f = g + 1 := ⟨f - 1, by omega⟩
    have e : dup (u8s (bytes [])) = [] := rfl
    rw [e, List.nil_append, rdF_end (by rw [stp_end 39 rest (fun _ => hr)])]
    simp [bytes, u8s]
  | n :: zs, h, rest, hr, f, at_, out, hf => by
    obtain ⟨hs, hm⟩ := h n (by simp)
    rw [bytes_cons, dup_app] at hf ⊢
    have h1 : 1 ≤ (dup (u8s (byt n))).length := by
      rw [sign_39 hs]
      split
      · simp
      · rw [u8s_len]; exact (byt_len n).1
    rw [List.length_append] at hf
    obtain ⟨f, rfl⟩ : ∃ g, f = g + 1 := ⟨f - 1, by omega⟩
    have hst : ∃ o, o = u8s (byt n) ∧ stp 39 (dup (u8s (byt n)) ++ (dup (u8s (bytes zs)) ++ 39 :: rest)) = (1, o, (dup (u8s (byt n))).length) := by
      rw [sign_39 hs]
      split
      · rename_i e
        subst e
        exact ⟨_, rfl, by rw [stp_two, u8s_39]; rfl⟩
      · rename_i e
        refine ⟨_, rfl, ?_⟩
        rw [stp_sign hs hm 39 (.inl rfl) e (fun q => by cases q), u8s_len]
    obtain ⟨o, ho, hst⟩ := hst
    rw [List.append_assoc, rdF_item hst, rdF_single zs (fun m hm => h m (by simp [hm])) rest hr f _ _ (by omega), ho]
    refine Prod.ext (by simp) (Prod.ext ?_ rfl)
    simp only [List.length_append]
    omega
/-- P7.3, P7.4: single quotes -/
theorem rd_single (l rest : List UInt8) (h : smp l = true) (hr : rest.head? ≠ some 39) : rd (sng l ++ rest) = (l, (sng l).length, 0, 0) := by
  unfold smp at h
  rw [Bool.and_eq_true, List.all_eq_true, Option.isNone_iff_eq_none] at h
  obtain ⟨h1, h2⟩ := (dec_sound l.length l (Nat.le_refl _)).1 h.2
  have h3 : ∀ n ∈ (dec l).1, sgn n = true ∧ may n = true := fun n hn => ⟨by unfold allS at h1; exact List.all_eq_true.1 h1 n hn, h.1 n hn⟩
  have e : sng l ++ rest = 39 :: (dup l ++ 39 :: rest) := by simp [sng]
  rw [e]
  have q := rdF_single _ h3 rest hr (39 :: (dup l ++ 39 :: rest)).length 1 [] (by rw [h2]; simp)
  rw [h2] at q
  unfold rd
  rw [if_neg (by simp), if_pos (.inl rfl)]
  refine Eq.trans q ?_
  simp [sng]
  omega

/-! ### double quotes -/
theorem dig_hxd : ∀ d : Fin 16, dig (hxd d.1) = (d.1 : Int) := by decide
theorem hexR_hexL : ∀ (k n : Nat) (r : List UInt8) (acc : Nat), hexR k (hexL k n ++ r) (acc : Int) = (((acc * 16 ^ k + n % 16 ^ k : Nat) : Int), 0)
  | 0, n, r, acc => by simp [hexR, hexL, Nat.mod_one]
  | k + 1, n, r, acc => by
    have hd := dig_hxd ⟨n / 16 ^ k % 16, Nat.mod_lt _ (by decide)⟩
    simp only at hd
    have e : hexL (k + 1) n ++ r = hxd (n / 16 ^ k % 16) :: (hexL k n ++ r) := rfl
    rw [e, hexR, hd, if_neg (by omega)]
    have e2 : ((acc : Int) * 16 + ((n / 16 ^ k % 16 : Nat) : Int)) = ((acc * 16 + n / 16 ^ k % 16 : Nat) : Int) := by omega
    rw [e2, hexR_hexL k n r]
    have e3 : (acc * 16 + n / 16 ^ k % 16) * 16 ^ k + n % 16 ^ k = acc * 16 ^ (k + 1) + n % 16 ^ (k + 1) := by
      rw [Nat.pow_succ, Nat.mod_mul, Nat.add_mul, Nat.mul_assoc, Nat.mul_comm 16 (16 ^ k), Nat.mul_comm (n / 16 ^ k % 16) (16 ^ k)]
      omega
    rw [e3]
theorem hexL_len : ∀ (k n : Nat), (hexL k n).length = k
  | 0, _ => rfl
  | k + 1, n => by simp [hexL, hexL_len k n]
theorem escH_read {n : Int} (hs : sgn n = true) (k : Nat) (hk : n.toNat < 16 ^ k) (c : UInt8) (r : List UInt8) : escH (92 :: c :: hexL k n.toNat ++ r) k = (n, 2 + k, 0) := by
  have hb := sgn_bd hs
  have e : (92 :: c :: hexL k n.toNat ++ r).drop 2 = hexL k n.toNat ++ r := rfl
  have q := hexR_hexL k n.toNat r 0
  rw [Nat.mod_eq_of_lt hk, Nat.zero_mul, Nat.zero_add] at q
  have q2 : hexR k (hexL k n.toNat ++ r) 0 = (n, 0) := by
    refine Eq.trans q ?_
    rw [Int.toNat_of_nonneg hb.1]
  unfold escH
  rw [e, q2]
  simp [hs]
theorem stp_esc {n : Int} {e r : List UInt8} (h0 : e.getD 0 0 = 92) (h1 : 2 ≤ e.length) (h : escR (e ++ r) = (n, e.length, 0)) : stp 34 (e ++ r) = (1, u8s (byt n), e.length) := by
  unfold stp
  have hne : e ++ r ≠ [] := by intro q; rw [(List.append_eq_nil_iff.1 q).1] at h1; simp at h1
  have hg : (e ++ r).getD 0 0 = 92 := by
    cases e with
    | nil => simp at h1
    | cons a e => exact h0
  rw [if_neg hne, hg, if_neg (by decide), if_pos ⟨rfl, rfl⟩, h, if_pos rfl]
theorem escR_long (l : List UInt8) (h : 2 ≤ l.length) : ¬ l.length < 2 := by omega
theorem stp_dbl {n : Int} (hs : sgn n = true) (r : List UInt8) : stp 34 (esc n ++ r) = (1, u8s (byt n), (esc n).length) := by
  have hb := sgn_bd hs
  unfold esc
  split
  · rename_i h; subst h; exact stp_esc rfl (by decide) (by unfold escR; simp)
  split
  · rename_i h; subst h; exact stp_esc rfl (by decide) (by unfold escR; simp)
  split
  · rename_i h; subst h; exact stp_esc rfl (by decide) (by unfold escR; simp)
  split
  · rename_i h; subst h; exact stp_esc rfl (by decide) (by unfold escR; simp)
  split
  · rename_i h; subst h; exact stp_esc rfl (by decide) (by unfold escR; simp)
  split
  · rename_i h; subst h; exact stp_esc rfl (by decide) (by unfold escR; simp)
  rename_i n34 n92 n9 n10 n13 n0
  split
  · rename_i hm
    rw [stp_sign hs hm 34 (.inr rfl) n34 (fun _ => n92), u8s_len]
  split
  · refine stp_esc rfl (by simp) ?_
    unfold escR
    rw [if_neg (escR_long _ (by simp))]
    have hg : (92 :: 120 :: hexL 2 n.toNat ++ r).getD 1 0 = 120 := rfl
    rw [hg]
    simp only [show (120 : UInt8) ≠ 34 by decide, show (120 : UInt8) ≠ 92 by decide, show (120 : UInt8) ≠ 110 by decide, show (120 : UInt8) ≠ 116 by decide, show (120 : UInt8) ≠ 114 by decide, show (120 : UInt8) ≠ 48 by decide, if_false, if_true]
    rw [escH_read hs 2 (by omega)]
    simp [hexL_len]
  split
  · refine stp_esc rfl (by simp) ?_
    unfold escR
    rw [if_neg (escR_long _ (by simp))]
    have hg : (92 :: 117 :: hexL 4 n.toNat ++ r).getD 1 0 = 117 := rfl
    rw [hg]
    simp only [show (117 : UInt8) ≠ 34 by decide, show (117 : UInt8) ≠ 92 by decide, show (117 : UInt8) ≠ 110 by decide, show (117 : UInt8) ≠ 116 by decide, show (117 : UInt8) ≠ 114 by decide, show (117 : UInt8) ≠ 48 by decide, show (117 : UInt8) ≠ 120 by decide, if_false, if_true]
    rw [escH_read hs 4 (by omega)]
    simp [hexL_len]
  · refine stp_esc rfl (by simp) ?_
    unfold escR
    rw [if_neg (escR_long _ (by simp))]
    have hg : (92 :: 85 :: hexL 8 n.toNat ++ r).getD 1 0 = 85 := rfl
    rw [hg]
    simp only [show (85 : UInt8) ≠ 34 by decide, show (85 : UInt8) ≠ 92 by decide, show (85 : UInt8) ≠ 110 by decide, show (85 : UInt8) ≠ 116 by decide, show (85 : UInt8) ≠ 114 by decide, show (85 : UInt8) ≠ 48 by decide, show (85 : UInt8) ≠ 120 by decide, show (85 : UInt8) ≠ 117 by decide, if_false, if_true]
    rw [escH_read hs 8 (by omega)]
    simp [hexL_len]
theorem ite_len {p : Prop} [Decidable p] {a b : List UInt8} (ha : 1 ≤ a.length) (hb : 1 ≤ b.length) : 1 ≤ (if p then a else b).length := by split <;> assumption
theorem esc_len (n : Int) : 1 ≤ (esc n).length := by
  unfold esc
  exact ite_len (by simp) (ite_len (by simp) (ite_len (by simp) (ite_len (by simp) (ite_len (by simp) (ite_len (by simp) (ite_len (by rw [u8s_len]; exact (byt_len n).1) (ite_len (by simp) (ite_len (by simp) (by simp)))))))))
theorem rdF_double : ∀ (zs : List Int), (∀ n ∈ zs, sgn n = true) → ∀ (rest : List UInt8) (f at_ : Nat) (out : List UInt8), (escs zs).length + 1 ≤ f →
    rdF 34 f (escs zs ++ 34 :: rest) at_ out = (out ++ u8s (bytes zs), at_ + (escs zs).length + 1, 0, 0)
  | [], _, rest, f, at_, out, hf => by
    obtain ⟨f, rfl⟩ : ∃ g, f = g + 1 := ⟨f - 1, by omega⟩
    have e : escs [] = [] := rfl
    rw [e, List.nil_append, rdF_end (by rw [stp_end 34 rest (fun q => by cases q)])]
    simp [bytes, u8s]
  | n :: zs, h, rest, f, at_, out, hf => by
    have hs := h n (by simp)
    have e : escs (n :: zs) = esc n ++ escs zs := rfl
    rw [e] at hf ⊢
    have h1 := esc_len n
    rw [List.length_append] at hf
    obtain ⟨f, rfl⟩ : ∃ g, f = g + 1 := ⟨f - 1, by omega⟩
    rw [List.append_assoc, rdF_item (stp_dbl hs _), rdF_double zs (fun m hm => h m (by simp [hm])) rest f _ _ (by omega), bytes_cons]
    refine Prod.ext (by simp) (Prod.ext ?_ rfl)
    simp only [List.length_append]
    omega
/-- P7.3, P7.4: double quotes -/
theorem rd_double (l rest : List UInt8) (h : (dec l).2 = none) : rd (dbl l ++ rest) = (l, (dbl l).length, 0, 0) := by
  obtain ⟨h1, h2⟩ := (dec_sound l.length l (Nat.le_refl _)).1 h
  have h3 : ∀ n ∈ (dec l).1, sgn n = true := fun n hn => by unfold allS at h1; exact List.all_eq_true.1 h1 n hn
  have e : dbl l ++ rest = 34 :: (escs (dec l).1 ++ 34 :: rest) := by simp [dbl]
  rw [e]
  have q := rdF_double _ h3 rest (34 :: (escs (dec l).1 ++ 34 :: rest)).length 1 [] (by simp)
  rw [h2] at q
  unfold rd
  rw [if_neg (by simp), if_pos (.inr rfl)]
  refine Eq.trans q ?_
  simp [dbl]
  omega
end Go.Proofs.YtkggdjghjdakoaaGreatDoor.Quo
