/- Numbers and their texts: plain functions on lists of bytes. -/
import Derived.Test.YtkggdjghjdakoaaGreatDoorPlainModel
import Derived.Lib.ItoaNum
import Derived.Lib.AtoiAll
namespace Go.Proofs.YtkggdjghjdakoaaGreatDoor.Pln
open Utf Rws
set_option linter.unusedSimpArgs false
set_option linter.unusedVariables false

def inI (v : Int) : Prop := -9223372036854775808 ≤ v ∧ v ≤ 9223372036854775807
def numA (l : List UInt8) : Option Int :=
  match Lib.atoiAll l with
  | .ok v => if Lib.itoa v = l then some v else none
  | _ => none
def numN (l : List UInt8) : Int := (numA l).getD 0
def numB (l : List UInt8) : Bool := (numA l).isSome
def dig (b : UInt8) : Bool := decide (48 ≤ b.toNat) && decide (b.toNat ≤ 57)

theorem numA_ok {l : List UInt8} {v : Int} (h : Lib.atoiAll l = .ok v) : numA l = if Lib.itoa v = l then some v else none := by unfold numA; rw [h]
theorem numA_no {l : List UInt8} (h : ∀ v, Lib.atoiAll l ≠ .ok v) : numA l = none := by
  unfold numA
  split
  · rename_i v hv; exact absurd hv (h v)
  · rfl
theorem atoi_in {l : List UInt8} {v : Int} (h : Lib.atoiAll l = .ok v) : inI v := by
  unfold Lib.atoiAll at h
  split at h
  · cases h
  · simp only at h
    split at h
    · cases h
    · cases h
    · split at h
      · cases h
      · split at h
        · cases h
        · injection h with h
          unfold inI
          rw [← h]
          split <;> omega
theorem numA_some {l : List UInt8} {v : Int} (h : numA l = some v) : Lib.itoa v = l ∧ inI v := by
  unfold numA at h
  split at h
  · rename_i u hu
    split at h
    · rename_i he
      injection h with h
      subst h
      exact ⟨he, atoi_in hu⟩
    · cases h
  · cases h

theorem dd_small {u : Nat} (h : u < 10) : Lib.decDigits u = [UInt8.ofNat (48 + u)] := by rw [Lib.decDigits, dif_pos h]
theorem dd_big {u : Nat} (h : ¬ u < 10) : Lib.decDigits u = Lib.decDigits (u / 10) ++ [UInt8.ofNat (48 + u % 10)] := by rw [Lib.decDigits, dif_neg h]
theorem of48 (d : Nat) (h : d < 10) : (UInt8.ofNat (48 + d)).toNat = 48 + d := by
  rw [UInt8.toNat_ofNat']; omega

theorem parse_snoc (l : List UInt8) (c : UInt8) : ∀ (acc a : Nat), Lib.parseUint10 acc l = .ok a → 48 ≤ c.toNat ∧ c.toNat ≤ 57 → a * 10 + (c.toNat - 48) < 18446744073709551616 → Lib.parseUint10 acc (l ++ [c]) = .ok (a * 10 + (c.toNat - 48)) := by
  induction l with
  | nil =>
    intro acc a h hc hlt
    simp only [Lib.parseUint10] at h
    injection h with h
    subst h
    simp only [List.nil_append, Lib.parseUint10]
    rw [if_pos hc, if_neg (by omega), if_neg (by omega)]
  | cons b r ih =>
    intro acc a h hc hlt
    simp only [Lib.parseUint10] at h
    simp only [List.cons_append, Lib.parseUint10]
    split at h
    · rename_i hb
      rw [if_pos hb]
      split at h
      · cases h
      · rename_i h1
        rw [if_neg h1]
        split at h
        · cases h
        · rename_i h2
          rw [if_neg h2]
          exact ih _ _ h hc hlt
    · cases h
theorem parse_dd (u : Nat) (h : u < 18446744073709551616) : Lib.parseUint10 0 (Lib.decDigits u) = .ok u := by
  induction u using Nat.strongRecOn with
  | ind u ih =>
    by_cases hu : u < 10
    · have e := of48 u hu
      have hp := parse_snoc [] (UInt8.ofNat (48 + u)) 0 0 rfl (by rw [e]; omega) (by rw [e]; omega)
      rw [dd_small hu]
      rw [e] at hp
      rw [List.nil_append] at hp
      rw [hp]; congr 1; omega
    · have e := of48 (u % 10) (by omega)
      have hp := parse_snoc (Lib.decDigits (u / 10)) (UInt8.ofNat (48 + u % 10)) 0 (u / 10) (ih (u / 10) (by omega) (by omega)) (by rw [e]; omega) (by rw [e]; omega)
      rw [dd_big hu]
      rw [e] at hp
      rw [hp]; congr 1; omega

/-- all are digits, and there is one -/
theorem dd_dig (u : Nat) : (Lib.decDigits u).all dig = true ∧ Lib.decDigits u ≠ [] := by
  induction u using Nat.strongRecOn with
  | ind u ih =>
    by_cases hu : u < 10
    · have e := of48 u hu
      rw [dd_small hu]
      refine ⟨?_, by simp⟩
      simp only [List.all_cons, List.all_nil, Bool.and_true, dig, e]
      simp; omega
    · have e := of48 (u % 10) (by omega)
      rw [dd_big hu]
      refine ⟨?_, by simp⟩
      rw [List.all_append, (ih (u / 10) (by omega)).1]
      simp only [List.all_cons, List.all_nil, Bool.and_true, dig, e]
      simp; omega
theorem dd_head (u : Nat) : ∃ c r, Lib.decDigits u = c :: r ∧ dig c = true := by
  obtain ⟨h1, h2⟩ := dd_dig u
  cases h : Lib.decDigits u with
  | nil => exact absurd h h2
  | cons c r => rw [h] at h1; simp only [List.all_cons, Bool.and_eq_true] at h1; exact ⟨c, r, rfl, h1.1⟩
theorem dd_len (k : Nat) : ∀ u : Nat, u < 10 ^ (k + 1) → (Lib.decDigits u).length ≤ k + 1 := by
  induction k with
  | zero => intro u hu; rw [dd_small (by simpa using hu)]; simp
  | succ k ih =>
    intro u hu
    by_cases h : u < 10
    · rw [dd_small h]; simp
    · rw [dd_big h, List.length_append]
      have := ih (u / 10) (by rw [Nat.pow_succ] at hu; omega)
      simp; omega
theorem dig_not {c : UInt8} (h : dig c = true) : c.toNat ≠ 45 ∧ c.toNat ≠ 43 := by
  unfold dig at h; simp at h; omega

theorem itoa_pos {v : Int} (h : 0 ≤ v) : Lib.itoa v = Lib.decDigits v.toNat := by unfold Lib.itoa; rw [if_neg (by omega)]
theorem itoa_neg {v : Int} (h : v < 0) : Lib.itoa v = 45 :: Lib.decDigits v.natAbs := by unfold Lib.itoa; rw [if_pos h]

theorem atoi_itoa (v : Int) (h : inI v) : Lib.atoiAll (Lib.itoa v) = .ok v := by
  unfold inI at h
  by_cases hv : 0 ≤ v
  · rw [itoa_pos hv]
    obtain ⟨c, r, e, hc⟩ := dd_head v.toNat
    have hp := parse_dd v.toNat (by omega)
    obtain ⟨n1, n2⟩ := dig_not hc
    rw [e] at hp ⊢
    unfold Lib.atoiAll
    simp only
    rw [if_neg (by omega)]
    unfold Lib.parseMag
    rw [if_neg (by simp), hp]
    simp only
    rw [if_neg (by omega), if_neg (by omega), if_neg n1]
    congr 1; omega
  · rw [itoa_neg (by omega)]
    have hp := parse_dd v.natAbs (by omega)
    have hne := (dd_dig v.natAbs).2
    unfold Lib.atoiAll
    simp only
    rw [if_pos (by decide)]
    unfold Lib.parseMag
    rw [if_neg hne, hp]
    simp only
    rw [if_neg (by simp), if_neg (by omega), if_pos (by decide)]
    congr 1; omega
theorem numA_itoa (v : Int) (h : inI v) : numA (Lib.itoa v) = some v := by rw [numA_ok (atoi_itoa v h), if_pos rfl]
theorem numA_iff (l : List UInt8) (v : Int) : numA l = some v ↔ Lib.itoa v = l ∧ inI v := by
  constructor
  · exact numA_some
  · rintro ⟨rfl, h⟩; exact numA_itoa v h

/-- texts of digits and a sign are plain -/
def dg (b : UInt8) : Bool := b == 45 || dig b
theorem dg_bd {b : UInt8} (h : dg b = true) : 45 ≤ b.toNat ∧ b.toNat ≤ 57 ∧ (b.toNat = 45 ∨ 48 ≤ b.toNat) := by
  unfold dg dig at h
  simp at h
  rcases h with rfl | h
  · decide
  · omega
theorem dg_prn {b : UInt8} (h : dg b = true) : prn (b.toNat : Int) = true := by
  have := dg_bd h
  unfold prn inR
  simp
  omega
theorem fst_ascii (b : UInt8) (r : List UInt8) (h : b.toNat < 128) : fst (b :: r) = ((b.toNat : Int), 1) := by
  have h1 : hdL b = 1 := by unfold hdL; rw [if_pos h]
  have h2 : hdV b = b.toNat := by unfold hdV; rw [if_pos h]
  have e : (b :: r).getD 0 0 = b := rfl
  have := fst_yes (b :: r) (by rw [e, h1]; omega) (by rw [e, h1]; simp; omega) (by
    rw [e, h1]
    refine ⟨rfl, ?_, ?_⟩
    · show sgn (hdV b) = true
      rw [h2]; unfold sgn inR; simp; omega
    · show wid (hdV b) = 1
      rw [h2]; unfold wid; rw [if_pos (by omega)])
  rw [this, e, h1]
  show (hdV b, (1 : Int)) = _
  rw [h2]
theorem chk_ascii (l : List UInt8) (h : ∀ b ∈ l, b.toNat < 128 ∧ prn (b.toNat : Int) = true) : chk l = none := by
  induction l with
  | nil => rfl
  | cons b r ih =>
    obtain ⟨h1, h2⟩ := h b (by simp)
    rw [chk_next (b :: r) (by simp)]
    have hf := fst_ascii b r h1
    have hk : fk (b :: r) = 1 := by unfold fk; rw [hf]; rfl
    rw [hf, if_pos h2, hk]
    simp only [List.drop_succ_cons, List.drop_zero]
    rw [ih (fun x hx => h x (by simp [hx]))]; rfl

theorem getD_mem (l : List UInt8) (i : Nat) (h : i < l.length) : l.getD i 0 ∈ l := by
  rw [List.getD_eq_getElem?_getD, List.getElem?_eq_getElem h]; exact List.getElem_mem h
theorem has_no (c : UInt8) (l : List UInt8) (h : ∀ b ∈ l, b ≠ c) : has c l = false := by
  unfold has
  rw [List.any_eq_false]
  intro x hx
  simpa using h x hx
theorem dg_fl {b : UInt8} (h : dg b = true) : fl b = false := by
  have hb := dg_bd h
  refine has_no b flows (fun x hx e => ?_)
  subst e
  unfold flows at hx
  simp at hx
  rcases hx with rfl | rfl | rfl | rfl | rfl <;> simp at hb
theorem dg_mrk {b : UInt8} (h : dg b = true) : mrk b = false := by
  have hb := dg_bd h
  refine has_no b marks (fun x hx e => ?_)
  subst e
  unfold marks at hx
  simp at hx
  rcases hx with rfl | rfl | rfl | rfl | rfl | rfl | rfl | rfl | rfl | rfl | rfl | rfl | rfl | rfl | rfl | rfl | rfl | rfl <;> simp at hb
theorem dg_ne {b : UInt8} (h : dg b = true) (c : UInt8) (hc : c.toNat < 45 ∨ 57 < c.toNat) : (b == c) = false := by
  rw [beq_eq_false_iff_ne]
  rintro rfl
  have := dg_bd h
  omega
theorem isP_dg (l : List UInt8) (f : Bool) (h : ∀ b ∈ l, dg b = true) (h0 : l ≠ []) (h1 : l ≠ [45]) (h3 : l ≠ [45, 45, 45]) : isP l f = true := by
  have hl : 0 < l.length := List.length_pos_iff.2 h0
  have hpos : ∀ i, i < l.length → dg (l.getD i 0) = true := fun i hi => h _ (getD_mem l i hi)
  have hhas : ∀ c : UInt8, (c.toNat < 45 ∨ 57 < c.toNat) → has c l = false := fun c hc => has_no c l (fun b hb e => by
    have := dg_ne (h b hb) c hc
    simp [e] at this)
  unfold isP
  simp only [Bool.and_eq_true]
  refine ⟨⟨⟨?_, ?_⟩, ?_⟩, ?_⟩
  · unfold pri
    rw [chk_ascii l (fun b hb => ⟨by have := dg_bd (h b hb); omega, dg_prn (h b hb)⟩), hhas 9 (by decide), hhas 10 (by decide), hhas 13 (by decide)]
    rfl
  · unfold bg
    rw [dg_mrk (hpos 0 hl), dg_ne (hpos 0 hl) 32 (by decide)]
    have e1 : (l == []) = false := by simpa using h0
    have e2 : (l == [45]) = false := by simpa using h1
    have e3 : (l == [45, 45, 45]) = false := by simpa using h3
    have e4 : (l.take 2 == [45, 32]) = false := by
      rw [beq_eq_false_iff_ne]
      intro e
      have hm : (32 : UInt8) ∈ l.take 2 := by rw [e]; simp
      have := h 32 (List.mem_of_mem_take hm)
      revert this; decide
    rw [e1, e2, e3, e4]
    rfl
  · rw [dg_ne (hpos _ (by omega)) 32 (by decide)]; rfl
  · rw [fin_len]
    intro j hj
    unfold en
    have c1 : ¬ (l.getD j 0 == 58) = true := by rw [dg_ne (hpos j hj) 58 (by decide)]; simp
    have c2 : ¬ (l.getD j 0 == 35) = true := by rw [dg_ne (hpos j hj) 35 (by decide)]; simp
    rw [if_neg c1, if_neg c2, dg_fl (hpos j hj)]
    simp
/-- P6.4: a number's text is plain -/
theorem itoa_dg (v : Int) : (∀ b ∈ Lib.itoa v, dg b = true) ∧ Lib.itoa v ≠ [] ∧ Lib.itoa v ≠ [45] ∧ Lib.itoa v ≠ [45, 45, 45] := by
  have hd : ∀ u, ∀ b ∈ Lib.decDigits u, dg b = true := fun u b hb => by
    have := List.all_eq_true.1 (dd_dig u).1 b hb
    unfold dg; rw [this]; simp
  have h45 : ∀ u r, Lib.decDigits u ≠ 45 :: r := fun u r e => by
    obtain ⟨c, r', e', hc⟩ := dd_head u
    rw [e] at e'
    injection e' with e1 e2
    rw [← e1] at hc
    revert hc; decide
  by_cases hv : 0 ≤ v
  · rw [itoa_pos hv]
    exact ⟨hd _, (dd_dig _).2, h45 _ _, h45 _ _⟩
  · rw [itoa_neg (by omega)]
    refine ⟨?_, by simp, ?_, ?_⟩
    · intro b hb
      rcases List.mem_cons.1 hb with rfl | hb
      · rfl
      · exact hd _ b hb
    · intro e; injection e with _ e; exact (dd_dig _).2 e
    · intro e; injection e with _ e; exact h45 _ _ e
theorem itoa_isP (v : Int) (f : Bool) : isP (Lib.itoa v) f = true := by
  obtain ⟨h, h0, h1, h3⟩ := itoa_dg v
  exact isP_dg _ f h h0 h1 h3
theorem itoa_len (v : Int) (h : inI v) : (Lib.itoa v).length ≤ 20 := by
  unfold inI at h
  by_cases hv : 0 ≤ v
  · rw [itoa_pos hv]
    have := dd_len 18 v.toNat (by omega)
    omega
  · rw [itoa_neg (by omega), List.length_cons]
    have := dd_len 18 v.natAbs (by omega)
    omega

end Go.Proofs.YtkggdjghjdakoaaGreatDoor.Pln
