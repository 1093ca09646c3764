/- Several texts as one: LayChn. -/
import Derived.Test.YtcplgjclkjcekaaGreatDoorY22LayLd
section
/- Lists within one another, as a graph: may it be, and how deep its tree is. -/
namespace Go.Proofs.YtcplgjclkjcekaaGreatDoor.Grp
open Utf Rws Pln Flw
set_option linter.unusedSimpArgs false
set_option linter.unusedVariables false

/-- so many lists, each in the one ahead; the last one empty, or with the first one in it -/
def chK (n : Nat) (round : Bool) (i : Nat) : List Int := if i + 1 = n then (if round = true then [0] else []) else [((i + 1 : Nat) : Int)]
def chN (n : Nat) (round : Bool) : List Nd := (List.range n).map fun i => ⟨5, [], chK n round i⟩
theorem ch_len (n : Nat) (b : Bool) : (chN n b).length = n := by unfold chN; rw [List.length_map, List.length_range]
theorem ch_at {n i : Nat} {b : Bool} (h : i < n) : (chN n b).getD i nd0 = ⟨5, [], chK n b i⟩ := by
  unfold chN
  rw [List.getD_eq_getElem?_getD, List.getElem?_map, List.getElem?_range h]
  rfl
theorem ch_mem {n : Nat} {b : Bool} {x : Nd} (h : x ∈ chN n b) : ∃ i, i < n ∧ x = ⟨5, [], chK n b i⟩ := by
  unfold chN at h
  obtain ⟨i, hi, rfl⟩ := List.mem_map.1 h
  exact ⟨i, List.mem_range.1 hi, rfl⟩
theorem ch_kd {n i : Nat} {b : Bool} (h : i < n) : kd (chN n b) i = if i + 1 = n then (if b = true then [0] else []) else [i + 1] := by
  unfold kd
  rw [ch_at h]
  show (chK n b i).map Int.toNat = _
  unfold chK
  by_cases e : i + 1 = n
  · rw [if_pos e, if_pos e]
    cases b <;> rfl
  · rw [if_neg e, if_neg e]
    simp
theorem kys_five : ∀ (i : Nat) (l : List Int), kys 5 i l = []
  | _, [] => rfl
  | i, a :: t => by rw [kys, if_neg (by simp [kyP]), kys_five (i + 1) t]
theorem ch_rg {n : Nat} {b : Bool} (h0 : 0 < n) (h1 : n ≤ 4096) : rgG ⟨chN n b, ((0 : Nat) : Int)⟩ = true := by
  have hp : ∀ i, i < n → ∀ a ∈ chK n b i, isP n a = true := fun i hi a ha => by
    unfold chK at ha
    by_cases e : i + 1 = n
    · rw [if_pos e] at ha
      cases b
      · simp at ha
      · simp at ha
        subst ha
        unfold Grp.isP
        rw [decide_eq_true (by omega), decide_eq_true (by omega)]; rfl
    · rw [if_neg e] at ha
      simp at ha
      subst ha
      unfold Grp.isP
      rw [decide_eq_true (by omega), decide_eq_true (by omega)]; rfl
  unfold rgG
  rw [Bool.and_eq_true, Bool.and_eq_true, Bool.and_eq_true, Bool.and_eq_true, decide_eq_true_iff, al1_iff, kNe_iff, al2_iff]
  simp only
  refine ⟨⟨⟨⟨by rw [ch_len]; exact h1, ?_⟩, fun x hx => ?_⟩, fun x hx a ha => ?_⟩, fun x hx => ?_⟩
  · rw [ch_len]
    unfold Grp.isP
    rw [decide_eq_true (by omega), decide_eq_true (by omega)]; rfl
  · obtain ⟨i, hi, rfl⟩ := ch_mem hx
    refine ⟨show rAl 5 [] = true from by decide, ?_⟩
    unfold rKd
    rw [Bool.and_eq_true, Bool.and_eq_true, kdOk_iff]
    refine ⟨⟨rfl, rfl⟩, fun a ha => by rw [ch_len]; exact hp i hi a ha, fun a ha => ?_⟩
    rw [show kys (5 : Int) 0 (chK n b i) = [] from kys_five 0 _] at ha
    cases ha
  · obtain ⟨i, hi, rfl⟩ := ch_mem hx
    rw [show kys (5 : Int) 0 (chK n b i) = [] from kys_five 0 _] at ha
    cases ha
  · obtain ⟨i, hi, rfl⟩ := ch_mem hx
    rw [show kys (5 : Int) 0 (chK n b i) = [] from kys_five 0 _]
    rfl
theorem ch_nst {n : Nat} {b : Bool} {nm : Nat → Ln} : ∀ (k a d m : Nat), a + k = n → 0 < k → k < d → (nst m (lyT (chN n b) nm d a (List.range a)).1 ↔ k ≤ m)
  | 0, a, d, m, _, h, _ => absurd h (Nat.lt_irrefl 0)
  | k + 1, a, 0, m, _, _, h => absurd h (Nat.not_lt_zero _)
  | k + 1, a, d + 1, m, hn, _, hd => by
    have hno : a ∉ List.range a := by simp
    have han : a < n := by omega
    rw [ly_new hno]
    simp only
    rw [ch_at han, ch_kd han]
    have hl : ∀ ks, isLst ⟨5, [], nm a, ks⟩ = true := fun _ => rfl
    cases m with
    | zero =>
      rw [nst, hl]
      constructor
      · intro h; cases h
      · intro h; omega
    | succ m =>
      rw [nst]
      by_cases e : a + 1 = n
      · rw [if_pos e]
        have hk : k = 0 := by omega
        subst hk
        constructor
        · intro _; omega
        · intro _ _ t ht
          cases b
          · simp [lyK] at ht
          · have h0 : (0 : Nat) ∈ List.range a ++ [a] := by
              rw [← List.range_succ]; simp
            obtain ⟨d', rfl⟩ : ∃ d', d = d' + 1 := ⟨d - 1, by omega⟩
            rw [if_pos rfl] at ht
            simp only [lyK, ly_old h0, List.mem_singleton] at ht
            subst ht
            cases m with
            | zero => rfl
            | succ m => intro h; cases h
      · rw [if_neg e]
        have ih := ch_nst (n := n) (b := b) (nm := nm) k (a + 1) d m (by omega) (by omega) (by omega)
        rw [List.range_succ] at ih
        constructor
        · intro h
          have := ih.1 (h rfl _ (by simp [lyK]))
          omega
        · intro h _ t ht
          simp only [lyK, List.mem_singleton] at ht
          subst ht
          exact ih.2 (by omega)
end Go.Proofs.YtcplgjclkjcekaaGreatDoor.Grp
end
