/- Several texts as one: LayRm, PlainRefH. -/
import Derived.Test.YtaphijgbebhdlaaGreatDoorV24LayLarge
import Derived.Test.YtaphijgbebhdlaaGreatDoorV04PlainEndY
section
/- How the document tells that something lies too deep, as plain functions; its names. -/
namespace Go.Proofs.YtaphijgbebhdlaaGreatDoor.Grp
open Utf Rws Pln Flw
set_option linter.unusedSimpArgs false
set_option linter.unusedVariables false

def fgK (f : Nat → List Nat × Bool → List Nat × Bool) : List Nat → List Nat × Bool → List Nat × Bool
  | [], s => s
  | b :: l, s => fgK f l (f b s)
/-- is this one too deep? -/
def fB (ns : List Nd) (a e : Nat) : Bool := decide (5 ≤ (ns.getD a nd0).kind) && decide (64 ≤ e)
/-- going through: what was gone to, and whether it was too deep -/
def fg (ns : List Nd) : Nat → Nat → Nat → List Nat × Bool → List Nat × Bool
  | 0, _, _, s => s
  | d + 1, a, e, s => if a ∈ s.1 then s else fgK (fun b => fg ns d b (e + 1)) (kd ns a) (s.1 ++ [a], s.2 || fB ns a e)
theorem fg_old {ns : List Nd} {d a e : Nat} {s : List Nat × Bool} (h : a ∈ s.1) : fg ns (d + 1) a e s = s := by rw [fg, if_pos h]
theorem fg_new {ns : List Nd} {d a e : Nat} {s : List Nat × Bool} (h : a ∉ s.1) : fg ns (d + 1) a e s = fgK (fun b => fg ns d b (e + 1)) (kd ns a) (s.1 ++ [a], s.2 || fB ns a e) := by rw [fg, if_neg h]
theorem fgK_snoc (f : Nat → List Nat × Bool → List Nat × Bool) (b : Nat) : ∀ (l : List Nat) (s : List Nat × Bool), fgK f (l ++ [b]) s = f b (fgK f l s)
  | [], s => rfl
  | c :: l, s => fgK_snoc f b l (f c s)
theorem fgK_out {f : Nat → List Nat × Bool → List Nat × Bool} {g : Nat → List Nat → Tr × List Nat × List Nat} (h : ∀ b s, (f b s).1 = (g b s.1).2.1) : ∀ (l : List Nat) (s : List Nat × Bool), (fgK f l s).1 = (lyK g l s.1).2.1
  | [], s => rfl
  | b :: l, s => by
    show (fgK f l (f b s)).1 = (lyK g l (g b s.1).2.1).2.1
    rw [fgK_out h l, h]
theorem fg_out {ns : List Nd} (nm : Nat → Ln) : ∀ (d a e : Nat) (s : List Nat × Bool), (fg ns d a e s).1 = (lyT ns nm d a s.1).2.1
  | 0, a, e, s => rfl
  | d + 1, a, e, s => by
    by_cases h : a ∈ s.1
    · rw [ly_old h, fg_old h]
    · rw [ly_new h, fg_new h]
      exact fgK_out (fun b s => fg_out nm d b _ s) _ _
theorem fgK_dg {f : Nat → List Nat × Bool → List Nat × Bool} {g : Nat → List Nat × Nat → List Nat × Nat} {e : Nat} (hle : ∀ b s, s.2 ≤ (g b s).2) (h : ∀ b out m, e ≤ m → f b (out, decide (64 < m)) = ((g b (out, m)).1, decide (64 < (g b (out, m)).2))) :
    ∀ (l : List Nat) (out : List Nat) (m : Nat), e ≤ m → fgK f l (out, decide (64 < m)) = ((dgK g l (out, m)).1, decide (64 < (dgK g l (out, m)).2))
  | [], out, m, _ => rfl
  | b :: l, out, m, he => by
    rw [fgK, dgK, h b out m he]
    exact fgK_dg hle h l (g b (out, m)).1 (g b (out, m)).2 (Nat.le_trans he (hle b (out, m)))
/-- it was too deep just if more than 64 lie within one another -/
theorem fg_dg {ns : List Nd} (hk : ∀ a, kd ns a ≠ [] → lsN ns a = 1) (h5 : ∀ a, decide (5 ≤ (ns.getD a nd0).kind) = decide (lsN ns a = 1)) : ∀ (d a e : Nat) (out : List Nat) (m : Nat), e ≤ m → fg ns d a e (out, decide (64 < m)) = ((dg ns d a e (out, m)).1, decide (64 < (dg ns d a e (out, m)).2))
  | 0, a, e, out, m, _ => rfl
  | d + 1, a, e, out, m, he => by
    by_cases h : a ∈ out
    · rw [dg_old (s := (out, m)) h, fg_old (s := (out, decide (64 < m))) h]
    · rw [dg_new (s := (out, m)) h, fg_new (s := (out, decide (64 < m))) h]
      have hb : (decide (64 < m) || fB ns a e) = decide (64 < max m (e + lsN ns a)) := by
        unfold fB
        rw [h5 a]
        have h1 := lsN_le ns a
        by_cases hl : lsN ns a = 1
        · rw [hl, decide_eq_true (rfl : 1 = 1), Bool.true_and, ← Bool.decide_or, decide_eq_decide]
          omega
        · rw [decide_eq_false hl, Bool.false_and, Bool.or_false, decide_eq_decide]
          omega
      rw [hb]
      by_cases hkk : kd ns a = []
      · rw [hkk]; rfl
      · rw [hk a hkk]
        exact fgK_dg (e := e + 1) (fun b s => dg_le d b _ s) (fun b out m hm => fg_dg hk h5 d b (e + 1) out m hm) (kd ns a) (out ++ [a]) (max m (e + 1)) (Nat.le_max_right _ _)
theorem rg_lists {ns : List Nd} {r : Int} (h : rgG ⟨ns, r⟩ = true) : (∀ a, kd ns a ≠ [] → lsN ns a = 1) ∧ ∀ a, decide (5 ≤ (ns.getD a nd0).kind) = decide (lsN ns a = 1) := by
  have hrl : ∀ n ∈ ns, n.kind ≠ 7 ∧ ral n.kind n.text [] n.kids.length = true := by
    have hq' := h
    unfold rgG at hq'
    rw [Bool.and_eq_true, Bool.and_eq_true, Bool.and_eq_true, Bool.and_eq_true, decide_eq_true_iff, al1_iff] at hq'
    obtain ⟨⟨⟨⟨_, _⟩, g3⟩, _⟩, _⟩ := hq'
    exact fun n hn => ral_of (g3 n hn).1 (g3 n hn).2
  refine ⟨fun a ha => ?_, fun a => ?_⟩
  · have h1 := lsN_le ns a
    by_cases hz : lsN ns a = 0
    · exact absurd (ls_no (fun n hn => (hrl n hn).2) a hz) ha
    · omega
  · rw [decide_eq_decide]
    unfold lsN
    by_cases ha : a < ns.length
    · obtain ⟨h7, h1⟩ := hrl _ (mem_getD ha)
      unfold ral at h1
      rw [Bool.and_eq_true, Bool.and_eq_true] at h1
      have h2 := h1.1.1
      unfold rtx at h2
      generalize ns.getD a nd0 = n at *
      by_cases h56 : n.kind = 5 ∨ n.kind = 6
      · rw [if_pos h56]; omega
      · rw [if_neg h56]
        constructor
        · intro h5
          split at h2
          · rename_i q; omega
          · split at h2
            · rename_i q; omega
            · split at h2
              · rename_i q; omega
              · cases h2
        · intro q; omega
    · have e : ns.getD a nd0 = nd0 := by rw [List.getD_eq_getElem?_getD, List.getElem?_eq_none (by omega)]; rfl
      rw [e]
      decide
end Go.Proofs.YtaphijgbebhdlaaGreatDoor.Grp
end

section
/- Small facts of the reference of layer 6. -/
namespace Go.Proofs.YtaphijgbebhdlaaGreatDoor.Pln
open Utf Rws
open Go.RowKit
set_option linter.unusedSimpArgs false
set_option linter.unusedVariables false
set_option maxRecDepth 100000

theorem beq_toNat (a b : UInt8) : ((a.toNat : Int) == (b.toNat : Int)) = (a == b) := by
  rw [Bool.eq_iff_iff]
  simp only [beq_iff_eq]
  constructor
  · intro h; apply UInt8.toNat_inj.1; omega
  · rintro rfl; rfl
theorem take_snoc (l : List UInt8) (e : Nat) (h : e < l.length) : l.take (e + 1) = l.take e ++ [l.getD e 0] := by
  rw [List.take_succ_eq_append_getElem h, List.getD_eq_getElem?_getD, List.getElem?_eq_getElem h]; rfl

theorem b45 (b : UInt8) : ((b.toNat : Int) == 45) = (b == 45) := beq_toNat b 45
theorem b9 (b : UInt8) : ((b.toNat : Int) == 9) = (b == 9) := beq_toNat b 9
theorem b10 (b : UInt8) : ((b.toNat : Int) == 10) = (b == 10) := beq_toNat b 10
theorem b13 (b : UInt8) : ((b.toNat : Int) == 13) = (b == 13) := beq_toNat b 13

end Go.Proofs.YtaphijgbebhdlaaGreatDoor.Pln
end
