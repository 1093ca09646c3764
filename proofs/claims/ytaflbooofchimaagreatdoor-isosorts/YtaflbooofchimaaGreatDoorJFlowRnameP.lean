/- Several texts as one: FlowRnameP. -/
import Derived.Test.YtaflbooofchimaaGreatDoorRows
import Derived.Test.YtaflbooofchimaaGreatDoorJ01RowsPlain
import Derived.WalkKit
import Derived.WalkSpells
import Derived.WalkLawsBesides
import Derived.Laws.BitsAllLaws
section
/- Letters of names: plain facts. -/
namespace Go.Proofs.YtaflbooofchimaaGreatDoor.Flw
open Utf Rws Pln
open Go.RowKit
set_option linter.unusedSimpArgs false
set_option linter.unusedVariables false
set_option maxRecDepth 100000

theorem letter_num {c : UInt8} {x : Nat} (hx : x = c.toNat) : letter c = (decide (97 ≤ x ∧ x ≤ 122) || decide (65 ≤ x ∧ x ≤ 90) || decide (48 ≤ x ∧ x ≤ 57) || decide (x = 45) || decide (x = 95)) := by
  subst hx
  unfold letter
  have e1 : (c == 45) = decide (c.toNat = 45) := by
    rw [Bool.eq_iff_iff, beq_iff_eq, decide_eq_true_eq]
    exact ⟨fun h => by rw [h]; rfl, fun h => UInt8.toNat_inj.1 h⟩
  have e2 : (c == 95) = decide (c.toNat = 95) := by
    rw [Bool.eq_iff_iff, beq_iff_eq, decide_eq_true_eq]
    exact ⟨fun h => by rw [h]; rfl, fun h => UInt8.toNat_inj.1 h⟩
  rw [e1, e2]
  simp only [Bool.decide_and]
theorem all_take (l : Ln) (n : Nat) (h : n < l.length) : (l.take (n + 1)).all letter = ((l.take n).all letter && letter (l.getD n 0)) := by
  rw [List.take_add_one, List.getElem?_eq_getElem h, List.getD_eq_getElem?_getD, List.getElem?_eq_getElem h, List.all_append]
  simp
theorem all_hit (l : Ln) (n : Nat) (h : n < l.length) (hn : letter (l.getD n 0) = false) : isName l = false := by
  unfold isName
  have : l.all letter = false := by
    rw [List.all_eq_false]
    refine ⟨l[n], List.getElem_mem h, ?_⟩
    rw [List.getD_eq_getElem?_getD, List.getElem?_eq_getElem h] at hn
    simpa using hn
  rw [this]
  rfl
theorem getD_mk (l : Ln) (n : Nat) (h : n < (mk l).size) : (mk l)[n]'h = l.getD n 0 := by
  have h' : n < l.length := by rw [mk_size] at h; exact h
  rw [List.getD_eq_getElem?_getD, List.getElem?_eq_getElem h']
  rfl
end Go.Proofs.YtaflbooofchimaaGreatDoor.Flw
end
