/- How often a place is a Kid, or the Root: as plain functions, and in memory. -/
import Derived.Test.YtkggdjghjdakoaaGreatDoorGraphIsKeyI
import Derived.Deep.OwnRows
namespace Go.Proofs.YtkggdjghjdakoaaGreatDoor.Grp
open Utf Rws Pln Flw
open Go.RowKit Go.Shelf
set_option linter.unusedSimpArgs false
set_option linter.unusedVariables false
set_option maxRecDepth 100000

def bump (T : Nat → Nat) (i : Nat) : Nat → Nat := fun x => if x = i then T x + 1 else T x
def bmps (T : Nat → Nat) (l : List Int) : Nat → Nat := l.foldl (fun T a => bump T a.toNat) T
def timN (T : Nat → Nat) (ns : List Nd) : Nat → Nat := ns.foldl (fun T n => bmps T n.kids) T
theorem bump_le (T : Nat → Nat) (i x : Nat) : bump T i x ≤ T x + 1 := by unfold bump; split <;> omega
theorem bmps_le : ∀ (l : List Int) (T : Nat → Nat) (x : Nat), bmps T l x ≤ T x + l.length
  | [], T, x => Nat.le_refl _
  | a :: l, T, x => by
    have h1 := bmps_le l (bump T a.toNat) x
    have h2 := bump_le T a.toNat x
    simp only [List.length_cons]
    have e : bmps T (a :: l) = bmps (bump T a.toNat) l := rfl
    rw [e]
    omega
def sumK (ns : List Nd) : Nat := (ns.map (fun n => n.kids.length)).sum
theorem timN_le : ∀ (ns : List Nd) (T : Nat → Nat) (x : Nat), timN T ns x ≤ T x + sumK ns
  | [], T, x => Nat.le_refl _
  | n :: ns, T, x => by
    have h1 := timN_le ns (bmps T n.kids) x
    have h2 := bmps_le n.kids T x
    have e : timN T (n :: ns) = timN (bmps T n.kids) ns := rfl
    have e2 : sumK (n :: ns) = n.kids.length + sumK ns := by simp [sumK]
    rw [e, e2]
    omega
theorem bmps_snoc (T : Nat → Nat) (l : List Int) (j : Nat) (h : j < l.length) : bmps T (l.take (j + 1)) = bump (bmps T (l.take j)) (l.getD j 0).toNat := by
  rw [List.take_succ_eq_append_getElem h, bmps, List.foldl_append, List.getD_eq_getElem?_getD, List.getElem?_eq_getElem h]
  rfl
theorem timN_snoc (T : Nat → Nat) (ns : List Nd) (j : Nat) (h : j < ns.length) : timN T (ns.take (j + 1)) = bmps (timN T (ns.take j)) (ns.getD j nd0).kids := by
  rw [List.take_succ_eq_append_getElem h, timN, List.foldl_append, List.getD_eq_getElem?_getD, List.getElem?_eq_getElem h]
  rfl
theorem sumK_at : ∀ (ns : List Nd) (j : Nat), j < ns.length → sumK (ns.take j) + (ns.getD j nd0).kids.length ≤ sumK ns
  | [], j, h => absurd h (Nat.not_lt_zero _)
  | n :: ns, 0, h => by simp [sumK]
  | n :: ns, j + 1, h => by
    have := sumK_at ns j (by simpa using h)
    simp only [List.take_succ_cons, List.getD_cons_succ]
    simp only [sumK, List.map_cons, List.sum_cons] at this ⊢
    omega
theorem sumK_take : ∀ (ns : List Nd) (j : Nat), sumK (ns.take j) ≤ sumK ns
  | [], j => by simp [sumK]
  | n :: ns, 0 => by simp [sumK]
  | n :: ns, j + 1 => by
    have := sumK_take ns j
    simp only [List.take_succ_cons]
    simp only [sumK, List.map_cons, List.sum_cons] at this ⊢
    omega
/-- the row of times -/
def tA (T : Nat → Nat) (n : Nat) : Array Value := ((List.range n).map fun i => Value.int .i64 (T i : Int)).toArray
theorem tA_get (T : Nat → Nat) {n i : Nat} (h : i < n) : (tA T n)[i]? = some (.int .i64 (T i : Int)) := by
  simp [tA, h]
theorem tA_set (T : Nat → Nat) (n i : Nat) : (tA T n).setIfInBounds i (.int .i64 ((T i + 1 : Nat) : Int)) = tA (bump T i) n := by
  apply Array.ext_getElem?
  intro k
  rw [Array.getElem?_setIfInBounds]
  by_cases hk : k < n
  · rw [tA_get _ hk, tA_get _ hk]
    by_cases e : i = k
    · subst e
      rw [if_pos rfl]
      simp [tA, hk, bump]
    · rw [if_neg e]
      simp [bump, Ne.symm e]
  · have e1 : (tA T n)[k]? = none := by simp [tA]; omega
    have e2 : (tA (bump T i) n)[k]? = none := by simp [tA]; omega
    rw [e1, e2]
    split
    · simp [tA]; omega
    · rfl
theorem tA_made (n : Nat) : madeCells #[Value.int .i64 0] n = tA (fun _ => 0) n := by
  apply Array.ext_getElem?
  intro k
  by_cases hk : k < n
  · rw [tA_get _ hk]
    simp [madeCells, hk, Nat.mod_one]
  · have e2 : (tA (fun _ => 0) n)[k]? = none := by simp [tA]; omega
    rw [e2]
    simp [madeCells]
    omega
/-- no key is another Kid, or the Root -/
def kNe (T : Nat → Nat) : List Nd → Bool
  | [] => true
  | n :: t => (kys n.kind 0 n.kids).all (fun a => decide (T a.toNat ≤ 1)) && kNe T t
theorem kNe_at (T : Nat → Nat) (ns : List Nd) (j : Nat) (h : j < ns.length) : kNe T (ns.drop j) = ((kys (ns.getD j nd0).kind 0 (ns.getD j nd0).kids).all (fun a => decide (T a.toNat ≤ 1)) && kNe T (ns.drop (j + 1))) := by
  rw [List.drop_eq_getElem_cons h, List.getD_eq_getElem?_getD, List.getElem?_eq_getElem h]
  rfl
end Go.Proofs.YtkggdjghjdakoaaGreatDoor.Grp
