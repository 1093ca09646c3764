/- Numbered lines. -/
import Derived.Test.YtoamfmockinknaaDoorRowsSeq
namespace Go.Proofs.YtoamfmockinknaaDoor.Rws
open Utf
set_option linter.unusedSimpArgs false
set_option linter.unusedVariables false
theorem num_map (k : Nat) (L : List (List UInt8)) (h : ∀ l ∈ L, l.length ≤ 140737488355328) : (num k L).map (fun x => x.2.1) = L := by
  induction L generalizing k with
  | nil => rfl
  | cons l r ih => rw [num, List.map_cons, ih _ (fun x hx => h x (List.mem_cons_of_mem _ hx)), cl_val (h l (List.mem_cons_self ..))]
theorem num_at (k : Nat) (L : List (List UInt8)) (i : Nat) (x : Nat × Lb) (h : (num k L)[i]? = some x) : x.1 = k + i := by
  induction L generalizing k i with
  | nil => simp [num] at h
  | cons l r ih =>
    cases i with
    | zero => simp [num] at h; rw [← h]; rfl
    | succ i => rw [num, List.getElem?_cons_succ] at h; have := ih _ _ h; omega

end Go.Proofs.YtoamfmockinknaaDoor.Rws
