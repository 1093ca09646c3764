/- The walk of RowsAgain. -/
import Derived.Test.YthppoibdiehfkaaDoorRowsAlive
import Derived.Test.YthppoibdiehfkaaDoorRowsPlain2
namespace Go.Proofs.YthppoibdiehfkaaDoor.Rws
open Utf
open Go.RowKit
set_option linter.unusedSimpArgs false
set_option linter.unusedVariables false
set_option maxRecDepth 100000

theorem again_any (s : ByteArray) (w : World) (hs : s.size ≤ 140737488351232) : Calls Tryd.prog 8 #[.string s] w fun e w' => e = .returned (.bool true) ∧ Below w.heap.size w w' := by
  obtain ⟨l, rfl⟩ := mk_ex s
  rw [mk_size] at hs
  have h1 := note_len l
  have h2 : (mk (note l)).size = (note l).length := mk_size _
  have h3 : (mk l).size = l.length := mk_size _
  have h4 : ((mk l).extract 0 (note l).length).toList = (mk (note l)).toList := by
    have e := (note_take l).1
    rw [mk_ext, List.drop_zero, Nat.sub_zero, ← e]
  have H5 : Hid (note (note l) = note l) := note_note l
  go_enter Tryd.func8, Tryd.ntmps8
  go_wp2_with fail
  refine (note_any l _ (by omega)).mono ?_
  rintro e w' ⟨rfl, rfl⟩
  go_wp2_with fail
  refine (note_any (note l) _ (by omega)).mono ?_
  rintro e w' ⟨rfl, rfl⟩
  rw [H5.out]
  go_wp2_with fail
  refine (alive_any _).mono ?_
  rintro e w1 ⟨rfl, hb⟩
  go_wp2
  go_ret
  exact ⟨rfl, hb⟩

end Go.Proofs.YthppoibdiehfkaaDoor.Rws
