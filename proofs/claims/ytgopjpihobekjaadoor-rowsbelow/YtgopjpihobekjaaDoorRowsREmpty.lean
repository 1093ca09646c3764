/- grommetref02.Empty, by its contract. -/
import Derived.Test.YtgopjpihobekjaaDoorRowsBel
namespace Go.Proofs.YtgopjpihobekjaaDoor.Rws
open Utf
open Go.RowKit
set_option linter.unusedSimpArgs false
set_option linter.unusedVariables false
set_option maxRecDepth 100000

theorem rEmpty_any (c k : Int) (t : List UInt8) (w : World) : Calls Tryd.prog 13 #[.agg #[.int .i64 c, .string (mk t), .int .i64 k]] w fun e w' => e = .returned (.bool (emp t)) ∧ Below w.heap.size w w' := by
  cases t with
  | nil =>
    have hz : mk [] = ByteArray.empty := rfl
    go_enter Tryd.func13, Tryd.ntmps13
    go_wp2
    go_ret
    exact ⟨rfl, (Below.refl _ _).alloc (Nat.le_refl _) _⟩
  | cons b r =>
    have hne : ((mk (b :: r)).toList == []) = false := by rw [ByteArray.toList_eq, mk_data]; rfl
    have hsz : (mk (b :: r)).size = r.length + 1 := by rw [mk_size]; simp
    have hg : ∀ h, (mk (b :: r))[0]'h = b := fun h => by rw [mk_get]; rfl
    have hb := b35 b
    have HE : Hid (emp (b :: r) = (b == 35)) := emp_cons b r
    go_enter Tryd.func13, Tryd.ntmps13
    go_wp2
    go_ret
    rw [HE.out]
    exact ⟨rfl, (Below.refl _ _).alloc (Nat.le_refl _) _⟩
theorem rEmptyS_any (c k : Int) (s : ByteArray) (w : World) : Calls Tryd.prog 13 #[.agg #[.int .i64 c, .string s, .int .i64 k]] w fun e w' => e = .returned (.bool (emp s.data.toList)) ∧ Below w.heap.size w w' := by
  have h := rEmpty_any c k s.data.toList w
  rw [mk_of] at h
  exact h

end Go.Proofs.YtgopjpihobekjaaDoor.Rws
