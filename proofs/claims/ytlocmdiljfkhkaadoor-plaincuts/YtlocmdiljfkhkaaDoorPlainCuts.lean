/- grommetlaw06.PlainCuts, by the contracts of what it calls. -/
import Derived.Test.YtlocmdiljfkhkaaDoorPlainAlive
import Derived.Test.YtlocmdiljfkhkaaDoorPlainRef
namespace Go.Proofs.YtlocmdiljfkhkaaDoor.Pln
open Utf Rws
open Go.RowKit
set_option linter.unusedSimpArgs false
set_option linter.unusedVariables false
set_option maxRecDepth 100000

theorem cuts_any (s : ByteArray) (f : Bool) (w : World) (hs : s.size ≤ 140737488351232) (hT : Tabs w) : Calls Tryd.prog 4 #[.string s, .bool f] w fun e w' => e = .returned (.bool true) ∧ Below w.heap.size w w' := by
  obtain ⟨l, rfl⟩ := mk_ex s
  rw [mk_size] at hs
  have HC : Hid (∀ w, Calls Tryd.prog 13 #[.string (mk l), .bool f] w fun e w' => e = .returned (.tuple #[.string (mk (cutT l f)), .int .i64 (fin l f)]) ∧ Below w.heap.size w w') := fun w => cut_any l f w (by omega)
  have HR : Hid (∀ w, Calls Tryd.prog 14 #[.string (mk l), .bool f] w fun e w' => e = .returned (.tuple #[.string (mk (cutT l f)), .int .i64 (fin l f)]) ∧ w = w') := fun w => rcut_any l f w (by omega)
  generalize mk (cutT l f) = c at HC HR
  generalize fin l f = n at HC HR
  go_enter Tryd.func4, Tryd.ntmps4
  go_wp2_with fail
  refine (HC.out _).mono ?_
  rintro e w1 ⟨rfl, hb1⟩
  go_wp2_with fail
  refine (HR.out _).mono ?_
  rintro e w2 ⟨rfl, rfl⟩
  go_wp2_with fail
  refine (alive_any _ (hT.later hb1)).mono ?_
  rintro e w3 ⟨rfl, hb3⟩
  go_wp2
  go_ret
  exact ⟨rfl, hb1.trans (hb3.mono hb1.size)⟩

end Go.Proofs.YtlocmdiljfkhkaaDoor.Pln
