/- grommetlaw06.PlainTells, by the contracts of what it calls. -/
import Derived.Test.YtlocmdiljfkhkaaDoorPlainAlive
import Derived.Test.YtlocmdiljfkhkaaDoorPlainRef2
namespace Go.Proofs.YtlocmdiljfkhkaaDoor.Pln
open Utf Rws
open Go.RowKit
set_option linter.unusedSimpArgs false
set_option linter.unusedVariables false
set_option maxRecDepth 100000

theorem tells_any (s : ByteArray) (f : Bool) (w : World) (hs : s.size ≤ 140737488351232) (hT : Tabs w) : Calls Tryd.prog 3 #[.string s, .bool f] w fun e w' => e = .returned (.bool true) ∧ Below w.heap.size w w' := by
  obtain ⟨l, rfl⟩ := mk_ex s
  rw [mk_size] at hs
  have HI : Hid (∀ w, Calls Tryd.prog 10 #[.string (mk l), .bool f] w fun e w' => e = .returned (.bool (isP l f)) ∧ Below w.heap.size w w') := fun w => is_any l f w hs
  have HR : Hid (∀ w, Calls Tryd.prog 11 #[.string (mk l), .bool f] w fun e w' => e = .returned (.bool (isP l f)) ∧ Below w.heap.size w w') := fun w => ris_any l f w hs
  generalize isP l f = V at HI HR
  cases V
  · go_enter Tryd.func3, Tryd.ntmps3
    go_wp2_with fail
    refine (HI.out _).mono ?_
    rintro e w1 ⟨rfl, hb1⟩
    go_wp2_with fail
    refine (HR.out _).mono ?_
    rintro e w2 ⟨rfl, hb2⟩
    have b2 := hb1.trans (hb2.mono hb1.size)
    go_wp2_with fail
    refine (alive_any _ (hT.later b2)).mono ?_
    rintro e w3 ⟨rfl, hb3⟩
    go_wp2
    go_ret
    exact ⟨rfl, b2.trans (hb3.mono b2.size)⟩
  · go_enter Tryd.func3, Tryd.ntmps3
    go_wp2_with fail
    refine (HI.out _).mono ?_
    rintro e w1 ⟨rfl, hb1⟩
    go_wp2_with fail
    refine (HR.out _).mono ?_
    rintro e w2 ⟨rfl, hb2⟩
    have b2 := hb1.trans (hb2.mono hb1.size)
    go_wp2_with fail
    refine (alive_any _ (hT.later b2)).mono ?_
    rintro e w3 ⟨rfl, hb3⟩
    go_wp2
    go_ret
    exact ⟨rfl, b2.trans (hb3.mono b2.size)⟩

end Go.Proofs.YtlocmdiljfkhkaaDoor.Pln
