/- grommetlaw06.PlainResolves, by the contracts of what it calls. -/
import Derived.Test.YtlocmdiljfkhkaaDoorPlainAlive
import Derived.Test.YtlocmdiljfkhkaaDoorPlainRef4
namespace Go.Proofs.YtlocmdiljfkhkaaDoor.Pln
open Utf Rws
open Go.RowKit
set_option linter.unusedSimpArgs false
set_option linter.unusedVariables false
set_option maxRecDepth 100000

theorem in_of' {n : Int} (hn : (Lit.int .i64 n).wf = true) : inI n := by
  have h := bounds_i64 hn
  exact ⟨by omega, by omega⟩
theorem numN_in (l : List UInt8) : inI (numN l) := by
  unfold numN
  cases hq : numA l with
  | none => exact ⟨by decide, by decide⟩
  | some v => exact (numA_some hq).2

set_option maxHeartbeats 4000000 in
theorem resolves_any (s : ByteArray) (n : Int) (w : World) (hs : s.size ≤ 140737488351232) (hn : (Lit.int .i64 n).wf = true) (hT : Tabs w) : Calls Tryd.prog 5 #[.string s, .int .i64 n] w fun e w' => e = .returned (.bool true) ∧ Below w.heap.size w w' := by
  obtain ⟨l, rfl⟩ := mk_ex s
  rw [mk_size] at hs
  have hin := in_of' hn
  clear hn
  have HN : Hid (∀ w, Tabs w → Calls Tryd.prog 15 #[.string (mk l)] w fun e w' => e = .returned (.tuple #[.int .i64 (numN l), .bool (numB l)]) ∧ Below w.heap.size w w') := fun w hT => number_any l w hs hT
  have HRN : Hid (∀ w, Calls Tryd.prog 16 #[.string (mk l)] w fun e w' => e = .returned (.tuple #[.int .i64 (numN l), .bool (numB l)]) ∧ Below w.heap.size w w') := fun w => rnumber_any l w hs
  have HV : Hid (∀ w, Tabs w → Calls Tryd.prog 17 #[.string (mk l)] w fun e w' => e = .returned (.int .i64 (kind l)) ∧ Below w.heap.size w w') := fun w hT => resolve_any l w hs hT
  have HRV : Hid (∀ w, Calls Tryd.prog 18 #[.string (mk l)] w fun e w' => e = .returned (.int .i64 (kind l)) ∧ Below w.heap.size w w') := fun w => rresolve_any l w hs
  have HX : Hid (∀ w, Tabs w → Calls Tryd.prog 19 #[.int .i64 n] w fun e w' => e = .returned (.string (mk (Lib.itoa n))) ∧ Below w.heap.size w w') := fun w hT => text_any n w hin hT
  have HRX : Hid (∀ w, Calls Tryd.prog 20 #[.int .i64 n] w fun e w' => e = .returned (.string (mk (Lib.itoa n))) ∧ Below w.heap.size w w') := fun w => rtext_any n w hin
  have h1 := hin.1
  have h2 := hin.2
  generalize numN l = a at HN HRN
  generalize kind l = k at HV HRV
  generalize mk (Lib.itoa n) = t at HX HRX
  generalize numB l = b at HN HRN
  cases b
  · go_enter Tryd.func5, Tryd.ntmps5
    go_wp2_with fail
    refine (HN.out _ hT).mono ?_
    rintro e w1 ⟨rfl, hb1⟩
    go_wp2_with fail
    refine (HRN.out _).mono ?_
    rintro e w2 ⟨rfl, hb2⟩
    have b2 := hb1.trans (hb2.mono hb1.size)
    go_wp2_with fail
    refine (HV.out _ (hT.later b2)).mono ?_
    rintro e w3 ⟨rfl, hb3⟩
    have b3 := b2.trans (hb3.mono b2.size)
    go_wp2_with fail
    refine (HRV.out _).mono ?_
    rintro e w4 ⟨rfl, hb4⟩
    have b4 := b3.trans (hb4.mono b3.size)
    go_wp2_with fail
    refine (HX.out _ (hT.later b4)).mono ?_
    rintro e w5 ⟨rfl, hb5⟩
    have b5 := b4.trans (hb5.mono b4.size)
    go_wp2_with fail
    refine (HRX.out _).mono ?_
    rintro e w6 ⟨rfl, hb6⟩
    have b6 := b5.trans (hb6.mono b5.size)
    go_wp2_with fail
    refine (alive_any _ (hT.later b6)).mono ?_
    rintro e w7 ⟨rfl, hb7⟩
    go_wp2
    go_ret
    exact ⟨rfl, b6.trans (hb7.mono b6.size)⟩
  · go_enter Tryd.func5, Tryd.ntmps5
    go_wp2_with fail
    refine (HN.out _ hT).mono ?_
    rintro e w1 ⟨rfl, hb1⟩
    go_wp2_with fail
    refine (HRN.out _).mono ?_
    rintro e w2 ⟨rfl, hb2⟩
    have b2 := hb1.trans (hb2.mono hb1.size)
    go_wp2_with fail
    refine (HV.out _ (hT.later b2)).mono ?_
    rintro e w3 ⟨rfl, hb3⟩
    have b3 := b2.trans (hb3.mono b2.size)
    go_wp2_with fail
    refine (HRV.out _).mono ?_
    rintro e w4 ⟨rfl, hb4⟩
    have b4 := b3.trans (hb4.mono b3.size)
    go_wp2_with fail
    refine (HX.out _ (hT.later b4)).mono ?_
    rintro e w5 ⟨rfl, hb5⟩
    have b5 := b4.trans (hb5.mono b4.size)
    go_wp2_with fail
    refine (HRX.out _).mono ?_
    rintro e w6 ⟨rfl, hb6⟩
    have b6 := b5.trans (hb6.mono b5.size)
    go_wp2_with fail
    refine (alive_any _ (hT.later b6)).mono ?_
    rintro e w7 ⟨rfl, hb7⟩
    go_wp2
    go_ret
    exact ⟨rfl, b6.trans (hb7.mono b6.size)⟩

end Go.Proofs.YtlocmdiljfkhkaaDoor.Pln
