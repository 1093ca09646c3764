/- the statements' 'alive', by its contract. -/
import Derived.Test.YtlocmdiljfkhkaaDoorPlainIs
namespace Go.Proofs.YtlocmdiljfkhkaaDoor.Pln
open Utf Rws
open Go.RowKit
set_option linter.unusedSimpArgs false
set_option linter.unusedVariables false
set_option maxRecDepth 100000

theorem itoa_m5 : Lib.itoa (-5) = [45, 53] := by rw [itoa_neg (by decide)]; rw [show (-5 : Int).natAbs = 5 from rfl, dd_small (by decide)]; rfl
theorem itoa_10 : Lib.itoa 10 = [49, 48] := by rw [itoa_pos (by decide)]; rw [show (10 : Int).toNat = 10 from rfl, dd_big (by decide), dd_small (by decide)]; rfl

theorem alive_any (w : World) (hT : Tabs w) : Calls Tryd.prog 12 #[] w fun e w' => e = .returned (.bool true) ∧ Below w.heap.size w w' := by
  have HC : Hid (∀ w, Calls Tryd.prog 13 #[.string ⟨#[97, 32, 98, 58, 32, 99]⟩, .bool false] w fun e w' => e = .returned (.tuple #[.string ⟨#[97, 32, 98]⟩, .int .i64 3]) ∧ Below w.heap.size w w') := fun w => by
    have h := cut_any [97, 32, 98, 58, 32, 99] false w (by decide)
    rw [show cutT [97, 32, 98, 58, 32, 99] false = [97, 32, 98] by decide, show fin [97, 32, 98, 58, 32, 99] false = 3 by decide] at h
    exact h
  have HN : Hid (∀ w, Tabs w → Calls Tryd.prog 15 #[.string ⟨#[45, 53]⟩] w fun e w' => e = .returned (.tuple #[.int .i64 (-5), .bool true]) ∧ Below w.heap.size w w') := fun w hT => by
    have h := number_any [45, 53] w (by decide) hT
    have e : numA [45, 53] = some (-5) := by rw [← itoa_m5]; exact numA_itoa (-5) ⟨by decide, by decide⟩
    rw [show numN [45, 53] = -5 by unfold numN; rw [e]; rfl, show numB [45, 53] = true by unfold numB; rw [e]; rfl] at h
    exact h
  have HI : Hid (∀ w, Calls Tryd.prog 10 #[.string ⟨#[45, 53]⟩, .bool true] w fun e w' => e = .returned (.bool true) ∧ Below w.heap.size w w') := fun w => by
    have h := is_any [45, 53] true w (by decide)
    rw [show isP [45, 53] true = true by rw [← itoa_m5]; exact itoa_isP (-5) true] at h
    exact h
  have HJ : Hid (∀ w, Calls Tryd.prog 10 #[.string ⟨#[97, 58, 32, 98]⟩, .bool false] w fun e w' => e = .returned (.bool false) ∧ Below w.heap.size w w') := fun w => by
    have h := is_any [97, 58, 32, 98] false w (by decide)
    rw [show isP [97, 58, 32, 98] false = false from by
      have e : fin [97, 58, 32, 98] false = 1 := by decide
      unfold isP; rw [e]; exact Bool.and_false _] at h
    exact h
  have HX : Hid (∀ w, Tabs w → Calls Tryd.prog 19 #[.int .i64 10] w fun e w' => e = .returned (.string ⟨#[49, 48]⟩) ∧ Below w.heap.size w w') := fun w hT => by
    have h := text_any 10 w ⟨by decide, by decide⟩ hT
    rw [itoa_10] at h
    exact h
  have HR : Hid (∀ w, Tabs w → Calls Tryd.prog 17 #[.string ⟨#[]⟩] w fun e w' => e = .returned (.int .i64 1) ∧ Below w.heap.size w w') := fun w hT => resolve_any [] w (by decide) hT
  go_enter Tryd.func12, Tryd.ntmps12
  go_wp2_with fail
  refine (HC.out _).mono ?_
  rintro e w1 ⟨rfl, hb1⟩
  have b1 := hb1
  go_wp2_with fail
  refine (HN.out _ (hT.later b1)).mono ?_
  rintro e w2 ⟨rfl, hb2⟩
  have b2 := b1.trans (hb2.mono b1.size)
  go_wp2_with fail
  refine (HI.out _).mono ?_
  rintro e w3 ⟨rfl, hb3⟩
  have b3 := b2.trans (hb3.mono b2.size)
  go_wp2_with fail
  refine (HJ.out _).mono ?_
  rintro e w4 ⟨rfl, hb4⟩
  have b4 := b3.trans (hb4.mono b3.size)
  go_wp2_with fail
  refine (HX.out _ (hT.later b4)).mono ?_
  rintro e w5 ⟨rfl, hb5⟩
  have b5 := b4.trans (hb5.mono b4.size)
  go_wp2_with fail
  refine (HR.out _ (hT.later b5)).mono ?_
  rintro e w6 ⟨rfl, hb6⟩
  have b6 := b5.trans (hb6.mono b5.size)
  go_wp2
  go_ret
  exact ⟨rfl, b6⟩

end Go.Proofs.YtlocmdiljfkhkaaDoor.Pln
