/- grommetlaw06.PlainWhole, by the contracts of what it calls. -/
import Derived.Test.YtlocmdiljfkhkaaDoorPlainAlive
namespace Go.Proofs.YtlocmdiljfkhkaaDoor.Pln
open Utf Rws
open Go.RowKit
set_option linter.unusedSimpArgs false
set_option linter.unusedVariables false
set_option maxRecDepth 100000

theorem whole_any (s : ByteArray) (f : Bool) (w : World) (hs : s.size ≤ 140737488351232) (hT : Tabs w) : Calls Tryd.prog 6 #[.string s, .bool f] w fun e w' => e = .returned (.bool true) ∧ Below w.heap.size w w' := by
  obtain ⟨l, rfl⟩ := mk_ex s
  rw [mk_size] at hs
  have hsz := mk_size l
  cases hp : isP l f
  · have HI : Hid (∀ w, Calls Tryd.prog 10 #[.string (mk l), .bool f] w fun e w' => e = .returned (.bool false) ∧ Below w.heap.size w w') := fun w => by rw [← hp]; exact is_any l f w hs
    clear hp
    cases c1 : (l == [])
    · have q1 := eq_l l []
      rw [c1] at q1
      go_enter Tryd.func6, Tryd.ntmps6
      go_wp2_with fail
      refine (HI.out _).mono ?_
      rintro e w1 ⟨rfl, hb1⟩
      go_wp2_with fail
      refine (alive_any _ (hT.later hb1)).mono ?_
      rintro e w2 ⟨rfl, hb2⟩
      go_wp2
      go_ret
      exact ⟨rfl, hb1.trans (hb2.mono hb1.size)⟩
    · have e0 : l = [] := by simpa using c1
      have HJ : Hid (∀ w, Calls Tryd.prog 10 #[.string (mk l), .bool false] w fun e w' => e = .returned (.bool false) ∧ Below w.heap.size w w') := fun w => by
        have h := is_any l false w hs
        have hne : isP l false = false := by
          cases h9 : isP l false
          · rfl
          · exact absurd e0 (isP_ne h9)
        rw [hne] at h; exact h
      have q1 := eq_l l []
      rw [c1] at q1
      clear c1 e0
      go_enter Tryd.func6, Tryd.ntmps6
      go_wp2_with fail
      refine (HI.out _).mono ?_
      rintro e w1 ⟨rfl, hb1⟩
      go_wp2_with fail
      refine (HJ.out _).mono ?_
      rintro e w2 ⟨rfl, hb2⟩
      have b2 := hb1.trans (hb2.mono hb1.size)
      go_wp2_with fail
      refine (alive_any _ (hT.later b2)).mono ?_
      rintro e w3 ⟨rfl, hb3⟩
      go_wp2
      go_ret
      exact ⟨rfl, b2.trans (hb3.mono b2.size)⟩
  · have HI : Hid (∀ w, Calls Tryd.prog 10 #[.string (mk l), .bool f] w fun e w' => e = .returned (.bool true) ∧ Below w.heap.size w w') := fun w => by rw [← hp]; exact is_any l f w hs
    have HJ : Hid (∀ w, Calls Tryd.prog 10 #[.string (mk l), .bool false] w fun e w' => e = .returned (.bool true) ∧ Below w.heap.size w w') := fun w => by
      have h := is_any l false w hs
      have hne : isP l false = true := by
        cases f
        · exact hp
        · exact isP_flow l hp
      rw [hne] at h; exact h
    have HC : Hid (∀ w, Calls Tryd.prog 13 #[.string (mk l), .bool f] w fun e w' => e = .returned (.tuple #[.string (mk l), .int .i64 l.length]) ∧ Below w.heap.size w w') := fun w => by
      have h := cut_any l f w (by omega)
      rw [cutT_whole hp, isP_fin hp] at h; exact h
    clear hp
    go_enter Tryd.func6, Tryd.ntmps6
    go_wp2_with fail
    refine (HI.out _).mono ?_
    rintro e w1 ⟨rfl, hb1⟩
    go_wp2_with fail
    refine (HC.out _).mono ?_
    rintro e w2 ⟨rfl, hb2⟩
    have b2 := hb1.trans (hb2.mono hb1.size)
    go_wp2_with fail
    refine (HJ.out _).mono ?_
    rintro e w3 ⟨rfl, hb3⟩
    have b3 := b2.trans (hb3.mono b2.size)
    go_wp2_with fail
    refine (alive_any _ (hT.later b3)).mono ?_
    rintro e w4 ⟨rfl, hb4⟩
    go_wp2
    go_ret
    exact ⟨rfl, b3.trans (hb4.mono b3.size)⟩

end Go.Proofs.YtlocmdiljfkhkaaDoor.Pln
