/- grommetlaw06.PlainNumbers, by the contracts of what it calls. -/
import Derived.Test.YtlocmdiljfkhkaaDoorPlainAlive
namespace Go.Proofs.YtlocmdiljfkhkaaDoor.Pln
open Utf Rws
open Go.RowKit
set_option linter.unusedSimpArgs false
set_option linter.unusedVariables false
set_option maxRecDepth 100000

theorem kind_itoa (n : Int) (h : inI n) : kind (Lib.itoa n) = 3 := by
  obtain ⟨h1, h2, h3, h4⟩ := itoa_dg n
  have hb : numB (Lib.itoa n) = true := by unfold numB; rw [numA_itoa n h]; rfl
  have hne : ∀ (c : UInt8) (r : List UInt8), (c.toNat < 45 ∨ 57 < c.toNat) → (Lib.itoa n == c :: r) = false := fun c r hc => by
    rw [beq_eq_false_iff_ne]
    intro e
    have := dg_ne (h1 c (by rw [e]; simp)) c hc
    simp at this
  unfold kind
  rw [hne 126 [] (by decide), hne 110 _ (by decide), hne 116 _ (by decide), hne 102 _ (by decide), hb]
  have e0 : (Lib.itoa n == []) = false := by simpa using h2
  rw [e0]; rfl

theorem in_of {n : Int} (hn : (Lit.int .i64 n).wf = true) : inI n := by
  have h := bounds_i64 hn
  exact ⟨by omega, by omega⟩

theorem numbers_any (n : Int) (w : World) (hn : (Lit.int .i64 n).wf = true) (hT : Tabs w) : Calls Tryd.prog 8 #[.int .i64 n] w fun e w' => e = .returned (.bool true) ∧ Below w.heap.size w w' := by
  have hin := in_of hn
  clear hn
  have hlen := itoa_len n hin
  have HX : Hid (∀ w, Tabs w → Calls Tryd.prog 19 #[.int .i64 n] w fun e w' => e = .returned (.string (mk (Lib.itoa n))) ∧ Below w.heap.size w w') := fun w hT => text_any n w hin hT
  have HN : Hid (∀ w, Tabs w → Calls Tryd.prog 15 #[.string (mk (Lib.itoa n))] w fun e w' => e = .returned (.tuple #[.int .i64 n, .bool true]) ∧ Below w.heap.size w w') := fun w hT => by
    have h := number_any (Lib.itoa n) w (by omega) hT
    have e := numA_itoa n hin
    rw [show numN (Lib.itoa n) = n by unfold numN; rw [e]; rfl, show numB (Lib.itoa n) = true by unfold numB; rw [e]; rfl] at h
    exact h
  have HI : Hid (∀ f w, Calls Tryd.prog 10 #[.string (mk (Lib.itoa n)), .bool f] w fun e w' => e = .returned (.bool true) ∧ Below w.heap.size w w') := fun f w => by
    have h := is_any (Lib.itoa n) f w (by omega)
    rw [itoa_isP n f] at h
    exact h
  have HR : Hid (∀ w, Tabs w → Calls Tryd.prog 17 #[.string (mk (Lib.itoa n))] w fun e w' => e = .returned (.int .i64 3) ∧ Below w.heap.size w w') := fun w hT => by
    have h := resolve_any (Lib.itoa n) w (by omega) hT
    rw [kind_itoa n hin] at h
    exact h
  generalize mk (Lib.itoa n) = s at HX HN HI HR
  have h1 := hin.1
  have h2 := hin.2
  clear hlen
  go_enter Tryd.func8, Tryd.ntmps8
  go_wp2_with fail
  refine (HX.out _ hT).mono ?_
  rintro e w1 ⟨rfl, hb1⟩
  have b1 := hb1
  go_wp2_with fail
  refine (HN.out _ (hT.later b1)).mono ?_
  rintro e w2 ⟨rfl, hb2⟩
  have b2 := b1.trans (hb2.mono b1.size)
  go_wp2_with fail
  refine (HI.out true _).mono ?_
  rintro e w3 ⟨rfl, hb3⟩
  have b3 := b2.trans (hb3.mono b2.size)
  go_wp2_with fail
  refine (HI.out false _).mono ?_
  rintro e w4 ⟨rfl, hb4⟩
  have b4 := b3.trans (hb4.mono b3.size)
  go_wp2_with fail
  refine (HR.out _ (hT.later b4)).mono ?_
  rintro e w5 ⟨rfl, hb5⟩
  have b5 := b4.trans (hb5.mono b4.size)
  go_wp2_with fail
  refine (alive_any _ (hT.later b5)).mono ?_
  rintro e w6 ⟨rfl, hb6⟩
  have b6 := b5.trans (hb6.mono b5.size)
  go_wp2
  go_ret
  exact ⟨rfl, b6⟩

end Go.Proofs.YtlocmdiljfkhkaaDoor.Pln
