/- The law QuoteWrites: it answers true. -/
import Derived.Test.YtiipndfogofhgaaDoorQuoteAlive
import Derived.Test.YtiipndfogofhgaaDoorQuoteMax
import Derived.Test.YtiipndfogofhgaaDoorQuoteRsm
namespace Go.Proofs.YtiipndfogofhgaaDoor.Quo
open Utf Rws
open Go.RowKit
set_option linter.unusedSimpArgs false
set_option linter.unusedVariables false
set_option maxRecDepth 100000

set_option maxHeartbeats 1000000 in
theorem writes_walk (s : ByteArray) (w : World) (hs : s.size ≤ 1048576) (hT : Tabs w) (hM : Mx w) :
    Calls Tryd.prog 4 #[.string s] w fun e w' => e = .returned (.bool true) ∧ Below w.heap.size w w' := by
  obtain ⟨l, rfl⟩ := mk_ex s
  rw [mk_size] at hs
  have h1 := single_any l w (by omega) hM
  have h2 := fun w => rsingle_any l w (by omega)
  have h3 := fun w hT => double_any l w (by omega) hT
  have h4 := fun w => rdouble_any l w (by omega)
  have h5 := fun w => simple_any l w (by omega)
  have h6 := fun w => rsimple_any l w (by omega)
  have HT : Hid (Tabs w) := hT
  generalize sngS l = A at *
  generalize sngE l = E at *
  generalize dblS l = C at *
  generalize dblE l = G at *
  generalize smp l = V at *
  have H1 : Hid (Calls Tryd.prog 12 #[.string (mk l)] w fun e w' => e = .returned (.tuple #[.string (mk A), .int .i64 E]) ∧ Below w.heap.size w w') := h1
  have H2 : Hid (∀ w, Calls Tryd.prog 13 #[.string (mk l)] w fun e w' => e = .returned (.tuple #[.string (mk A), .int .i64 E]) ∧ Below w.heap.size w w') := h2
  have H3 : Hid (∀ w, Tabs w → Calls Tryd.prog 14 #[.string (mk l)] w fun e w' => e = .returned (.tuple #[.string (mk C), .int .i64 G]) ∧ Below w.heap.size w w') := h3
  have H4 : Hid (∀ w, Calls Tryd.prog 15 #[.string (mk l)] w fun e w' => e = .returned (.tuple #[.string (mk C), .int .i64 G]) ∧ Below w.heap.size w w') := h4
  have H5 : Hid (∀ w, Calls Tryd.prog 16 #[.string (mk l)] w fun e w' => e = .returned (.bool V) ∧ w = w') := h5
  have H6 : Hid (∀ w, Calls Tryd.prog 17 #[.string (mk l)] w fun e w' => e = .returned (.bool V) ∧ Below w.heap.size w w') := h6
  clear h1 h2 h3 h4 h5 h6 hT hM
  go_enter Tryd.func4, Tryd.ntmps4
  go_wp2_with fail
  refine H1.out.mono ?_
  rintro e w1 ⟨rfl, b1⟩
  go_wp2_with fail
  refine (H2.out _).mono ?_
  rintro e w2 ⟨rfl, b2⟩
  have b12 := b1.trans (b2.mono b1.size)
  go_wp2_with fail
  refine (H3.out _ (HT.out.later b12)).mono ?_
  rintro e w3 ⟨rfl, b3⟩
  have b13 := b12.trans (b3.mono b12.size)
  go_wp2_with fail
  refine (H4.out _).mono ?_
  rintro e w4 ⟨rfl, b4⟩
  have b14 := b13.trans (b4.mono b13.size)
  have HB : Hid (Below w.heap.size w w4) := b14
  clear b1 b2 b3 b4 b12 b13 b14
  go_wp2_with fail
  refine (H5.out _).mono ?_
  rintro e w' ⟨rfl, rfl⟩
  go_wp2_with fail
  refine (H6.out _).mono ?_
  rintro e w5 ⟨rfl, b5⟩
  have HB5 : Hid (Below w.heap.size w w5) := HB.out.trans (b5.mono HB.out.size)
  clear b5
  go_wp2_with (first | (go_at_call 11; refine (alive_any _ (HT.out.later HB5.out)).mono ?_; rintro e w6 ⟨rfl, b6⟩))
  go_ret
  exact ⟨rfl, HB5.out.trans (b6.mono HB5.out.size)⟩

end Go.Proofs.YtiipndfogofhgaaDoor.Quo
