/- The walk of FlowWrites. -/
import Derived.Test.YteokhnielbmifaaGreatDoorFbRE
import Derived.Test.YteokhnielbmifaaGreatDoorFbS
namespace Go.Proofs.YteokhnielbmifaaGreatDoor.Flw
open Utf Rws Pln
open Go.RowKit
set_option linter.unusedSimpArgs false
set_option linter.unusedVariables false
set_option maxRecDepth 100000
set_option maxHeartbeats 4000000

/-- behind w, with the two trees' boxes -/
def WP (w : World) (K0 K1 : Nat) (ca cb : Array Value) (w' : World) : Prop := Below w.heap.size w w' ∧ Bx w' K0 ca 24 ∧ Bx w' K1 cb 24
theorem WP.go {w w1 w2 : World} {K0 K1 : Nat} {ca cb : Array Value} (h : WP w K0 K1 ca cb w1) (b : Below w1.heap.size w1 w2) : WP w K0 K1 ca cb w2 := ⟨h.1.trans (b.mono h.1.size), h.2.1.later b, h.2.2.later b⟩
theorem writes_tail (ka kb E : Int) (xa aa xb ab X Z : Ln) (ada adb : Option Addr) (lena capa lenb capb : Nat) (inn r qs nq : Bool) (w : World) (K0 K1 : Nat) (Q1 Q2 : Prop) (hK0 : K0 = w.heap.size) (hK1 : K1 = w.heap.size + 1)
    (HP : Hid (WP w K0 K1 #[.int .i64 ka, .string (mk xa), .string (mk aa), .slice ada lena capa] #[.int .i64 kb, .string (mk xb), .string (mk ab), .slice adb lenb capb] ((w.alloc (.cells #[.int .i64 ka, .string (mk xa), .string (mk aa), .slice ada lena capa] 24)).alloc (.cells #[.int .i64 kb, .string (mk xb), .string (mk ab), .slice adb lenb capb] 24))))
    (HFA : Hid (∀ w1, WP w K0 K1 #[.int .i64 ka, .string (mk xa), .string (mk aa), .slice ada lena capa] #[.int .i64 kb, .string (mk xb), .string (mk ab), .slice adb lenb capb] w1 → Calls Tryz.prog 8 #[.agg #[.int .i64 ka, .string (mk xa), .string (mk aa), .slice ada lena capa]] w1 fun e w' => ∃ q : Bool, e = .returned (.bool q) ∧ Hid (WP w K0 K1 #[.int .i64 ka, .string (mk xa), .string (mk aa), .slice ada lena capa] #[.int .i64 kb, .string (mk xb), .string (mk ab), .slice adb lenb capb] w' ∧ (q = false → Q1))))
    (HFB : Hid (∀ w1, WP w K0 K1 #[.int .i64 ka, .string (mk xa), .string (mk aa), .slice ada lena capa] #[.int .i64 kb, .string (mk xb), .string (mk ab), .slice adb lenb capb] w1 → Calls Tryz.prog 8 #[.agg #[.int .i64 kb, .string (mk xb), .string (mk ab), .slice adb lenb capb]] w1 fun e w' => ∃ q : Bool, e = .returned (.bool q) ∧ Hid (WP w K0 K1 #[.int .i64 ka, .string (mk xa), .string (mk aa), .slice ada lena capa] #[.int .i64 kb, .string (mk xb), .string (mk ab), .slice adb lenb capb] w' ∧ (q = false → Q2))))
    (HW : Hid (Q1 → Q2 → ∀ w1, WP w K0 K1 #[.int .i64 ka, .string (mk xa), .string (mk aa), .slice ada lena capa] #[.int .i64 kb, .string (mk xb), .string (mk ab), .slice adb lenb capb] w1 → Calls Tryz.prog 10 #[.agg #[.int .i64 ka, .string (mk xa), .string (mk aa), .slice ada lena capa]] w1 fun e w' => e = .returned (.tuple #[.string (mk X), .int .i64 E]) ∧ Hid (WP w K0 K1 #[.int .i64 ka, .string (mk xa), .string (mk aa), .slice ada lena capa] #[.int .i64 kb, .string (mk xb), .string (mk ab), .slice adb lenb capb] w')))
    (HRW : Hid (Q1 → Q2 → ∀ w1, WP w K0 K1 #[.int .i64 ka, .string (mk xa), .string (mk aa), .slice ada lena capa] #[.int .i64 kb, .string (mk xb), .string (mk ab), .slice adb lenb capb] w1 → Calls Tryz.prog 11 #[.agg #[.int .i64 ka, .string (mk xa), .string (mk aa), .slice ada lena capa]] w1 fun e w' => e = .returned (.tuple #[.string (mk X), .int .i64 E]) ∧ Hid (WP w K0 K1 #[.int .i64 ka, .string (mk xa), .string (mk aa), .slice ada lena capa] #[.int .i64 kb, .string (mk xb), .string (mk ab), .slice adb lenb capb] w')))
    (HR : Hid (Q1 → Q2 → ∀ w1, WP w K0 K1 #[.int .i64 ka, .string (mk xa), .string (mk aa), .slice ada lena capa] #[.int .i64 kb, .string (mk xb), .string (mk ab), .slice adb lenb capb] w1 → Calls Tryz.prog 12 #[.agg #[.int .i64 ka, .string (mk xa), .string (mk aa), .slice ada lena capa]] w1 fun e w' => e = .returned (.bool r) ∧ Below w1.heap.size w1 w'))
    (HRR : Hid (Q1 → Q2 → ∀ w1, WP w K0 K1 #[.int .i64 ka, .string (mk xa), .string (mk aa), .slice ada lena capa] #[.int .i64 kb, .string (mk xb), .string (mk ab), .slice adb lenb capb] w1 → Calls Tryz.prog 13 #[.agg #[.int .i64 ka, .string (mk xa), .string (mk aa), .slice ada lena capa]] w1 fun e w' => e = .returned (.bool r) ∧ Below w1.heap.size w1 w'))
    (HS : Hid (Q1 → Q2 → ∀ w1, WP w K0 K1 #[.int .i64 ka, .string (mk xa), .string (mk aa), .slice ada lena capa] #[.int .i64 kb, .string (mk xb), .string (mk ab), .slice adb lenb capb] w1 → Calls Tryz.prog 14 #[.agg #[.int .i64 ka, .string (mk xa), .string (mk aa), .slice ada lena capa], .agg #[.int .i64 kb, .string (mk xb), .string (mk ab), .slice adb lenb capb]] w1 fun e w' => e = .returned (.bool qs) ∧ Below w1.heap.size w1 w'))
    (HRS : Hid (Q1 → Q2 → ∀ w1, WP w K0 K1 #[.int .i64 ka, .string (mk xa), .string (mk aa), .slice ada lena capa] #[.int .i64 kb, .string (mk xb), .string (mk ab), .slice adb lenb capb] w1 → Calls Tryz.prog 15 #[.agg #[.int .i64 ka, .string (mk xa), .string (mk aa), .slice ada lena capa], .agg #[.int .i64 kb, .string (mk xb), .string (mk ab), .slice adb lenb capb]] w1 fun e w' => e = .returned (.bool qs) ∧ Below w1.heap.size w1 w'))
    (HSS : Hid (Q1 → Q2 → ∀ w1, WP w K0 K1 #[.int .i64 ka, .string (mk xa), .string (mk aa), .slice ada lena capa] #[.int .i64 kb, .string (mk xb), .string (mk ab), .slice adb lenb capb] w1 → Calls Tryz.prog 14 #[.agg #[.int .i64 ka, .string (mk xa), .string (mk aa), .slice ada lena capa], .agg #[.int .i64 ka, .string (mk xa), .string (mk aa), .slice ada lena capa]] w1 fun e w' => e = .returned (.bool true) ∧ Below w1.heap.size w1 w'))
    (HC : Hid (Q1 → Q2 → ∀ w1, WP w K0 K1 #[.int .i64 ka, .string (mk xa), .string (mk aa), .slice ada lena capa] #[.int .i64 kb, .string (mk xb), .string (mk ab), .slice adb lenb capb] w1 → Calls Tryz.prog 16 #[.agg #[.int .i64 ka, .string (mk xa), .string (mk aa), .slice ada lena capa], .bool inn] w1 fun e w' => e = .returned (.string (mk Z)) ∧ Below w1.heap.size w1 w'))
    (HRC : Hid (Q1 → Q2 → ∀ w1, WP w K0 K1 #[.int .i64 ka, .string (mk xa), .string (mk aa), .slice ada lena capa] #[.int .i64 kb, .string (mk xb), .string (mk ab), .slice adb lenb capb] w1 → Calls Tryz.prog 17 #[.agg #[.int .i64 ka, .string (mk xa), .string (mk aa), .slice ada lena capa], .bool inn] w1 fun e w' => e = .returned (.string (mk Z)) ∧ Below w1.heap.size w1 w'))
    (HN : Hid (Q1 → ∀ w1, WP w K0 K1 #[.int .i64 ka, .string (mk xa), .string (mk aa), .slice ada lena capa] #[.int .i64 kb, .string (mk xb), .string (mk ab), .slice adb lenb capb] w1 → Calls Tryz.prog 18 #[.string (mk aa)] w1 fun e w' => e = .returned (.bool nq) ∧ Below w1.heap.size w1 w'))
    (HRN : Hid (Q1 → ∀ w1, WP w K0 K1 #[.int .i64 ka, .string (mk xa), .string (mk aa), .slice ada lena capa] #[.int .i64 kb, .string (mk xb), .string (mk ab), .slice adb lenb capb] w1 → Calls Tryz.prog 19 #[.string (mk aa)] w1 fun e w' => e = .returned (.bool nq) ∧ Below w1.heap.size w1 w'))
    (HAL : Hid (∀ w1, WP w K0 K1 #[.int .i64 ka, .string (mk xa), .string (mk aa), .slice ada lena capa] #[.int .i64 kb, .string (mk xb), .string (mk ab), .slice adb lenb capb] w1 → Calls Tryz.prog 9 #[] w1 fun e w' => e = .returned (.bool true) ∧ Below w1.heap.size w1 w')) :
    Calls Tryz.prog 3 #[.agg #[.int .i64 ka, .string (mk xa), .string (mk aa), .slice ada lena capa], .agg #[.int .i64 kb, .string (mk xb), .string (mk ab), .slice adb lenb capb], .bool inn] w fun e w' => e = .returned (.bool true) ∧ Below w.heap.size w w' := by
  go_enter Tryz.func3, Tryz.ntmps3
  go_upto_region 1 with fail
  generalize (w.alloc (.cells #[.int .i64 ka, .string (mk xa), .string (mk aa), .slice ada lena capa] 24)).alloc (.cells #[.int .i64 kb, .string (mk xb), .string (mk ab), .slice adb lenb capb] 24) = W0 at HP ⊢
  rw [← hK1, ← hK0]
  replace hK0 : Hid (K0 = w.heap.size) := hK0
  replace hK1 : Hid (K1 = w.heap.size + 1) := hK1
  have a0 : W0.cell? ⟨K0, 0, none⟩ = some (.int .i64 ka) := HP.out.2.1.cell 0
  have a1 : W0.cell? ⟨K0, 1, none⟩ = some (.string (mk xa)) := HP.out.2.1.cell 1
  have a2 : W0.cell? ⟨K0, 2, none⟩ = some (.string (mk aa)) := HP.out.2.1.cell 2
  have a3 : W0.cell? ⟨K0, 3, none⟩ = some (.slice ada lena capa) := HP.out.2.1.cell 3
  have b0 : W0.cell? ⟨K1, 0, none⟩ = some (.int .i64 kb) := HP.out.2.2.cell 0
  have b1 : W0.cell? ⟨K1, 1, none⟩ = some (.string (mk xb)) := HP.out.2.2.cell 1
  have b2 : W0.cell? ⟨K1, 2, none⟩ = some (.string (mk ab)) := HP.out.2.2.cell 2
  have b3 : W0.cell? ⟨K1, 3, none⟩ = some (.slice adb lenb capb) := HP.out.2.2.cell 3
  go_wp2_with fail
  refine (HFA.out W0 HP.out).mono ?_
  rintro e w1 ⟨qa, rfl, H1⟩
  clear a0 a1 a2 a3 b0 b1 b2 b3
  have P1 : Hid (WP w K0 K1 #[.int .i64 ka, .string (mk xa), .string (mk aa), .slice ada lena capa] #[.int .i64 kb, .string (mk xb), .string (mk ab), .slice adb lenb capb] w1) := H1.out.1
  have a0 : w1.cell? ⟨K0, 0, none⟩ = some (.int .i64 ka) := P1.out.2.1.cell 0
  have a1 : w1.cell? ⟨K0, 1, none⟩ = some (.string (mk xa)) := P1.out.2.1.cell 1
  have a2 : w1.cell? ⟨K0, 2, none⟩ = some (.string (mk aa)) := P1.out.2.1.cell 2
  have a3 : w1.cell? ⟨K0, 3, none⟩ = some (.slice ada lena capa) := P1.out.2.1.cell 3
  have b0 : w1.cell? ⟨K1, 0, none⟩ = some (.int .i64 kb) := P1.out.2.2.cell 0
  have b1 : w1.cell? ⟨K1, 1, none⟩ = some (.string (mk xb)) := P1.out.2.2.cell 1
  have b2 : w1.cell? ⟨K1, 2, none⟩ = some (.string (mk ab)) := P1.out.2.2.cell 2
  have b3 : w1.cell? ⟨K1, 3, none⟩ = some (.slice adb lenb capb) := P1.out.2.2.cell 3
  cases qa
  · go_wp2_with fail
    refine (HFB.out w1 P1.out).mono ?_
    rintro e w2 ⟨qb, rfl, H2⟩
    clear a0 a1 a2 a3 b0 b1 b2 b3
    have P2 : Hid (WP w K0 K1 #[.int .i64 ka, .string (mk xa), .string (mk aa), .slice ada lena capa] #[.int .i64 kb, .string (mk xb), .string (mk ab), .slice adb lenb capb] w2) := H2.out.1
    have a0 : w2.cell? ⟨K0, 0, none⟩ = some (.int .i64 ka) := P2.out.2.1.cell 0
    have a1 : w2.cell? ⟨K0, 1, none⟩ = some (.string (mk xa)) := P2.out.2.1.cell 1
    have a2 : w2.cell? ⟨K0, 2, none⟩ = some (.string (mk aa)) := P2.out.2.1.cell 2
    have a3 : w2.cell? ⟨K0, 3, none⟩ = some (.slice ada lena capa) := P2.out.2.1.cell 3
    have b0 : w2.cell? ⟨K1, 0, none⟩ = some (.int .i64 kb) := P2.out.2.2.cell 0
    have b1 : w2.cell? ⟨K1, 1, none⟩ = some (.string (mk xb)) := P2.out.2.2.cell 1
    have b2 : w2.cell? ⟨K1, 2, none⟩ = some (.string (mk ab)) := P2.out.2.2.cell 2
    have b3 : w2.cell? ⟨K1, 3, none⟩ = some (.slice adb lenb capb) := P2.out.2.2.cell 3
    cases qb
    · have g1 : Hid Q1 := H1.out.2 (by first | rfl | trivial)
      have g2 : Hid Q2 := H2.out.2 (by first | rfl | trivial)
      clear H1 H2 HFA HFB
      go_wp2_with fail
      refine (HW.out g1.out g2.out w2 P2.out).mono ?_
      rintro e w3 ⟨rfl, P3⟩
      clear a0 a1 a2 a3 b0 b1 b2 b3
      have a0 : w3.cell? ⟨K0, 0, none⟩ = some (.int .i64 ka) := P3.out.2.1.cell 0
      have a1 : w3.cell? ⟨K0, 1, none⟩ = some (.string (mk xa)) := P3.out.2.1.cell 1
      have a2 : w3.cell? ⟨K0, 2, none⟩ = some (.string (mk aa)) := P3.out.2.1.cell 2
      have a3 : w3.cell? ⟨K0, 3, none⟩ = some (.slice ada lena capa) := P3.out.2.1.cell 3
      have b0 : w3.cell? ⟨K1, 0, none⟩ = some (.int .i64 kb) := P3.out.2.2.cell 0
      have b1 : w3.cell? ⟨K1, 1, none⟩ = some (.string (mk xb)) := P3.out.2.2.cell 1
      have b2 : w3.cell? ⟨K1, 2, none⟩ = some (.string (mk ab)) := P3.out.2.2.cell 2
      have b3 : w3.cell? ⟨K1, 3, none⟩ = some (.slice adb lenb capb) := P3.out.2.2.cell 3
      go_wp2_with fail
      refine (HRW.out g1.out g2.out w3 P3.out).mono ?_
      rintro e w4 ⟨rfl, P4⟩
      clear a0 a1 a2 a3 b0 b1 b2 b3
      have a0 : w4.cell? ⟨K0, 0, none⟩ = some (.int .i64 ka) := P4.out.2.1.cell 0
      have a1 : w4.cell? ⟨K0, 1, none⟩ = some (.string (mk xa)) := P4.out.2.1.cell 1
      have a2 : w4.cell? ⟨K0, 2, none⟩ = some (.string (mk aa)) := P4.out.2.1.cell 2
      have a3 : w4.cell? ⟨K0, 3, none⟩ = some (.slice ada lena capa) := P4.out.2.1.cell 3
      have b0 : w4.cell? ⟨K1, 0, none⟩ = some (.int .i64 kb) := P4.out.2.2.cell 0
      have b1 : w4.cell? ⟨K1, 1, none⟩ = some (.string (mk xb)) := P4.out.2.2.cell 1
      have b2 : w4.cell? ⟨K1, 2, none⟩ = some (.string (mk ab)) := P4.out.2.2.cell 2
      have b3 : w4.cell? ⟨K1, 3, none⟩ = some (.slice adb lenb capb) := P4.out.2.2.cell 3
      have u0 : ∀ q : QW w4, q.w.cell? ⟨K0, 0, none⟩ = some (.int .i64 ka) := fun q => (P4.out.go q.h).2.1.cell 0
      have u1 : ∀ q : QW w4, q.w.cell? ⟨K0, 1, none⟩ = some (.string (mk xa)) := fun q => (P4.out.go q.h).2.1.cell 1
      have u2 : ∀ q : QW w4, q.w.cell? ⟨K0, 2, none⟩ = some (.string (mk aa)) := fun q => (P4.out.go q.h).2.1.cell 2
      have u3 : ∀ q : QW w4, q.w.cell? ⟨K0, 3, none⟩ = some (.slice ada lena capa) := fun q => (P4.out.go q.h).2.1.cell 3
      have v0 : ∀ q : QW w4, q.w.cell? ⟨K1, 0, none⟩ = some (.int .i64 kb) := fun q => (P4.out.go q.h).2.2.cell 0
      have v1 : ∀ q : QW w4, q.w.cell? ⟨K1, 1, none⟩ = some (.string (mk xb)) := fun q => (P4.out.go q.h).2.2.cell 1
      have v2 : ∀ q : QW w4, q.w.cell? ⟨K1, 2, none⟩ = some (.string (mk ab)) := fun q => (P4.out.go q.h).2.2.cell 2
      have v3 : ∀ q : QW w4, q.w.cell? ⟨K1, 3, none⟩ = some (.slice adb lenb capb) := fun q => (P4.out.go q.h).2.2.cell 3
      have THR : Hid (∀ q : QW w4, Calls Tryz.prog 12 #[.agg #[.int .i64 ka, .string (mk xa), .string (mk aa), .slice ada lena capa]] q.w fun e w' => e = .returned (.bool r) ∧ Below q.w.heap.size q.w w') := fun q => HR.out g1.out g2.out q.w (P4.out.go q.h)
      have THRR : Hid (∀ q : QW w4, Calls Tryz.prog 13 #[.agg #[.int .i64 ka, .string (mk xa), .string (mk aa), .slice ada lena capa]] q.w fun e w' => e = .returned (.bool r) ∧ Below q.w.heap.size q.w w') := fun q => HRR.out g1.out g2.out q.w (P4.out.go q.h)
      have THS : Hid (∀ q : QW w4, Calls Tryz.prog 14 #[.agg #[.int .i64 ka, .string (mk xa), .string (mk aa), .slice ada lena capa], .agg #[.int .i64 kb, .string (mk xb), .string (mk ab), .slice adb lenb capb]] q.w fun e w' => e = .returned (.bool qs) ∧ Below q.w.heap.size q.w w') := fun q => HS.out g1.out g2.out q.w (P4.out.go q.h)
      have THRS : Hid (∀ q : QW w4, Calls Tryz.prog 15 #[.agg #[.int .i64 ka, .string (mk xa), .string (mk aa), .slice ada lena capa], .agg #[.int .i64 kb, .string (mk xb), .string (mk ab), .slice adb lenb capb]] q.w fun e w' => e = .returned (.bool qs) ∧ Below q.w.heap.size q.w w') := fun q => HRS.out g1.out g2.out q.w (P4.out.go q.h)
      have THSS : Hid (∀ q : QW w4, Calls Tryz.prog 14 #[.agg #[.int .i64 ka, .string (mk xa), .string (mk aa), .slice ada lena capa], .agg #[.int .i64 ka, .string (mk xa), .string (mk aa), .slice ada lena capa]] q.w fun e w' => e = .returned (.bool true) ∧ Below q.w.heap.size q.w w') := fun q => HSS.out g1.out g2.out q.w (P4.out.go q.h)
      have THC : Hid (∀ q : QW w4, Calls Tryz.prog 16 #[.agg #[.int .i64 ka, .string (mk xa), .string (mk aa), .slice ada lena capa], .bool inn] q.w fun e w' => e = .returned (.string (mk Z)) ∧ Below q.w.heap.size q.w w') := fun q => HC.out g1.out g2.out q.w (P4.out.go q.h)
      have THRC : Hid (∀ q : QW w4, Calls Tryz.prog 17 #[.agg #[.int .i64 ka, .string (mk xa), .string (mk aa), .slice ada lena capa], .bool inn] q.w fun e w' => e = .returned (.string (mk Z)) ∧ Below q.w.heap.size q.w w') := fun q => HRC.out g1.out g2.out q.w (P4.out.go q.h)
      have THN : Hid (∀ q : QW w4, Calls Tryz.prog 18 #[.string (mk aa)] q.w fun e w' => e = .returned (.bool nq) ∧ Below q.w.heap.size q.w w') := fun q => HN.out g1.out q.w (P4.out.go q.h)
      have THRN : Hid (∀ q : QW w4, Calls Tryz.prog 19 #[.string (mk aa)] q.w fun e w' => e = .returned (.bool nq) ∧ Below q.w.heap.size q.w w') := fun q => HRN.out g1.out q.w (P4.out.go q.h)
      have THAL : Hid (∀ q : QW w4, Calls Tryz.prog 9 #[] q.w fun e w' => e = .returned (.bool true) ∧ Below q.w.heap.size q.w w') := fun q => HAL.out q.w (P4.out.go q.h)
      have HBW : Hid (∀ q : QW w4, Below w.heap.size w q.w) := fun q => (P4.out.go q.h).1
      have hNE : Nonempty (QW w4) := ⟨⟨w4, Below.refl _ _⟩⟩
      clear a0 a1 a2 a3 b0 b1 b2 b3 HW HRW HR HRR HS HRS HSS HC HRC HN HRN
      go_upto_region 5 with fail
      refine wp_region_class (by kernel_rfl) (by kernel_rfl) ?_
      obtain ⟨SA, hSA1, hSA2, TSS⟩ : ∃ SA : Value → Bool → Prop, SA (.agg #[.int .i64 kb, .string (mk xb), .string (mk ab), .slice adb lenb capb]) qs ∧ SA (.agg #[.int .i64 ka, .string (mk xa), .string (mk aa), .slice ada lena capa]) true ∧ Hid (∀ (q : QW w4) (v : Value) (b : Bool), SA v b → Calls Tryz.prog 14 #[.agg #[.int .i64 ka, .string (mk xa), .string (mk aa), .slice ada lena capa], v] q.w fun e w' => e = .returned (.bool b) ∧ Below q.w.heap.size q.w w') := ⟨fun v b => ∀ q : QW w4, Calls Tryz.prog 14 #[.agg #[.int .i64 ka, .string (mk xa), .string (mk aa), .slice ada lena capa], v] q.w fun e w' => e = .returned (.bool b) ∧ Below q.w.heap.size q.w w', fun q => THS.out q, fun q => THSS.out q, fun q v b h => h q⟩
      clear THS THSS
      repeat (go_big_quiet_step (first | (go_at_call 12; refine calls_class _ (THR.out _)) | (go_at_call 13; refine calls_class _ (THRR.out _)) | (go_at_call 14; apply calls_class; apply TSS.out; first | exact hSA1 | exact hSA2) | (go_at_call 15; refine calls_class _ (THRS.out _)) | (go_at_call 16; refine calls_class _ (THC.out _)) | (go_at_call 17; refine calls_class _ (THRC.out _)) | (go_at_call 18; refine calls_class _ (THN.out _)) | (go_at_call 19; refine calls_class _ (THRN.out _)) | (go_at_call 9; refine calls_class _ (THAL.out _))))
      refine wpQuiet_nil ?_
      intro _ hw'
      obtain ⟨q, hw''⟩ := hw'
      subst hw''
      have hbel := HBW.out q
      clear u0 u1 u2 u3 v0 v1 v2 v3
      go_wp2
      go_ret
      exact ⟨rfl, hbel⟩
    · go_wp2_with fail
      refine (HAL.out w2 P2.out).mono ?_
      rintro e w9 ⟨rfl, P9⟩
      go_wp2
      go_ret
      exact ⟨rfl, (P2.out.go P9).1⟩
  · go_wp2_with fail
    refine (HAL.out w1 P1.out).mono ?_
    rintro e w9 ⟨rfl, P9⟩
    go_wp2
    go_ret
    exact ⟨rfl, (P1.out.go P9).1⟩
theorem writes_walk (da : Nat) (va : Value) (ta : Tr) (db : Nat) (vb : Value) (tb : Tr) (inn : Bool) (w : World) (ha0 : TrV w da va ta) (hb0 : TrV w db vb tb) (hT : Tb w) :
    Calls Tryz.prog 3 #[va, vb, .bool inn] w fun e w' => e = .returned (.bool true) ∧ Below w.heap.size w w' := by
  obtain ⟨d, hd⟩ : ∃ d, d = da + db + 82 := ⟨_, rfl⟩
  have ha := ha0.more (show da ≤ d by omega)
  have hb := hb0.more (show db ≤ d by omega)
  have h64 : 64 < d := by omega
  clear ha0 hb0
  obtain ⟨ada, lena, capa, hva⟩ := ha.open4
  obtain ⟨adb, lenb, capb, hvb⟩ := hb.open4
  obtain ⟨qs, hqs⟩ : ∃ q : Bool, q = true ↔ ta = tb := by
    by_cases h : ta = tb
    · exact ⟨true, by simp [h]⟩
    · exact ⟨false, by simp [h]⟩
  have hqq : ∀ q : Bool, (q = true ↔ ta = tb) → q = qs := fun q hq => by
    cases q <;> cases qs <;> simp_all
  have up : ∀ {w1 w2 : World} {ca cb : Array Value}, WP w w.heap.size (w.heap.size + 1) ca cb w1 → Below w1.heap.size w1 w2 → WP w w.heap.size (w.heap.size + 1) ca cb w2 := fun h b => h.go b
  subst hva hvb
  refine writes_tail ta.kind tb.kind (if rgh d ta = true then 0 else 1) ta.text ta.anc tb.text tb.anc (if rgh d ta = true then wrt 64 ta else []) (scl inn ta.kind ta.text) ada adb lena capa lenb capb inn (rgh d ta) qs (isName ta.anc) w w.heap.size (w.heap.size + 1) (brief d ta) (brief d tb) rfl rfl
    ?_ ?_ ?_ ?_ ?_ ?_ ?_ ?_ ?_ ?_ ?_ ?_ ?_ ?_ ?_
  · exact ⟨(two_trees w _ _).1, (two_trees w _ _).2.1, (two_trees w _ _).2.2⟩
  · intro w1 p
    exact (far_any d _ ta w1 (ha.later p.1 (Nat.le_refl _))).mono (fun e w' g => by obtain ⟨q, e1, hb1, hq⟩ := g; exact ⟨q, e1, up p hb1, fun hz => brief_of ha (hq hz).1⟩)
  · intro w1 p
    exact (far_any d _ tb w1 (hb.later p.1 (Nat.le_refl _))).mono (fun e w' g => by obtain ⟨q, e1, hb1, hq⟩ := g; exact ⟨q, e1, up p hb1, fun hz => brief_of hb (hq hz).1⟩)
  · intro q1 q2 w1 p
    cases hr : rgh d ta
    · exact (write_no q1 (ha.later p.1 (Nat.le_refl _)) (hT.later p.1) hr).mono (fun e w' g => ⟨g.1, up p g.2⟩)
    · obtain ⟨h1, h2⟩ := rgh_yes2 h64 hr
      exact (write_yes q1 (ha.later p.1 (Nat.le_refl _)) (hT.later p.1) h64 hr (wrt_fit q1 h1 h2)).mono (fun e w' g => ⟨g.1, up p g.2⟩)
  · intro q1 q2 w1 p
    exact (rWrite_any h64 q1 (ha.later p.1 (Nat.le_refl _)) (hT.later p.1)).mono (fun e w' g => ⟨g.1, up p g.2⟩)
  · intro q1 q2 w1 p
    exact (right_any q1 (ha.later p.1 (Nat.le_refl _)) (hT.later p.1)).mono (fun e w' g => ⟨g.1, g.2⟩)
  · intro q1 q2 w1 p
    exact (rRight_any h64 q1 (ha.later p.1 (Nat.le_refl _))).mono (fun e w' g => ⟨g.1, g.2⟩)
  · intro q1 q2 w1 p
    exact (same_any d d _ _ ta tb w1 (ha.later p.1 (Nat.le_refl _)) (hb.later p.1 (Nat.le_refl _))).mono (fun e w' g => by obtain ⟨q, e1, hq, hb1⟩ := g; rw [hqq q hq] at e1; exact ⟨e1, hb1⟩)
  · intro q1 q2 w1 p
    exact (rsame_any d d _ _ ta tb w1 (ha.later p.1 (Nat.le_refl _)) (hb.later p.1 (Nat.le_refl _))).mono (fun e w' g => by obtain ⟨q, e1, hq, hb1⟩ := g; rw [hqq q hq] at e1; exact ⟨e1, hb1⟩)
  · intro q1 q2 w1 p
    exact (same_any d d _ _ ta ta w1 (ha.later p.1 (Nat.le_refl _)) (ha.later p.1 (Nat.le_refl _))).mono (fun e w' g => by obtain ⟨q, e1, hq, hb1⟩ := g; rw [hq.2 rfl] at e1; exact ⟨e1, hb1⟩)
  · intro q1 q2 w1 p
    have hx : ta.text.length ≤ 65536 := by
      cases d with
      | zero => exact q1.elim
      | succ d => exact q1.1
    exact (scalar0_any inn hx (hT.later p.1)).mono (fun e w' g => ⟨g.1, g.2⟩)
  · intro q1 q2 w1 p
    have hx : ta.text.length ≤ 65536 := by
      cases d with
      | zero => exact q1.elim
      | succ d => exact q1.1
    exact (rscal_any inn hx (hT.later p.1)).mono (fun e w' g => ⟨g.1, g.2⟩)
  · intro q1 w1 p
    have hx : ta.anc.length ≤ 65536 := by
      cases d with
      | zero => exact q1.elim
      | succ d => exact q1.2.1
    exact (name0_any ta.anc w1 (by omega)).mono (fun e w' g => ⟨g.1, by rw [← g.2]; exact Below.refl _ _⟩)
  · intro q1 w1 p
    have hx : ta.anc.length ≤ 65536 := by
      cases d with
      | zero => exact q1.elim
      | succ d => exact q1.2.1
    exact (rname_any ta.anc w1 (by omega)).mono (fun e w' g => ⟨g.1, by rw [← g.2]; exact Below.refl _ _⟩)
  · intro w1 p
    exact (alive_any (hT.later p.1)).mono (fun e w' g => ⟨g.1, g.2⟩)

end Go.Proofs.YteokhnielbmifaaGreatDoor.Flw
