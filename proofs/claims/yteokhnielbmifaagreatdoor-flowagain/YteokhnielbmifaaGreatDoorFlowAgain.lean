/- The walk of FlowAgain. -/
import Derived.Test.YteokhnielbmifaaGreatDoorFlowBack
namespace Go.Proofs.YteokhnielbmifaaGreatDoor.Flw
open Utf Rws Pln
open Go.RowKit
set_option linter.unusedSimpArgs false
set_option linter.unusedVariables false
set_option maxRecDepth 100000
set_option maxHeartbeats 2000000

theorem neq_fault (x1 y1 x2 y2 : Int) (w : World) : (binOp .neq 37 (.agg #[.int .i64 x1, .int .i64 x2]) (.agg #[.int .i64 y1, .int .i64 y2])).run Tryz.prog w = .ok (.bool (!(x1 == y1 && x2 == y2))) w := by
  rw [run_neq_struct, run_equalIn_struct w 9999 37 _ _ (by kernel_rfl) (by kernel_rfl)]
  cases h1 : x1 == y1 <;> cases h2 : x2 == y2 <;> simp [go_sem, Program.fieldsOf, Tryz.underlying37, Tryz.underlying27, Tryz.underlying3, h1, h2]
theorem again_long (l : Ln) (w : World) (hsz : (mk l).size = l.length) (hl : 8000 < l.length) (hl2 : l.length ≤ 140737488351232)
    (HAL : Hid (∀ w0, Below w.heap.size w w0 → Calls Tryz.prog 9 #[] w0 fun e w' => e = .returned (.bool true) ∧ Hid (Below w.heap.size w w'))) :
    Calls Tryz.prog 5 #[.string (mk l)] w fun e w' => e = .returned (.bool true) ∧ Below w.heap.size w w' := by
  go_enter Tryz.func5, Tryz.ntmps5
  go_wp2_with fail
  refine (HAL.out w (Below.refl _ _)).mono ?_
  rintro e w1 ⟨rfl, H1⟩
  go_wp2
  go_ret
  exact ⟨rfl, H1.out⟩
theorem again_bad (l : Ln) (w : World) (hsz : (mk l).size = l.length) (hl : l.length ≤ 8000) (x y : Int) (hx : x ≠ 0)
    (HAL : Hid (∀ w0, Below w.heap.size w w0 → Calls Tryz.prog 9 #[] w0 fun e w' => e = .returned (.bool true) ∧ Hid (Below w.heap.size w w')))
    (HA : Hid (∀ w0, Below w.heap.size w w0 → Calls Tryz.prog 20 #[.string (mk l)] w0 fun e w' => WhoIs w0 tr0 x y e w')) :
    Calls Tryz.prog 5 #[.string (mk l)] w fun e w' => e = .returned (.bool true) ∧ Below w.heap.size w w' := by
  have he := neq_fault x 0 y 0
  have hxb : (!(x == 0 && y == 0)) = true := by simp [hx]
  rw [hxb] at he
  go_enter Tryz.func5, Tryz.ntmps5
  go_wp2_with fail
  refine (HA.out w (Below.refl _ _)).mono ?_
  rintro e w0 ⟨ad0, len0, cap0, rfl, H0⟩
  have N0 : Hid (_ ∧ _ ∧ _) := two_new w0 #[.int .i64 tr0.kind, .string (mk tr0.text), .string (mk tr0.anc), .slice ad0 len0 cap0] #[.int .i64 x, .int .i64 y]
  go_upto_region 4 with fail
  generalize (w0.alloc (.cells #[.int .i64 tr0.kind, .string (mk tr0.text), .string (mk tr0.anc), .slice ad0 len0 cap0] 24)).alloc (.cells #[.int .i64 x, .int .i64 y] 37) = W0 at N0 ⊢
  have B0 : Hid (Below w.heap.size w W0) := H0.out.2.trans (N0.out.1.mono H0.out.2.size)
  have V0 : Hid (TrV W0 65 (.agg #[.int .i64 tr0.kind, .string (mk tr0.text), .string (mk tr0.anc), .slice ad0 len0 cap0]) tr0) := H0.out.1.later N0.out.1 (Nat.le_refl _)
  have b0 : Hid (Bx W0 w0.heap.size #[.int .i64 tr0.kind, .string (mk tr0.text), .string (mk tr0.anc), .slice ad0 len0 cap0] 24) := N0.out.2.1
  have c0 : Hid (Bx W0 (w0.heap.size + 1) #[.int .i64 x, .int .i64 y] 37) := N0.out.2.2
  clear N0 H0
  generalize w0.heap.size + 1 = K1 at *
  generalize w0.heap.size = K0 at *
  have d0 := b0.out
  have e0 := c0.out
  have p0 : W0.cell? ⟨K0, 0, none⟩ = some (.int .i64 tr0.kind) := d0.cell 0
  have p1 : W0.cell? ⟨K0, 1, none⟩ = some (.string (mk tr0.text)) := d0.cell 1
  have p2 : W0.cell? ⟨K0, 2, none⟩ = some (.string (mk tr0.anc)) := d0.cell 2
  have p3 : W0.cell? ⟨K0, 3, none⟩ = some (.slice ad0 len0 cap0) := d0.cell 3
  have q0 : W0.cell? ⟨K1, 0, none⟩ = some (.int .i64 x) := e0.cell 0
  have q1 : W0.cell? ⟨K1, 1, none⟩ = some (.int .i64 y) := e0.cell 1
  clear d0 e0 c0 HA
  have HS : Hid (Calls Tryz.prog 15 #[.agg #[.int .i64 tr0.kind, .string (mk tr0.text), .string (mk tr0.anc), .slice ad0 len0 cap0], .agg #[.int .i64 0, .string ⟨#[]⟩, .string ⟨#[]⟩, .slice none 0 0]] W0 fun e w' => e = .returned (.bool true) ∧ Hid (Below W0.heap.size W0 w')) := rsame_yes V0.out (trV0 (w := W0))
  go_wp2_with fail
  refine HS.out.mono ?_
  rintro e w5 ⟨rfl, H5⟩
  have B5 : Hid (Below w.heap.size w w5) := B0.out.trans (H5.out.mono B0.out.size)
  go_wp2_with fail
  refine (HAL.out w5 B5.out).mono ?_
  rintro e w6 ⟨rfl, H6⟩
  go_wp2
  go_ret
  exact ⟨rfl, H6.out⟩
theorem again_many (l : Ln) (w : World) (hsz : (mk l).size = l.length) (hl : l.length ≤ 8000) (hl4 : 4096 ≤ l.length) (t : Tr) (HT : Hid (Tb w)) (HBR : Hid (brief 65 t)) (HR : Hid (rgh 65 t = false))
    (HAL : Hid (∀ w0, Below w.heap.size w w0 → Calls Tryz.prog 9 #[] w0 fun e w' => e = .returned (.bool true) ∧ Hid (Below w.heap.size w w')))
    (HA : Hid (∀ w0, Below w.heap.size w w0 → Calls Tryz.prog 20 #[.string (mk l)] w0 fun e w' => WhoIs w0 t 0 0 e w')) :
    Calls Tryz.prog 5 #[.string (mk l)] w fun e w' => e = .returned (.bool true) ∧ Below w.heap.size w w' := by
  have he := neq_fault 0 0 0 0
  go_enter Tryz.func5, Tryz.ntmps5
  go_wp2_with fail
  refine (HA.out w (Below.refl _ _)).mono ?_
  rintro e w0 ⟨ad0, len0, cap0, rfl, H0⟩
  have N0 : Hid (_ ∧ _ ∧ _) := two_new w0 #[.int .i64 t.kind, .string (mk t.text), .string (mk t.anc), .slice ad0 len0 cap0] #[.int .i64 0, .int .i64 0]
  go_upto_region 4 with fail
  generalize (w0.alloc (.cells #[.int .i64 t.kind, .string (mk t.text), .string (mk t.anc), .slice ad0 len0 cap0] 24)).alloc (.cells #[.int .i64 0, .int .i64 0] 37) = W0 at N0 ⊢
  have B0 : Hid (Below w.heap.size w W0) := H0.out.2.trans (N0.out.1.mono H0.out.2.size)
  have V0 : Hid (TrV W0 65 (.agg #[.int .i64 t.kind, .string (mk t.text), .string (mk t.anc), .slice ad0 len0 cap0]) t) := H0.out.1.later N0.out.1 (Nat.le_refl _)
  have b0 : Hid (Bx W0 w0.heap.size #[.int .i64 t.kind, .string (mk t.text), .string (mk t.anc), .slice ad0 len0 cap0] 24) := N0.out.2.1
  have c0 : Hid (Bx W0 (w0.heap.size + 1) #[.int .i64 0, .int .i64 0] 37) := N0.out.2.2
  clear N0 H0
  generalize w0.heap.size + 1 = K1 at *
  generalize w0.heap.size = K0 at *
  have d0 := b0.out
  have e0 := c0.out
  have p0 : W0.cell? ⟨K0, 0, none⟩ = some (.int .i64 t.kind) := d0.cell 0
  have p1 : W0.cell? ⟨K0, 1, none⟩ = some (.string (mk t.text)) := d0.cell 1
  have p2 : W0.cell? ⟨K0, 2, none⟩ = some (.string (mk t.anc)) := d0.cell 2
  have p3 : W0.cell? ⟨K0, 3, none⟩ = some (.slice ad0 len0 cap0) := d0.cell 3
  have q0 : W0.cell? ⟨K1, 0, none⟩ = some (.int .i64 0) := e0.cell 0
  have q1 : W0.cell? ⟨K1, 1, none⟩ = some (.int .i64 0) := e0.cell 1
  clear d0 e0 c0 HA
  have HW : Hid (Calls Tryz.prog 10 #[.agg #[.int .i64 t.kind, .string (mk t.text), .string (mk t.anc), .slice ad0 len0 cap0]] W0 fun e w' => e = .returned (.tuple #[.string (mk []), .int .i64 1]) ∧ Hid (Below W0.heap.size W0 w')) := write_no HBR.out V0.out (HT.out.later B0.out) HR.out
  have HRR : Hid (∀ w2, Below W0.heap.size W0 w2 → Calls Tryz.prog 12 #[.agg #[.int .i64 t.kind, .string (mk t.text), .string (mk t.anc), .slice ad0 len0 cap0]] w2 fun e w' => e = .returned (.bool false) ∧ Hid (Below w.heap.size w w')) := fun w2 b2 => by
    have b3 := B0.out.trans (b2.mono B0.out.size)
    exact (right_any HBR.out (V0.out.later b2 (Nat.le_refl _)) (HT.out.later b3)).mono (fun e w' g => ⟨by rw [g.1, HR.out], b3.trans (g.2.mono b3.size)⟩)
  clear HR HBR V0 HT
  go_wp2_with fail
  refine HW.out.mono ?_
  rintro e w2 ⟨rfl, H2⟩
  have c2 := b0.out.later H2.out
  have r0 : w2.cell? ⟨K0, 0, none⟩ = some (.int .i64 t.kind) := c2.cell 0
  have r1 : w2.cell? ⟨K0, 1, none⟩ = some (.string (mk t.text)) := c2.cell 1
  have r2 : w2.cell? ⟨K0, 2, none⟩ = some (.string (mk t.anc)) := c2.cell 2
  have r3 : w2.cell? ⟨K0, 3, none⟩ = some (.slice ad0 len0 cap0) := c2.cell 3
  clear c2
  have HR2 := HRR.out w2 H2.out
  go_wp2_with fail
  refine HR2.mono ?_
  rintro e w3 ⟨rfl, H3⟩
  go_wp2_with fail
  refine (HAL.out w3 H3.out).mono ?_
  rintro e w4 ⟨rfl, H4⟩
  go_wp2
  go_ret
  exact ⟨rfl, H4.out⟩
theorem again_over (l X : Ln) (w : World) (hsz : (mk l).size = l.length) (hl : l.length ≤ 8000) (t : Tr) (HT : Hid (Tb w)) (hX : (mk X).size = X.length) (hXl : 65536 < X.length) (hX2 : X.length ≤ 140737488355328)
    (HW : Hid (∀ w0 v, Below w.heap.size w w0 → TrV w0 65 v t → Calls Tryz.prog 10 #[v] w0 fun e w' => e = .returned (.tuple #[.string (mk X), .int .i64 0]) ∧ Hid (Below w0.heap.size w0 w')))
    (HAL : Hid (∀ w0, Below w.heap.size w w0 → Calls Tryz.prog 9 #[] w0 fun e w' => e = .returned (.bool true) ∧ Hid (Below w.heap.size w w')))
    (HA : Hid (∀ w0, Below w.heap.size w w0 → Calls Tryz.prog 20 #[.string (mk l)] w0 fun e w' => WhoIs w0 t 0 0 e w'))
    (HWH : Hid (∀ w2, Below w.heap.size w w2 → Calls Tryz.prog 20 #[.string (mk X)] w2 fun e w' => WhoIs w2 tr0 5 0 e w')) :
    Calls Tryz.prog 5 #[.string (mk l)] w fun e w' => e = .returned (.bool true) ∧ Below w.heap.size w w' := by
  have he := neq_fault 0 0 0 0
  have he2 := eql_fault 5 5 0 0
  go_enter Tryz.func5, Tryz.ntmps5
  go_wp2_with fail
  refine (HA.out w (Below.refl _ _)).mono ?_
  rintro e w0 ⟨ad0, len0, cap0, rfl, H0⟩
  have N0 : Hid (_ ∧ _ ∧ _) := two_new w0 #[.int .i64 t.kind, .string (mk t.text), .string (mk t.anc), .slice ad0 len0 cap0] #[.int .i64 0, .int .i64 0]
  go_upto_region 4 with fail
  generalize (w0.alloc (.cells #[.int .i64 t.kind, .string (mk t.text), .string (mk t.anc), .slice ad0 len0 cap0] 24)).alloc (.cells #[.int .i64 0, .int .i64 0] 37) = W0 at N0 ⊢
  have B0 : Hid (Below w.heap.size w W0) := H0.out.2.trans (N0.out.1.mono H0.out.2.size)
  have V0 : Hid (TrV W0 65 (.agg #[.int .i64 t.kind, .string (mk t.text), .string (mk t.anc), .slice ad0 len0 cap0]) t) := H0.out.1.later N0.out.1 (Nat.le_refl _)
  have b0 : Hid (Bx W0 w0.heap.size #[.int .i64 t.kind, .string (mk t.text), .string (mk t.anc), .slice ad0 len0 cap0] 24) := N0.out.2.1
  have c0 : Hid (Bx W0 (w0.heap.size + 1) #[.int .i64 0, .int .i64 0] 37) := N0.out.2.2
  clear N0 H0
  generalize w0.heap.size + 1 = K1 at *
  generalize w0.heap.size = K0 at *
  have d0 := b0.out
  have e0 := c0.out
  have p0 : W0.cell? ⟨K0, 0, none⟩ = some (.int .i64 t.kind) := d0.cell 0
  have p1 : W0.cell? ⟨K0, 1, none⟩ = some (.string (mk t.text)) := d0.cell 1
  have p2 : W0.cell? ⟨K0, 2, none⟩ = some (.string (mk t.anc)) := d0.cell 2
  have p3 : W0.cell? ⟨K0, 3, none⟩ = some (.slice ad0 len0 cap0) := d0.cell 3
  have q0 : W0.cell? ⟨K1, 0, none⟩ = some (.int .i64 0) := e0.cell 0
  have q1 : W0.cell? ⟨K1, 1, none⟩ = some (.int .i64 0) := e0.cell 1
  clear d0 e0 c0 HA
  have HW2 := HW.out W0 _ B0.out V0.out
  go_wp2_with fail
  refine HW2.mono ?_
  rintro e w2 ⟨rfl, H2⟩
  have B2 : Hid (Below w.heap.size w w2) := B0.out.trans (H2.out.mono B0.out.size)
  replace b0 : Hid (Bx w2 K0 #[.int .i64 t.kind, .string (mk t.text), .string (mk t.anc), .slice ad0 len0 cap0] 24) := b0.out.later H2.out
  replace V0 : Hid (TrV w2 65 (.agg #[.int .i64 t.kind, .string (mk t.text), .string (mk t.anc), .slice ad0 len0 cap0]) t) := V0.out.later H2.out (Nat.le_refl _)
  clear HW2 HW p0 p1 p2 p3 q0 q1
  go_wp2_with fail
  refine (HWH.out w2 B2.out).mono ?_
  rintro e w3 ⟨ad1, len1, cap1, rfl, H3⟩
  have N0 : Hid (_ ∧ _ ∧ _) := two_new w3 #[.int .i64 tr0.kind, .string (mk tr0.text), .string (mk tr0.anc), .slice ad1 len1 cap1] #[.int .i64 5, .int .i64 0]
  have B3 : Hid (Below w.heap.size w w3) := B2.out.trans (H3.out.2.mono B2.out.size)
  go_upto_region 11 with fail
  generalize (w3.alloc (.cells #[.int .i64 tr0.kind, .string (mk tr0.text), .string (mk tr0.anc), .slice ad1 len1 cap1] 24)).alloc (.cells #[.int .i64 5, .int .i64 0] 37) = W4 at N0 ⊢
  have B4 : Hid (Below w.heap.size w W4) := B3.out.trans (N0.out.1.mono B3.out.size)
  have G4 : Hid (Below w2.heap.size w2 W4) := H3.out.2.trans (N0.out.1.mono H3.out.2.size)
  replace V0 : Hid (TrV W4 65 (.agg #[.int .i64 t.kind, .string (mk t.text), .string (mk t.anc), .slice ad0 len0 cap0]) t) := V0.out.later G4.out (Nat.le_refl _)
  have V2 : Hid (TrV W4 65 (.agg #[.int .i64 tr0.kind, .string (mk tr0.text), .string (mk tr0.anc), .slice ad1 len1 cap1]) tr0) := H3.out.1.later N0.out.1 (Nat.le_refl _)
  have c1 := b0.out.later G4.out
  have c3 := N0.out.2.1
  have c4 := N0.out.2.2
  have r0 : W4.cell? ⟨K0, 0, none⟩ = some (.int .i64 t.kind) := c1.cell 0
  have r1 : W4.cell? ⟨K0, 1, none⟩ = some (.string (mk t.text)) := c1.cell 1
  have r2 : W4.cell? ⟨K0, 2, none⟩ = some (.string (mk t.anc)) := c1.cell 2
  have r3 : W4.cell? ⟨K0, 3, none⟩ = some (.slice ad0 len0 cap0) := c1.cell 3
  have s0 : W4.cell? ⟨w3.heap.size, 0, none⟩ = some (.int .i64 tr0.kind) := c3.cell 0
  have s1 : W4.cell? ⟨w3.heap.size, 1, none⟩ = some (.string (mk tr0.text)) := c3.cell 1
  have s2 : W4.cell? ⟨w3.heap.size, 2, none⟩ = some (.string (mk tr0.anc)) := c3.cell 2
  have s3 : W4.cell? ⟨w3.heap.size, 3, none⟩ = some (.slice ad1 len1 cap1) := c3.cell 3
  have q0 : W4.cell? ⟨(w3.heap.size + 1), 0, none⟩ = some (.int .i64 5) := c4.cell 0
  have q1 : W4.cell? ⟨(w3.heap.size + 1), 1, none⟩ = some (.int .i64 0) := c4.cell 1
  clear N0 c4 c1 c3 H3 G4 b0 B2 B3 H2 HWH
  generalize w3.heap.size + 1 = K3 at *
  generalize w3.heap.size = K2 at *
  go_wp2_with fail
  refine (HAL.out W4 B4.out).mono ?_
  rintro e w5 ⟨rfl, H5⟩
  go_wp2
  go_ret
  exact ⟨rfl, H5.out⟩
theorem again_ok (l X : Ln) (w : World) (hsz : (mk l).size = l.length) (hl : l.length ≤ 8000) (t : Tr) (HT : Hid (Tb w)) (hX : (mk X).size = X.length) (hXl : X.length ≤ 65536) (hX2 : X.length ≤ 140737488355328)
    (HW : Hid (∀ w0 v, Below w.heap.size w w0 → TrV w0 65 v t → Calls Tryz.prog 10 #[v] w0 fun e w' => e = .returned (.tuple #[.string (mk X), .int .i64 0]) ∧ Hid (Below w0.heap.size w0 w')))
    (HAL : Hid (∀ w0, Below w.heap.size w w0 → Calls Tryz.prog 9 #[] w0 fun e w' => e = .returned (.bool true) ∧ Hid (Below w.heap.size w w')))
    (HA : Hid (∀ w0, Below w.heap.size w w0 → Calls Tryz.prog 20 #[.string (mk l)] w0 fun e w' => WhoIs w0 t 0 0 e w'))
    (HWH : Hid (∀ w2, Below w.heap.size w w2 → Calls Tryz.prog 20 #[.string (mk X)] w2 fun e w' => WhoIs w2 t 0 0 e w')) :
    Calls Tryz.prog 5 #[.string (mk l)] w fun e w' => e = .returned (.bool true) ∧ Below w.heap.size w w' := by
  have he := neq_fault 0 0 0 0
  have he2 := eql_fault 0 0 0 0
  go_enter Tryz.func5, Tryz.ntmps5
  go_wp2_with fail
  refine (HA.out w (Below.refl _ _)).mono ?_
  rintro e w0 ⟨ad0, len0, cap0, rfl, H0⟩
  have N0 : Hid (_ ∧ _ ∧ _) := two_new w0 #[.int .i64 t.kind, .string (mk t.text), .string (mk t.anc), .slice ad0 len0 cap0] #[.int .i64 0, .int .i64 0]
  go_upto_region 4 with fail
  generalize (w0.alloc (.cells #[.int .i64 t.kind, .string (mk t.text), .string (mk t.anc), .slice ad0 len0 cap0] 24)).alloc (.cells #[.int .i64 0, .int .i64 0] 37) = W0 at N0 ⊢
  have B0 : Hid (Below w.heap.size w W0) := H0.out.2.trans (N0.out.1.mono H0.out.2.size)
  have V0 : Hid (TrV W0 65 (.agg #[.int .i64 t.kind, .string (mk t.text), .string (mk t.anc), .slice ad0 len0 cap0]) t) := H0.out.1.later N0.out.1 (Nat.le_refl _)
  have b0 : Hid (Bx W0 w0.heap.size #[.int .i64 t.kind, .string (mk t.text), .string (mk t.anc), .slice ad0 len0 cap0] 24) := N0.out.2.1
  have c0 : Hid (Bx W0 (w0.heap.size + 1) #[.int .i64 0, .int .i64 0] 37) := N0.out.2.2
  clear N0 H0
  generalize w0.heap.size + 1 = K1 at *
  generalize w0.heap.size = K0 at *
  have d0 := b0.out
  have e0 := c0.out
  have p0 : W0.cell? ⟨K0, 0, none⟩ = some (.int .i64 t.kind) := d0.cell 0
  have p1 : W0.cell? ⟨K0, 1, none⟩ = some (.string (mk t.text)) := d0.cell 1
  have p2 : W0.cell? ⟨K0, 2, none⟩ = some (.string (mk t.anc)) := d0.cell 2
  have p3 : W0.cell? ⟨K0, 3, none⟩ = some (.slice ad0 len0 cap0) := d0.cell 3
  have q0 : W0.cell? ⟨K1, 0, none⟩ = some (.int .i64 0) := e0.cell 0
  have q1 : W0.cell? ⟨K1, 1, none⟩ = some (.int .i64 0) := e0.cell 1
  clear d0 e0 c0 HA
  have HW2 := HW.out W0 _ B0.out V0.out
  go_wp2_with fail
  refine HW2.mono ?_
  rintro e w2 ⟨rfl, H2⟩
  have B2 : Hid (Below w.heap.size w w2) := B0.out.trans (H2.out.mono B0.out.size)
  replace b0 : Hid (Bx w2 K0 #[.int .i64 t.kind, .string (mk t.text), .string (mk t.anc), .slice ad0 len0 cap0] 24) := b0.out.later H2.out
  replace V0 : Hid (TrV w2 65 (.agg #[.int .i64 t.kind, .string (mk t.text), .string (mk t.anc), .slice ad0 len0 cap0]) t) := V0.out.later H2.out (Nat.le_refl _)
  clear HW2 HW p0 p1 p2 p3 q0 q1
  go_wp2_with fail
  refine (HWH.out w2 B2.out).mono ?_
  rintro e w3 ⟨ad1, len1, cap1, rfl, H3⟩
  have N0 : Hid (_ ∧ _ ∧ _) := two_new w3 #[.int .i64 t.kind, .string (mk t.text), .string (mk t.anc), .slice ad1 len1 cap1] #[.int .i64 0, .int .i64 0]
  have B3 : Hid (Below w.heap.size w w3) := B2.out.trans (H3.out.2.mono B2.out.size)
  go_upto_region 12 with fail
  generalize (w3.alloc (.cells #[.int .i64 t.kind, .string (mk t.text), .string (mk t.anc), .slice ad1 len1 cap1] 24)).alloc (.cells #[.int .i64 0, .int .i64 0] 37) = W4 at N0 ⊢
  have B4 : Hid (Below w.heap.size w W4) := B3.out.trans (N0.out.1.mono B3.out.size)
  have G4 : Hid (Below w2.heap.size w2 W4) := H3.out.2.trans (N0.out.1.mono H3.out.2.size)
  replace V0 : Hid (TrV W4 65 (.agg #[.int .i64 t.kind, .string (mk t.text), .string (mk t.anc), .slice ad0 len0 cap0]) t) := V0.out.later G4.out (Nat.le_refl _)
  have V2 : Hid (TrV W4 65 (.agg #[.int .i64 t.kind, .string (mk t.text), .string (mk t.anc), .slice ad1 len1 cap1]) t) := H3.out.1.later N0.out.1 (Nat.le_refl _)
  have c1 := b0.out.later G4.out
  have c3 := N0.out.2.1
  have c4 := N0.out.2.2
  have r0 : W4.cell? ⟨K0, 0, none⟩ = some (.int .i64 t.kind) := c1.cell 0
  have r1 : W4.cell? ⟨K0, 1, none⟩ = some (.string (mk t.text)) := c1.cell 1
  have r2 : W4.cell? ⟨K0, 2, none⟩ = some (.string (mk t.anc)) := c1.cell 2
  have r3 : W4.cell? ⟨K0, 3, none⟩ = some (.slice ad0 len0 cap0) := c1.cell 3
  have s0 : W4.cell? ⟨w3.heap.size, 0, none⟩ = some (.int .i64 t.kind) := c3.cell 0
  have s1 : W4.cell? ⟨w3.heap.size, 1, none⟩ = some (.string (mk t.text)) := c3.cell 1
  have s2 : W4.cell? ⟨w3.heap.size, 2, none⟩ = some (.string (mk t.anc)) := c3.cell 2
  have s3 : W4.cell? ⟨w3.heap.size, 3, none⟩ = some (.slice ad1 len1 cap1) := c3.cell 3
  have q0 : W4.cell? ⟨(w3.heap.size + 1), 0, none⟩ = some (.int .i64 0) := c4.cell 0
  have q1 : W4.cell? ⟨(w3.heap.size + 1), 1, none⟩ = some (.int .i64 0) := c4.cell 1
  clear N0 c4 c1 c3 H3 G4 b0 B2 B3 H2 HWH
  generalize w3.heap.size + 1 = K3 at *
  generalize w3.heap.size = K2 at *
  have HS := rsame_yes V0.out V2.out
  go_wp2_with fail
  refine HS.mono ?_
  rintro e w5 ⟨rfl, H5⟩
  have B5 : Hid (Below w.heap.size w w5) := B4.out.trans (H5.out.mono B4.out.size)
  go_wp2_with fail
  refine (HAL.out w5 B5.out).mono ?_
  rintro e w6 ⟨rfl, H6⟩
  go_wp2
  go_ret
  exact ⟨rfl, H6.out⟩
theorem again_walk (s : ByteArray) (w : World) (hs : s.size ≤ 140737488351232) (hT : Tb w) :
    Calls Tryz.prog 5 #[.string s] w fun e w' => e = .returned (.bool true) ∧ Below w.heap.size w w' := by
  obtain ⟨l, rfl⟩ := mk_ex s
  have hsz := mk_size l
  rw [mk_size] at hs
  have HAL : Hid (∀ w0, Below w.heap.size w w0 → Calls Tryz.prog 9 #[] w0 fun e w' => e = .returned (.bool true) ∧ Hid (Below w.heap.size w w')) := fun w0 b => (alive_any (hT.later b)).mono (fun e w' h => ⟨h.1, b.trans (h.2.mono b.size)⟩)
  by_cases hl : 8000 < l.length
  · exact again_long l w hsz hl hs HAL
  · have hl1 : l.length ≤ 8000 := by omega
    by_cases hz : (whole l).2.1 = 0
    · obtain ⟨_, _, _, _, hA⟩ := whole_inv hz
      have hr := whole_right hz
      have hb := whole_brief hz
      cases hg : rgh 65 (whole l).1
      · have h4 : 4096 ≤ l.length := by
          rw [rgh_iff (by decide), hr.1] at hg
          simp at hg
          omega
        exact again_many l w hsz hl1 h4 (whole l).1 hT hb hg HAL (fun w0 b => whole_is (by omega) hA w0 (hT.later b))
      · obtain ⟨h1, h2⟩ := rgh_yes (by decide) hg
        have hfit := wrt_fit hb h1 h2
        have HW : Hid (∀ w0 v, Below w.heap.size w w0 → TrV w0 65 v (whole l).1 → Calls Tryz.prog 10 #[v] w0 fun e w' => e = .returned (.tuple #[.string (mk (wrt 64 (whole l).1)), .int .i64 0]) ∧ Hid (Below w0.heap.size w0 w')) := fun w0 v b hv => write_yes hb hv (hT.later b) (by decide) hg hfit
        by_cases hx : 65536 < (wrt 64 (whole l).1).length
        · have hwh : whole (wrt 64 (whole l).1) = (tr0, 5, 0) := by rw [whole, if_pos hx]
          exact again_over l (wrt 64 (whole l).1) w hsz hl1 (whole l).1 hT (mk_size _) hx hfit HW HAL (fun w0 b => whole_is (by omega) hA w0 (hT.later b)) (fun w2 b => whole_is (by omega) hwh w2 (hT.later b))
        · have hwh := whole_wrt (whole l).1 h1 (by omega)
          exact again_ok l (wrt 64 (whole l).1) w hsz hl1 (whole l).1 hT (mk_size _) (by omega) hfit HW HAL (fun w0 b => whole_is (by omega) hA w0 (hT.later b)) (fun w2 b => whole_is (by omega) hwh w2 (hT.later b))
    · exact again_bad l w hsz hl1 ((whole l).2.1 : Int) ((whole l).2.2 : Int) (by omega) HAL (fun w0 b => whole_is (by omega) (by rw [← whole_none hz]) w0 (hT.later b))

end Go.Proofs.YteokhnielbmifaaGreatDoor.Flw
