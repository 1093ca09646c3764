/- The walk of FlowBlanks. -/
import Derived.Test.YteokhnielbmifaaGreatDoorFlowTwo
import Derived.Test.YteokhnielbmifaaGreatDoorFbD
namespace Go.Proofs.YteokhnielbmifaaGreatDoor.Flw
open Utf Rws Pln
open Go.RowKit
set_option linter.unusedSimpArgs false
set_option linter.unusedVariables false
set_option maxRecDepth 100000
set_option maxHeartbeats 2000000

theorem bl_snoc (k : Nat) : mk (bl k) ++ mk [32] = mk (bl (k + 1)) := by rw [cat_mk]; congr 1; exact (List.replicate_succ' ..).symm

theorem blanks_long (l : Ln) (m : Int) (n : Nat) (w : World) (h0 : 0 ≤ m) (h1 : m ≤ 255) (hn : m % 20 = (n : Int)) (hn20 : n < 20) (hsz : (mk l).size = l.length) (hl : 8000 < l.length) (hl2 : l.length ≤ 140737488351232)
    (HAL : Hid (∀ w0, Below w.heap.size w w0 → Calls Tryz.prog 9 #[] w0 fun e w' => e = .returned (.bool true) ∧ Hid (Below w.heap.size w w'))) :
    Calls Tryz.prog 6 #[.string (mk l), .int .u8 m] w fun e w' => e = .returned (.bool true) ∧ Below w.heap.size w w' := by
  go_enter Tryz.func6, Tryz.ntmps6
  go_wp2_with fail
  go_loop [6, 17] (fun ua ui => ∃ j : Nat, j ≤ n ∧ ui = .int .i64 (j : Int) ∧ ua = .string (mk (bl j))) (fun _ ui => n - (intOf ui).toNat)
  case atStart => exact ⟨0, Nat.zero_le _, rfl, rfl⟩
  case round =>
    obtain ⟨j, hj, rfl, rfl⟩ := hrel
    have hrs : (mk (bl j)).size = j := by rw [mk_size, List.length_replicate]
    by_cases hjl : j < n
    · have hsp : mk (bl j) ++ (⟨#[32]⟩ : ByteArray) = mk (bl (j + 1)) := bl_snoc j
      have hone : (⟨#[32]⟩ : ByteArray).size = 1 := rfl
      go_wp2
      go_round
      case rel => exact ⟨j + 1, by omega, by go_num, by first | rfl | rw [hsp]⟩
      case measure => (simp [intOf] <;> omega)
    · obtain rfl : n = j := by omega
      generalize mk (bl n) = X at *
      go_wp2_with fail
      refine (HAL.out w (Below.refl _ _)).mono ?_
      rintro e w1 ⟨rfl, H1⟩
      go_wp2
      go_ret
      exact ⟨rfl, H1.out⟩

theorem blanks_ok (l : Ln) (m : Int) (n : Nat) (w : World) (h0 : 0 ≤ m) (h1 : m ≤ 255) (hn : m % 20 = (n : Int)) (hn20 : n < 20) (hsz : (mk l).size = l.length) (hl : l.length ≤ 8000) (T0 : Tr)
    (HAL : Hid (∀ w0, Below w.heap.size w w0 → Calls Tryz.prog 9 #[] w0 fun e w' => e = .returned (.bool true) ∧ Hid (Below w.heap.size w w')))
    (HA : Hid (∀ w0, Below w.heap.size w w0 → Calls Tryz.prog 20 #[.string (mk l)] w0 fun e w' => WhoIs w0 T0 0 0 e w'))
    (HB : Hid (∀ w0, Below w.heap.size w w0 → Calls Tryz.prog 20 #[.string (mk (bl n) ++ mk l)] w0 fun e w' => WhoIs w0 T0 0 0 e w'))
    (HC : Hid (∀ w0, Below w.heap.size w w0 → Calls Tryz.prog 20 #[.string (mk l ++ mk (bl n))] w0 fun e w' => WhoIs w0 T0 0 0 e w'))
    (HS : Hid (∀ w0 v v', TrV w0 65 v T0 → TrV w0 65 v' T0 → Calls Tryz.prog 15 #[v, v'] w0 fun e w' => e = .returned (.bool true) ∧ Hid (Below w0.heap.size w0 w'))) :
    Calls Tryz.prog 6 #[.string (mk l), .int .u8 m] w fun e w' => e = .returned (.bool true) ∧ Below w.heap.size w w' := by
  have he := eql_fault 0 0 0 0
  go_enter Tryz.func6, Tryz.ntmps6
  go_wp2_with fail
  go_loop [6, 17] (fun ua ui => ∃ j : Nat, j ≤ n ∧ ui = .int .i64 (j : Int) ∧ ua = .string (mk (bl j))) (fun _ ui => n - (intOf ui).toNat)
  case atStart => exact ⟨0, Nat.zero_le _, rfl, rfl⟩
  case round =>
    obtain ⟨j, hj, rfl, rfl⟩ := hrel
    have hrs : (mk (bl j)).size = j := by rw [mk_size, List.length_replicate]
    by_cases hjl : j < n
    · have hsp : mk (bl j) ++ (⟨#[32]⟩ : ByteArray) = mk (bl (j + 1)) := bl_snoc j
      have hone : (⟨#[32]⟩ : ByteArray).size = 1 := rfl
      go_wp2
      go_round
      case rel => exact ⟨j + 1, by omega, by go_num, by first | rfl | rw [hsp]⟩
      case measure => (simp [intOf] <;> omega)
    · obtain rfl : n = j := by omega
      generalize mk (bl n) = X at *
      go_wp2_with fail
      refine (HA.out w (Below.refl _ _)).mono ?_
      rintro e w0 ⟨ad0, len0, cap0, rfl, H0⟩
      have N0 : Hid (_ ∧ _ ∧ _) := two_new w0 #[.int .i64 T0.kind, .string (mk T0.text), .string (mk T0.anc), .slice ad0 len0 cap0] #[.int .i64 0, .int .i64 0]
      go_wp2_with fail
      generalize (w0.alloc (.cells #[.int .i64 T0.kind, .string (mk T0.text), .string (mk T0.anc), .slice ad0 len0 cap0] 24)).alloc (.cells #[.int .i64 0, .int .i64 0] 37) = W0 at N0 ⊢
      have B0 : Hid (Below w.heap.size w W0) := H0.out.2.trans (N0.out.1.mono H0.out.2.size)
      have V0 : Hid (TrV W0 65 (.agg #[.int .i64 T0.kind, .string (mk T0.text), .string (mk T0.anc), .slice ad0 len0 cap0]) T0) := H0.out.1.later N0.out.1 (Nat.le_refl _)
      have b0 : Hid (Bx W0 w0.heap.size #[.int .i64 T0.kind, .string (mk T0.text), .string (mk T0.anc), .slice ad0 len0 cap0] 24) := N0.out.2.1
      have c0 : Hid (Bx W0 (w0.heap.size + 1) #[.int .i64 0, .int .i64 0] 37) := N0.out.2.2
      clear N0 H0
      generalize w0.heap.size + 1 = K1 at *
      generalize w0.heap.size = K0 at *
      refine (HB.out W0 B0.out).mono ?_
      rintro e w1 ⟨ad1, len1, cap1, rfl, H1⟩
      have N1 : Hid (_ ∧ _ ∧ _) := two_new w1 #[.int .i64 T0.kind, .string (mk T0.text), .string (mk T0.anc), .slice ad1 len1 cap1] #[.int .i64 0, .int .i64 0]
      go_wp2_with fail
      generalize (w1.alloc (.cells #[.int .i64 T0.kind, .string (mk T0.text), .string (mk T0.anc), .slice ad1 len1 cap1] 24)).alloc (.cells #[.int .i64 0, .int .i64 0] 37) = W1 at N1 ⊢
      have G1 : Hid (Below W0.heap.size W0 W1) := H1.out.2.trans (N1.out.1.mono H1.out.2.size)
      have B1 : Hid (Below w.heap.size w W1) := B0.out.trans (G1.out.mono B0.out.size)
      have V1 : Hid (TrV W1 65 (.agg #[.int .i64 T0.kind, .string (mk T0.text), .string (mk T0.anc), .slice ad1 len1 cap1]) T0) := H1.out.1.later N1.out.1 (Nat.le_refl _)
      replace V0 : Hid (TrV W1 65 (.agg #[.int .i64 T0.kind, .string (mk T0.text), .string (mk T0.anc), .slice ad0 len0 cap0]) T0) := V0.out.later G1.out (Nat.le_refl _)
      replace b0 : Hid (Bx W1 K0 #[.int .i64 T0.kind, .string (mk T0.text), .string (mk T0.anc), .slice ad0 len0 cap0] 24) := b0.out.later G1.out
      replace c0 : Hid (Bx W1 K1 #[.int .i64 0, .int .i64 0] 37) := c0.out.later G1.out
      have b1 : Hid (Bx W1 w1.heap.size #[.int .i64 T0.kind, .string (mk T0.text), .string (mk T0.anc), .slice ad1 len1 cap1] 24) := N1.out.2.1
      have c1 : Hid (Bx W1 (w1.heap.size + 1) #[.int .i64 0, .int .i64 0] 37) := N1.out.2.2
      clear N1 H1 B0 G1
      generalize w1.heap.size + 1 = K3 at *
      generalize w1.heap.size = K2 at *
      refine (HC.out W1 B1.out).mono ?_
      rintro e w2 ⟨ad2, len2, cap2, rfl, H2⟩
      have N2 : Hid (_ ∧ _ ∧ _) := two_new w2 #[.int .i64 T0.kind, .string (mk T0.text), .string (mk T0.anc), .slice ad2 len2 cap2] #[.int .i64 0, .int .i64 0]
      go_upto_region 12 with fail
      generalize (w2.alloc (.cells #[.int .i64 T0.kind, .string (mk T0.text), .string (mk T0.anc), .slice ad2 len2 cap2] 24)).alloc (.cells #[.int .i64 0, .int .i64 0] 37) = W2 at N2 ⊢
      have G2 : Hid (Below W1.heap.size W1 W2) := H2.out.2.trans (N2.out.1.mono H2.out.2.size)
      have B2 : Hid (Below w.heap.size w W2) := B1.out.trans (G2.out.mono B1.out.size)
      have V2 : Hid (TrV W2 65 (.agg #[.int .i64 T0.kind, .string (mk T0.text), .string (mk T0.anc), .slice ad2 len2 cap2]) T0) := H2.out.1.later N2.out.1 (Nat.le_refl _)
      replace V0 : Hid (TrV W2 65 (.agg #[.int .i64 T0.kind, .string (mk T0.text), .string (mk T0.anc), .slice ad0 len0 cap0]) T0) := V0.out.later G2.out (Nat.le_refl _)
      replace V1 : Hid (TrV W2 65 (.agg #[.int .i64 T0.kind, .string (mk T0.text), .string (mk T0.anc), .slice ad1 len1 cap1]) T0) := V1.out.later G2.out (Nat.le_refl _)
      have b2 : Bx W2 w2.heap.size #[.int .i64 T0.kind, .string (mk T0.text), .string (mk T0.anc), .slice ad2 len2 cap2] 24 := N2.out.2.1
      have c2 : Bx W2 (w2.heap.size + 1) #[.int .i64 0, .int .i64 0] 37 := N2.out.2.2
      clear N2 H2
      generalize w2.heap.size + 1 = K5 at *
      generalize w2.heap.size = K4 at *
      have d0 := b0.out.later G2.out
      have d1 := b1.out.later G2.out
      have e0 := c0.out.later G2.out
      have e1 := c1.out.later G2.out
      have p00 : W2.cell? ⟨K0, 0, none⟩ = some (.int .i64 T0.kind) := d0.cell 0
      have p01 : W2.cell? ⟨K0, 1, none⟩ = some (.string (mk T0.text)) := d0.cell 1
      have p02 : W2.cell? ⟨K0, 2, none⟩ = some (.string (mk T0.anc)) := d0.cell 2
      have p03 : W2.cell? ⟨K0, 3, none⟩ = some (.slice ad0 len0 cap0) := d0.cell 3
      have p10 : W2.cell? ⟨K2, 0, none⟩ = some (.int .i64 T0.kind) := d1.cell 0
      have p11 : W2.cell? ⟨K2, 1, none⟩ = some (.string (mk T0.text)) := d1.cell 1
      have p12 : W2.cell? ⟨K2, 2, none⟩ = some (.string (mk T0.anc)) := d1.cell 2
      have p13 : W2.cell? ⟨K2, 3, none⟩ = some (.slice ad1 len1 cap1) := d1.cell 3
      have p20 : W2.cell? ⟨K4, 0, none⟩ = some (.int .i64 T0.kind) := b2.cell 0
      have p21 : W2.cell? ⟨K4, 1, none⟩ = some (.string (mk T0.text)) := b2.cell 1
      have p22 : W2.cell? ⟨K4, 2, none⟩ = some (.string (mk T0.anc)) := b2.cell 2
      have p23 : W2.cell? ⟨K4, 3, none⟩ = some (.slice ad2 len2 cap2) := b2.cell 3
      have q00 : W2.cell? ⟨K1, 0, none⟩ = some (.int .i64 0) := e0.cell 0
      have q01 : W2.cell? ⟨K1, 1, none⟩ = some (.int .i64 0) := e0.cell 1
      have q10 : W2.cell? ⟨K3, 0, none⟩ = some (.int .i64 0) := e1.cell 0
      have q11 : W2.cell? ⟨K3, 1, none⟩ = some (.int .i64 0) := e1.cell 1
      have q20 : W2.cell? ⟨K5, 0, none⟩ = some (.int .i64 0) := c2.cell 0
      have q21 : W2.cell? ⟨K5, 1, none⟩ = some (.int .i64 0) := c2.cell 1
      clear B1 G2 b0 c0 b1 c1 HA HB HC
      have D0 : Hid (Bx W2 K0 #[.int .i64 T0.kind, .string (mk T0.text), .string (mk T0.anc), .slice ad0 len0 cap0] 24) := d0
      have D2 : Hid (Bx W2 K4 #[.int .i64 T0.kind, .string (mk T0.text), .string (mk T0.anc), .slice ad2 len2 cap2] 24) := b2
      have E0 : Hid (Bx W2 K1 #[.int .i64 0, .int .i64 0] 37) := e0
      have E2 : Hid (Bx W2 K5 #[.int .i64 0, .int .i64 0] 37) := c2
      clear d0 d1 e0 e1 b2 c2
      go_wp2_with fail
      refine (HS.out W2 _ _ V0.out V1.out).mono ?_
      rintro e w3 ⟨rfl, H3⟩
      have B3 : Hid (Below w.heap.size w w3) := B2.out.trans (H3.out.mono B2.out.size)
      replace V0 : Hid (TrV w3 65 (.agg #[.int .i64 T0.kind, .string (mk T0.text), .string (mk T0.anc), .slice ad0 len0 cap0]) T0) := V0.out.later H3.out (Nat.le_refl _)
      replace V2 : Hid (TrV w3 65 (.agg #[.int .i64 T0.kind, .string (mk T0.text), .string (mk T0.anc), .slice ad2 len2 cap2]) T0) := V2.out.later H3.out (Nat.le_refl _)
      have d0 := D0.out.later H3.out
      have d2 := D2.out.later H3.out
      have e0 := E0.out.later H3.out
      have e2 := E2.out.later H3.out
      have r00 : w3.cell? ⟨K0, 0, none⟩ = some (.int .i64 T0.kind) := d0.cell 0
      have r01 : w3.cell? ⟨K0, 1, none⟩ = some (.string (mk T0.text)) := d0.cell 1
      have r02 : w3.cell? ⟨K0, 2, none⟩ = some (.string (mk T0.anc)) := d0.cell 2
      have r03 : w3.cell? ⟨K0, 3, none⟩ = some (.slice ad0 len0 cap0) := d0.cell 3
      have r20 : w3.cell? ⟨K4, 0, none⟩ = some (.int .i64 T0.kind) := d2.cell 0
      have r21 : w3.cell? ⟨K4, 1, none⟩ = some (.string (mk T0.text)) := d2.cell 1
      have r22 : w3.cell? ⟨K4, 2, none⟩ = some (.string (mk T0.anc)) := d2.cell 2
      have r23 : w3.cell? ⟨K4, 3, none⟩ = some (.slice ad2 len2 cap2) := d2.cell 3
      have s00 : w3.cell? ⟨K1, 0, none⟩ = some (.int .i64 0) := e0.cell 0
      have s01 : w3.cell? ⟨K1, 1, none⟩ = some (.int .i64 0) := e0.cell 1
      have s20 : w3.cell? ⟨K5, 0, none⟩ = some (.int .i64 0) := e2.cell 0
      have s21 : w3.cell? ⟨K5, 1, none⟩ = some (.int .i64 0) := e2.cell 1
      clear d0 d2 e0 e2 D0 D2 E0 E2
      go_wp2_with fail
      refine (HS.out w3 _ _ V0.out V2.out).mono ?_
      rintro e w4 ⟨rfl, H4⟩
      have B4 : Hid (Below w.heap.size w w4) := B3.out.trans (H4.out.mono B3.out.size)
      go_wp2_with fail
      refine (HAL.out w4 B4.out).mono ?_
      rintro e w5 ⟨rfl, H5⟩
      go_wp2
      go_ret
      exact ⟨rfl, H5.out⟩

theorem blanks_bad (l : Ln) (m : Int) (n : Nat) (w : World) (h0 : 0 ≤ m) (h1 : m ≤ 255) (hn : m % 20 = (n : Int)) (hn20 : n < 20) (hsz : (mk l).size = l.length) (hl : l.length ≤ 8000) (T0 T1 T2 : Tr) (x y a b : Int) (hx : x ≠ 0) (hy0 : 0 ≤ y) (hy : y ≤ 100000)
    (HAL : Hid (∀ w0, Below w.heap.size w w0 → Calls Tryz.prog 9 #[] w0 fun e w' => e = .returned (.bool true) ∧ Hid (Below w.heap.size w w')))
    (HA : Hid (∀ w0, Below w.heap.size w w0 → Calls Tryz.prog 20 #[.string (mk l)] w0 fun e w' => WhoIs w0 T0 x y e w'))
    (HB : Hid (∀ w0, Below w.heap.size w w0 → Calls Tryz.prog 20 #[.string (mk (bl n) ++ mk l)] w0 fun e w' => WhoIs w0 T1 x (y + (n : Int)) e w'))
    (HC : Hid (∀ w0, Below w.heap.size w w0 → Calls Tryz.prog 20 #[.string (mk l ++ mk (bl n))] w0 fun e w' => WhoIs w0 T2 a b e w')) :
    Calls Tryz.prog 6 #[.string (mk l), .int .u8 m] w fun e w' => e = .returned (.bool true) ∧ Below w.heap.size w w' := by
  have he := eql_fault x 0 y 0
  have hxb : (x == 0 && y == 0) = false := by simp [hx]
  rw [hxb] at he
  go_enter Tryz.func6, Tryz.ntmps6
  go_wp2_with fail
  go_loop [6, 17] (fun ua ui => ∃ j : Nat, j ≤ n ∧ ui = .int .i64 (j : Int) ∧ ua = .string (mk (bl j))) (fun _ ui => n - (intOf ui).toNat)
  case atStart => exact ⟨0, Nat.zero_le _, rfl, rfl⟩
  case round =>
    obtain ⟨j, hj, rfl, rfl⟩ := hrel
    have hrs : (mk (bl j)).size = j := by rw [mk_size, List.length_replicate]
    by_cases hjl : j < n
    · have hsp : mk (bl j) ++ (⟨#[32]⟩ : ByteArray) = mk (bl (j + 1)) := bl_snoc j
      have hone : (⟨#[32]⟩ : ByteArray).size = 1 := rfl
      go_wp2
      go_round
      case rel => exact ⟨j + 1, by omega, by go_num, by first | rfl | rw [hsp]⟩
      case measure => (simp [intOf] <;> omega)
    · obtain rfl : n = j := by omega
      generalize mk (bl n) = X at *
      go_wp2_with fail
      refine (HA.out w (Below.refl _ _)).mono ?_
      rintro e w0 ⟨ad0, len0, cap0, rfl, H0⟩
      have N0 : Hid (_ ∧ _ ∧ _) := two_new w0 #[.int .i64 T0.kind, .string (mk T0.text), .string (mk T0.anc), .slice ad0 len0 cap0] #[.int .i64 x, .int .i64 y]
      go_wp2_with fail
      generalize (w0.alloc (.cells #[.int .i64 T0.kind, .string (mk T0.text), .string (mk T0.anc), .slice ad0 len0 cap0] 24)).alloc (.cells #[.int .i64 x, .int .i64 y] 37) = W0 at N0 ⊢
      have B0 : Hid (Below w.heap.size w W0) := H0.out.2.trans (N0.out.1.mono H0.out.2.size)
      have V0 : Hid (TrV W0 65 (.agg #[.int .i64 T0.kind, .string (mk T0.text), .string (mk T0.anc), .slice ad0 len0 cap0]) T0) := H0.out.1.later N0.out.1 (Nat.le_refl _)
      have b0 : Hid (Bx W0 w0.heap.size #[.int .i64 T0.kind, .string (mk T0.text), .string (mk T0.anc), .slice ad0 len0 cap0] 24) := N0.out.2.1
      have c0 : Hid (Bx W0 (w0.heap.size + 1) #[.int .i64 x, .int .i64 y] 37) := N0.out.2.2
      clear N0 H0
      generalize w0.heap.size + 1 = K1 at *
      generalize w0.heap.size = K0 at *
      refine (HB.out W0 B0.out).mono ?_
      rintro e w1 ⟨ad1, len1, cap1, rfl, H1⟩
      have N1 : Hid (_ ∧ _ ∧ _) := two_new w1 #[.int .i64 T1.kind, .string (mk T1.text), .string (mk T1.anc), .slice ad1 len1 cap1] #[.int .i64 x, .int .i64 (y + (n : Int))]
      go_wp2_with fail
      generalize (w1.alloc (.cells #[.int .i64 T1.kind, .string (mk T1.text), .string (mk T1.anc), .slice ad1 len1 cap1] 24)).alloc (.cells #[.int .i64 x, .int .i64 (y + (n : Int))] 37) = W1 at N1 ⊢
      have G1 : Hid (Below W0.heap.size W0 W1) := H1.out.2.trans (N1.out.1.mono H1.out.2.size)
      have B1 : Hid (Below w.heap.size w W1) := B0.out.trans (G1.out.mono B0.out.size)
      have V1 : Hid (TrV W1 65 (.agg #[.int .i64 T1.kind, .string (mk T1.text), .string (mk T1.anc), .slice ad1 len1 cap1]) T1) := H1.out.1.later N1.out.1 (Nat.le_refl _)
      replace V0 : Hid (TrV W1 65 (.agg #[.int .i64 T0.kind, .string (mk T0.text), .string (mk T0.anc), .slice ad0 len0 cap0]) T0) := V0.out.later G1.out (Nat.le_refl _)
      replace b0 : Hid (Bx W1 K0 #[.int .i64 T0.kind, .string (mk T0.text), .string (mk T0.anc), .slice ad0 len0 cap0] 24) := b0.out.later G1.out
      replace c0 : Hid (Bx W1 K1 #[.int .i64 x, .int .i64 y] 37) := c0.out.later G1.out
      have b1 : Hid (Bx W1 w1.heap.size #[.int .i64 T1.kind, .string (mk T1.text), .string (mk T1.anc), .slice ad1 len1 cap1] 24) := N1.out.2.1
      have c1 : Hid (Bx W1 (w1.heap.size + 1) #[.int .i64 x, .int .i64 (y + (n : Int))] 37) := N1.out.2.2
      clear N1 H1 B0 G1
      generalize w1.heap.size + 1 = K3 at *
      generalize w1.heap.size = K2 at *
      refine (HC.out W1 B1.out).mono ?_
      rintro e w2 ⟨ad2, len2, cap2, rfl, H2⟩
      have N2 : Hid (_ ∧ _ ∧ _) := two_new w2 #[.int .i64 T2.kind, .string (mk T2.text), .string (mk T2.anc), .slice ad2 len2 cap2] #[.int .i64 a, .int .i64 b]
      go_upto_region 12 with fail
      generalize (w2.alloc (.cells #[.int .i64 T2.kind, .string (mk T2.text), .string (mk T2.anc), .slice ad2 len2 cap2] 24)).alloc (.cells #[.int .i64 a, .int .i64 b] 37) = W2 at N2 ⊢
      have G2 : Hid (Below W1.heap.size W1 W2) := H2.out.2.trans (N2.out.1.mono H2.out.2.size)
      have B2 : Hid (Below w.heap.size w W2) := B1.out.trans (G2.out.mono B1.out.size)
      have V2 : Hid (TrV W2 65 (.agg #[.int .i64 T2.kind, .string (mk T2.text), .string (mk T2.anc), .slice ad2 len2 cap2]) T2) := H2.out.1.later N2.out.1 (Nat.le_refl _)
      replace V0 : Hid (TrV W2 65 (.agg #[.int .i64 T0.kind, .string (mk T0.text), .string (mk T0.anc), .slice ad0 len0 cap0]) T0) := V0.out.later G2.out (Nat.le_refl _)
      replace V1 : Hid (TrV W2 65 (.agg #[.int .i64 T1.kind, .string (mk T1.text), .string (mk T1.anc), .slice ad1 len1 cap1]) T1) := V1.out.later G2.out (Nat.le_refl _)
      have b2 : Bx W2 w2.heap.size #[.int .i64 T2.kind, .string (mk T2.text), .string (mk T2.anc), .slice ad2 len2 cap2] 24 := N2.out.2.1
      have c2 : Bx W2 (w2.heap.size + 1) #[.int .i64 a, .int .i64 b] 37 := N2.out.2.2
      clear N2 H2
      generalize w2.heap.size + 1 = K5 at *
      generalize w2.heap.size = K4 at *
      have d0 := b0.out.later G2.out
      have d1 := b1.out.later G2.out
      have e0 := c0.out.later G2.out
      have e1 := c1.out.later G2.out
      have p00 : W2.cell? ⟨K0, 0, none⟩ = some (.int .i64 T0.kind) := d0.cell 0
      have p01 : W2.cell? ⟨K0, 1, none⟩ = some (.string (mk T0.text)) := d0.cell 1
      have p02 : W2.cell? ⟨K0, 2, none⟩ = some (.string (mk T0.anc)) := d0.cell 2
      have p03 : W2.cell? ⟨K0, 3, none⟩ = some (.slice ad0 len0 cap0) := d0.cell 3
      have p10 : W2.cell? ⟨K2, 0, none⟩ = some (.int .i64 T1.kind) := d1.cell 0
      have p11 : W2.cell? ⟨K2, 1, none⟩ = some (.string (mk T1.text)) := d1.cell 1
      have p12 : W2.cell? ⟨K2, 2, none⟩ = some (.string (mk T1.anc)) := d1.cell 2
      have p13 : W2.cell? ⟨K2, 3, none⟩ = some (.slice ad1 len1 cap1) := d1.cell 3
      have p20 : W2.cell? ⟨K4, 0, none⟩ = some (.int .i64 T2.kind) := b2.cell 0
      have p21 : W2.cell? ⟨K4, 1, none⟩ = some (.string (mk T2.text)) := b2.cell 1
      have p22 : W2.cell? ⟨K4, 2, none⟩ = some (.string (mk T2.anc)) := b2.cell 2
      have p23 : W2.cell? ⟨K4, 3, none⟩ = some (.slice ad2 len2 cap2) := b2.cell 3
      have q00 : W2.cell? ⟨K1, 0, none⟩ = some (.int .i64 x) := e0.cell 0
      have q01 : W2.cell? ⟨K1, 1, none⟩ = some (.int .i64 y) := e0.cell 1
      have q10 : W2.cell? ⟨K3, 0, none⟩ = some (.int .i64 x) := e1.cell 0
      have q11 : W2.cell? ⟨K3, 1, none⟩ = some (.int .i64 (y + (n : Int))) := e1.cell 1
      have q20 : W2.cell? ⟨K5, 0, none⟩ = some (.int .i64 a) := c2.cell 0
      have q21 : W2.cell? ⟨K5, 1, none⟩ = some (.int .i64 b) := c2.cell 1
      clear B1 G2 b0 c0 b1 c1 HA HB HC
      clear d0 d1 e0 e1 b2 c2
      go_wp2_with fail
      refine (HAL.out W2 B2.out).mono ?_
      rintro e w3 ⟨rfl, H3⟩
      go_wp2
      go_ret
      exact ⟨rfl, H3.out⟩

theorem blanks_walk (s : ByteArray) (m : Int) (w : World) (hs : s.size ≤ 140737488351232) (hm : (Lit.int .u8 m).wf = true) (hT : Tb w) :
    Calls Tryz.prog 6 #[.string s, .int .u8 m] w fun e w' => e = .returned (.bool true) ∧ Below w.heap.size w w' := by
  obtain ⟨l, rfl⟩ := mk_ex s
  have hsz := mk_size l
  rw [mk_size] at hs
  have hm1 := bounds_u8 hm
  have h0 : 0 ≤ m := by omega
  have h1 : m ≤ 255 := by omega
  obtain ⟨n, hn⟩ : ∃ n : Nat, m % 20 = (n : Int) := ⟨(m % 20).toNat, by omega⟩
  have hn20 : n < 20 := by omega
  have HAL : Hid (∀ w0, Below w.heap.size w w0 → Calls Tryz.prog 9 #[] w0 fun e w' => e = .returned (.bool true) ∧ Hid (Below w.heap.size w w')) := fun w0 b => (alive_any (hT.later b)).mono (fun e w' h => ⟨h.1, b.trans (h.2.mono b.size)⟩)
  by_cases hl : 8000 < l.length
  · exact blanks_long l m n w h0 h1 hn hn20 hsz hl hs HAL
  · have hl1 : l.length ≤ 8000 := by omega
    have ha := whole_ahead l n (by omega)
    have e1 : (bl n ++ l).length ≤ 9223372036854775807 := by rw [List.length_append, List.length_replicate]; omega
    have e2 : (l ++ bl n).length ≤ 9223372036854775807 := by rw [List.length_append, List.length_replicate]; omega
    by_cases hz : (whole l).2.1 = 0
    · obtain ⟨_, _, _, _, hA⟩ := whole_inv hz
      have hB : whole (bl n ++ l) = ((whole l).1, 0, 0) := by
        obtain ⟨_, _, _, _, hB⟩ := whole_inv (l := bl n ++ l) (by rw [ha.2.1]; exact hz)
        rw [hB, ha.1]
      have hC : whole (l ++ bl n) = ((whole l).1, 0, 0) := (whole_behind l n (by omega) hz).trans hA
      exact blanks_ok l m n w h0 h1 hn hn20 hsz hl1 (whole l).1 HAL (fun w0 b => whole_is (by omega) hA w0 (hT.later b)) (fun w0 b => by rw [cat_mk]; exact whole_is e1 hB w0 (hT.later b)) (fun w0 b => by rw [cat_mk]; exact whole_is e2 hC w0 (hT.later b))
        (fun w0 v v' h h' => (rsame_any 65 65 v v' _ _ w0 h h').mono (fun e w' g => by obtain ⟨q, e, hq, hb⟩ := g; rw [hq.2 rfl] at e; exact ⟨e, hb⟩))
    · have e : (((whole l).2.2 + n : Nat) : Int) = ((whole l).2.2 : Int) + (n : Int) := by omega
      have hle := whole_le l
      exact blanks_bad l m n w h0 h1 hn hn20 hsz hl1 (whole l).1 (whole (bl n ++ l)).1 (whole (l ++ bl n)).1 ((whole l).2.1 : Int) ((whole l).2.2 : Int) ((whole (l ++ bl n)).2.1 : Int) ((whole (l ++ bl n)).2.2 : Int) (by omega) (by omega) (by omega) HAL
        (fun w0 b => whole_is (by omega) rfl w0 (hT.later b)) (fun w0 b => by rw [cat_mk, ← e]; exact whole_is e1 (by rw [← ha.2.1, ← ha.2.2 hz]) w0 (hT.later b)) (fun w0 b => by rw [cat_mk]; exact whole_is e2 rfl w0 (hT.later b))

end Go.Proofs.YteokhnielbmifaaGreatDoor.Flw
