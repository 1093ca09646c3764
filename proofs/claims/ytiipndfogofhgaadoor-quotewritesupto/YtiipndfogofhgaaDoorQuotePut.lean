/- (*quote.writer).put, by its contract. -/
import Derived.Test.YtiipndfogofhgaaDoorQuoteNum
namespace Go.Proofs.YtiipndfogofhgaaDoor.Quo
open Utf Rws
open Go.RowKit
set_option linter.unusedSimpArgs false
set_option linter.unusedVariables false
set_option maxRecDepth 100000

variable {B b : Nat} {out : List UInt8} {w w1 w2 : World}
/-- behind the writing of an escape's first byte, and its second -/
theorem two_bytes {X : Nat} {cs : Array Value} {t : TypeId} (ht : t ≠ 5) (c : UInt8) (w2 W : World) (hW : Wt B b (out ++ [92]) w2) (hF : Fr B b w w2) (hX : w2.heap[X]? = some (.cells cs t (0, 0))) (hXb : b < X) (hb : Below w2.heap.size w2 W) (ho : out.length + 20 ≤ 140737488355328) (hB : B ≤ w2.heap.size) :
    Calls Tryd.prog 28 #[.pointer (some ⟨b, 0, none⟩), .int .u8 (c.toNat : Int)] W fun e w' => e = .returned .nilIface ∧ (Wt B b (out ++ [92, c]) w' ∧ Fr B b w w') := by
  refine (wByte c W (hW.later hb) (by simp; omega) (by have := hb.size; omega)).mono ?_
  rintro e w' ⟨q1, q2, q3⟩
  rw [List.append_assoc] at q2
  exact ⟨q1, q2, hF.trans ((Fr.of hb hB).trans q3)⟩

set_option maxHeartbeats 8000000 in
theorem put_any (n : Int) (w : World) (h : Wt B b out w) (hsg : sgn n = true) (ho : out.length + 20 ≤ 140737488355328) (hBw : B ≤ w.heap.size) (hT : Tabs w) (hB2 : 2 ≤ B) :
    Calls Tryd.prog 29 #[.pointer (some ⟨b, 0, none⟩), .int .i64 n] w fun e w' => e = .returned (.tuple #[]) ∧ Wt B b (out ++ esc n) w' ∧ Fr B b w w' := by
  have hlt := h.lt
  have hB := h.base
  have hbd := sgn_bd hsg
  have HSG : Hid (sgn n = true) := hsg
  have HT : Hid (∀ W, Fr B b w W → Tabs W) := fun W hF => hT.under hF.1 hB2
  obtain ⟨t0, fz, hT⟩ := hT.sh
  have g0 : w.cell? ⟨0, 0, none⟩ = some (.int .u8 34) := by rw [Lib.cell_of_heap hT]; rfl
  have g1 : w.cell? ⟨0, 1, none⟩ = some (.int .i64 34) := by rw [Lib.cell_of_heap hT]; rfl
  have g2 : w.cell? ⟨0, 2, none⟩ = some (.int .u8 92) := by rw [Lib.cell_of_heap hT]; rfl
  have g3 : w.cell? ⟨0, 3, none⟩ = some (.int .i64 92) := by rw [Lib.cell_of_heap hT]; rfl
  have g4 : w.cell? ⟨0, 4, none⟩ = some (.int .u8 110) := by rw [Lib.cell_of_heap hT]; rfl
  have g5 : w.cell? ⟨0, 5, none⟩ = some (.int .i64 10) := by rw [Lib.cell_of_heap hT]; rfl
  have g6 : w.cell? ⟨0, 6, none⟩ = some (.int .u8 116) := by rw [Lib.cell_of_heap hT]; rfl
  have g7 : w.cell? ⟨0, 7, none⟩ = some (.int .i64 9) := by rw [Lib.cell_of_heap hT]; rfl
  have g8 : w.cell? ⟨0, 8, none⟩ = some (.int .u8 114) := by rw [Lib.cell_of_heap hT]; rfl
  have g9 : w.cell? ⟨0, 9, none⟩ = some (.int .i64 13) := by rw [Lib.cell_of_heap hT]; rfl
  have g10 : w.cell? ⟨0, 10, none⟩ = some (.int .u8 48) := by rw [Lib.cell_of_heap hT]; rfl
  have g11 : w.cell? ⟨0, 11, none⟩ = some (.int .i64 0) := by rw [Lib.cell_of_heap hT]; rfl
  have x0 : ∀ w : World, (Instr.index 77 (.agg #[.int .u8 34, .int .i64 34, .int .u8 92, .int .i64 92, .int .u8 110, .int .i64 10, .int .u8 116, .int .i64 9, .int .u8 114, .int .i64 13, .int .u8 48, .int .i64 0]) (.int .i64 0)).run Tryd.prog w = .ok (.agg #[.int .u8 34, .int .i64 34]) w := fun _ => by kernel_rfl
  have x1 : ∀ w : World, (Instr.index 77 (.agg #[.int .u8 34, .int .i64 34, .int .u8 92, .int .i64 92, .int .u8 110, .int .i64 10, .int .u8 116, .int .i64 9, .int .u8 114, .int .i64 13, .int .u8 48, .int .i64 0]) (.int .i64 1)).run Tryd.prog w = .ok (.agg #[.int .u8 92, .int .i64 92]) w := fun _ => by kernel_rfl
  have x2 : ∀ w : World, (Instr.index 77 (.agg #[.int .u8 34, .int .i64 34, .int .u8 92, .int .i64 92, .int .u8 110, .int .i64 10, .int .u8 116, .int .i64 9, .int .u8 114, .int .i64 13, .int .u8 48, .int .i64 0]) (.int .i64 2)).run Tryd.prog w = .ok (.agg #[.int .u8 110, .int .i64 10]) w := fun _ => by kernel_rfl
  have x3 : ∀ w : World, (Instr.index 77 (.agg #[.int .u8 34, .int .i64 34, .int .u8 92, .int .i64 92, .int .u8 110, .int .i64 10, .int .u8 116, .int .i64 9, .int .u8 114, .int .i64 13, .int .u8 48, .int .i64 0]) (.int .i64 3)).run Tryd.prog w = .ok (.agg #[.int .u8 116, .int .i64 9]) w := fun _ => by kernel_rfl
  have x4 : ∀ w : World, (Instr.index 77 (.agg #[.int .u8 34, .int .i64 34, .int .u8 92, .int .i64 92, .int .u8 110, .int .i64 10, .int .u8 116, .int .i64 9, .int .u8 114, .int .i64 13, .int .u8 48, .int .i64 0]) (.int .i64 4)).run Tryd.prog w = .ok (.agg #[.int .u8 114, .int .i64 13]) w := fun _ => by kernel_rfl
  have x5 : ∀ w : World, (Instr.index 77 (.agg #[.int .u8 34, .int .i64 34, .int .u8 92, .int .i64 92, .int .u8 110, .int .i64 10, .int .u8 116, .int .i64 9, .int .u8 114, .int .i64 13, .int .u8 48, .int .i64 0]) (.int .i64 5)).run Tryd.prog w = .ok (.agg #[.int .u8 48, .int .i64 0]) w := fun _ => by kernel_rfl
  obtain ⟨V, HV⟩ : ∃ V, Hid (V = esc n) := ⟨_, rfl⟩
  rw [← HV.out]
  have HW : Hid (Wt B b out w) := h
  obtain ⟨n0, n1', n2'⟩ := hbd
  clear hT h hsg
  go_enter Tryd.func29, Tryd.ntmps29
  go_wp2
  clear g0 g1 g2 g3 g4 g5 g6 g7 g8 g9 g10 g11
  go_loopw [7] (fun i wr => ∃ k : Int, 0 ≤ k ∧ k ≤ 6 ∧ i = .int .i64 k ∧ (0 < k → n ≠ 34) ∧ (1 < k → n ≠ 92) ∧ (2 < k → n ≠ 10) ∧ (3 < k → n ≠ 9) ∧ (4 < k → n ≠ 13) ∧ (5 < k → n ≠ 0) ∧ Wt B b out wr ∧ Fr B b w wr ∧ w.heap.size ≤ wr.heap.size) (fun i _ => 6 - (intOf i).toNat)
  case atStart => exact ⟨0, by decide, by decide, rfl, fun h => absurd h (by decide), fun h => absurd h (by decide), fun h => absurd h (by decide), fun h => absurd h (by decide), fun h => absurd h (by decide), fun h => absurd h (by decide), HW.out, Fr.refl, Nat.le_refl _⟩
  case round =>
    obtain ⟨k, hk0, hk, rfl, m0, m1, m2, m3, m4, m5, hW1, hF1, hs1⟩ := hrel
    have HW1 : Hid (Wt B b out wr) := hW1
    have HF1 : Hid (Fr B b w wr) := hF1
    clear hW1 hF1 HW
    rcases (show k = 0 ∨ k = 1 ∨ k = 2 ∨ k = 3 ∨ k = 4 ∨ k = 5 ∨ k = 6 by omega) with rfl | rfl | rfl | rfl | rfl | rfl | rfl
    · by_cases hc : n = 34
      · have hq : ((34 : Int) == n) = true := by rw [hc]; simp
        have HVV : Hid (V = [92, 34]) := by rw [HV.out, hc]; exact rfl
        have HNC : Hid (n = 34) := hc
        clear hc m0 m1 m2 m3 m4 m5
        have hw1 : Below wr.heap.size wr (wr.alloc (.cells #[.int .u8 34, .int .i64 34] 76)) := below_alloc _ _
        have HW2 : Hid (Wt B b out (wr.alloc (.cells #[.int .u8 34, .int .i64 34] 76))) := HW1.out.later hw1
        have HF2 : Hid (Fr B b w (wr.alloc (.cells #[.int .u8 34, .int .i64 34] 76))) := HF1.out.trans (Fr.of hw1 (by omega))
        have HX1 : Hid ((wr.alloc (.cells #[.int .u8 34, .int .i64 34] 76)).heap[wr.heap.size]? = some (.cells #[.int .u8 34, .int .i64 34] 76 (0, 0))) := heap_alloc_new wr _
        have hsa : (wr.alloc (.cells #[.int .u8 34, .int .i64 34] 76)).heap.size = wr.heap.size + 1 := World.size_alloc _ _
        obtain ⟨X, HXX⟩ : ∃ X, Hid (X = wr.heap.size) := ⟨_, rfl⟩
        have hXb : b < X := by rw [HXX.out]; exact HW1.out.lt
        clear hw1 HW1 HF1
        go_wp2_with fail
        refine (wByte 92 _ HW2.out (by omega) (by omega)).mono ?_
        rintro e w2 ⟨rfl, hW2, hF2⟩
        rw [← HXX.out]
        rw [← HXX.out] at HX1
        have hX2 := hF2.keep HX1.out (by omega) (fun c fz e => by cases e)
        have c0 : w2.cell? ⟨X, 0, none⟩ = some (.int .u8 34) := by rw [Lib.cell_of_heap hX2]; rfl
        have hs2 : w.heap.size ≤ w2.heap.size := by have := hF2.1.size; omega
        have HWB : Hid (∀ W, Below w2.heap.size w2 W → Calls Tryd.prog 28 #[.pointer (some ⟨b, 0, none⟩), .int .u8 34] W fun e w' => e = .returned .nilIface ∧ (Wt B b (out ++ [92, 34]) w' ∧ Fr B b w w')) := fun W hb => two_bytes (X := X) (by decide) 34 w2 W hW2 (HF2.out.trans hF2) hX2 hXb hb ho (by omega)
        clear hW2 hF2 hX2 HW2 HF2 HX1 HXX hsa
        go_wp2
        go_region_with (go_at_call 28; refine (HWB.out _ (by first | exact Below.refl _ _ | exact Below.drew (Below.refl _ _) | exact below_drewN (Below.refl _ _) _)).mono ?_; rintro e w3 ⟨rfl, hW3, hF3⟩)
        all_goals
          go_wp2
          refine bodyPost_ret (v := .tuple #[]) (by simp [results, Tryd.results29, go_sem]) rfl ⟨rfl, ?_, hF3⟩
          rw [HVV.out]; exact hW3
      · have hq : ((34 : Int) == n) = false := by simp; omega
        have HN : Hid (((0 : Int) < 1 → n ≠ 34) ∧ ((1 : Int) < 1 → n ≠ 92) ∧ ((2 : Int) < 1 → n ≠ 10) ∧ ((3 : Int) < 1 → n ≠ 9) ∧ ((4 : Int) < 1 → n ≠ 13) ∧ ((5 : Int) < 1 → n ≠ 0)) := ⟨fun _ => hc, fun h => absurd h (by decide), fun h => absurd h (by decide), fun h => absurd h (by decide), fun h => absurd h (by decide), fun h => absurd h (by decide)⟩
        have hw1 : Below wr.heap.size wr (wr.alloc (.cells #[.int .u8 34, .int .i64 34] 76)) := below_alloc _ _
        have HW2 : Hid (Wt B b out (wr.alloc (.cells #[.int .u8 34, .int .i64 34] 76))) := HW1.out.later hw1
        have HF2 : Hid (Fr B b w (wr.alloc (.cells #[.int .u8 34, .int .i64 34] 76))) := HF1.out.trans (Fr.of hw1 (by omega))
        clear hw1 HW1 HF1 hc m0 m1 m2 m3 m4 m5
        go_wp2
        go_roundw
        case rel => exact ⟨1, by decide, by decide, rfl, HN.out.1, HN.out.2.1, HN.out.2.2.1, HN.out.2.2.2.1, HN.out.2.2.2.2.1, HN.out.2.2.2.2.2, HW2.out, HF2.out, by rw [World.size_alloc]; omega⟩
        case measure => simp [intOf]
    · by_cases hc : n = 92
      · have hq : ((92 : Int) == n) = true := by rw [hc]; simp
        have HVV : Hid (V = [92, 92]) := by rw [HV.out, hc]; exact rfl
        have HNC : Hid (n = 92) := hc
        clear hc m0 m1 m2 m3 m4 m5
        have hw1 : Below wr.heap.size wr (wr.alloc (.cells #[.int .u8 92, .int .i64 92] 76)) := below_alloc _ _
        have HW2 : Hid (Wt B b out (wr.alloc (.cells #[.int .u8 92, .int .i64 92] 76))) := HW1.out.later hw1
        have HF2 : Hid (Fr B b w (wr.alloc (.cells #[.int .u8 92, .int .i64 92] 76))) := HF1.out.trans (Fr.of hw1 (by omega))
        have HX1 : Hid ((wr.alloc (.cells #[.int .u8 92, .int .i64 92] 76)).heap[wr.heap.size]? = some (.cells #[.int .u8 92, .int .i64 92] 76 (0, 0))) := heap_alloc_new wr _
        have hsa : (wr.alloc (.cells #[.int .u8 92, .int .i64 92] 76)).heap.size = wr.heap.size + 1 := World.size_alloc _ _
        obtain ⟨X, HXX⟩ : ∃ X, Hid (X = wr.heap.size) := ⟨_, rfl⟩
        have hXb : b < X := by rw [HXX.out]; exact HW1.out.lt
        clear hw1 HW1 HF1
        go_wp2_with fail
        refine (wByte 92 _ HW2.out (by omega) (by omega)).mono ?_
        rintro e w2 ⟨rfl, hW2, hF2⟩
        rw [← HXX.out]
        rw [← HXX.out] at HX1
        have hX2 := hF2.keep HX1.out (by omega) (fun c fz e => by cases e)
        have c0 : w2.cell? ⟨X, 0, none⟩ = some (.int .u8 92) := by rw [Lib.cell_of_heap hX2]; rfl
        have hs2 : w.heap.size ≤ w2.heap.size := by have := hF2.1.size; omega
        have HWB : Hid (∀ W, Below w2.heap.size w2 W → Calls Tryd.prog 28 #[.pointer (some ⟨b, 0, none⟩), .int .u8 92] W fun e w' => e = .returned .nilIface ∧ (Wt B b (out ++ [92, 92]) w' ∧ Fr B b w w')) := fun W hb => two_bytes (X := X) (by decide) 92 w2 W hW2 (HF2.out.trans hF2) hX2 hXb hb ho (by omega)
        clear hW2 hF2 hX2 HW2 HF2 HX1 HXX hsa
        go_wp2
        go_region_with (go_at_call 28; refine (HWB.out _ (by first | exact Below.refl _ _ | exact Below.drew (Below.refl _ _) | exact below_drewN (Below.refl _ _) _)).mono ?_; rintro e w3 ⟨rfl, hW3, hF3⟩)
        all_goals
          go_wp2
          refine bodyPost_ret (v := .tuple #[]) (by simp [results, Tryd.results29, go_sem]) rfl ⟨rfl, ?_, hF3⟩
          rw [HVV.out]; exact hW3
      · have hq : ((92 : Int) == n) = false := by simp; omega
        have HN : Hid (((0 : Int) < 2 → n ≠ 34) ∧ ((1 : Int) < 2 → n ≠ 92) ∧ ((2 : Int) < 2 → n ≠ 10) ∧ ((3 : Int) < 2 → n ≠ 9) ∧ ((4 : Int) < 2 → n ≠ 13) ∧ ((5 : Int) < 2 → n ≠ 0)) := ⟨fun _ => m0 (by decide), fun _ => hc, fun h => absurd h (by decide), fun h => absurd h (by decide), fun h => absurd h (by decide), fun h => absurd h (by decide)⟩
        have hw1 : Below wr.heap.size wr (wr.alloc (.cells #[.int .u8 92, .int .i64 92] 76)) := below_alloc _ _
        have HW2 : Hid (Wt B b out (wr.alloc (.cells #[.int .u8 92, .int .i64 92] 76))) := HW1.out.later hw1
        have HF2 : Hid (Fr B b w (wr.alloc (.cells #[.int .u8 92, .int .i64 92] 76))) := HF1.out.trans (Fr.of hw1 (by omega))
        clear hw1 HW1 HF1 hc m0 m1 m2 m3 m4 m5
        go_wp2
        go_roundw
        case rel => exact ⟨2, by decide, by decide, rfl, HN.out.1, HN.out.2.1, HN.out.2.2.1, HN.out.2.2.2.1, HN.out.2.2.2.2.1, HN.out.2.2.2.2.2, HW2.out, HF2.out, by rw [World.size_alloc]; omega⟩
        case measure => simp [intOf]
    · by_cases hc : n = 10
      · have hq : ((10 : Int) == n) = true := by rw [hc]; simp
        have HVV : Hid (V = [92, 110]) := by rw [HV.out, hc]; exact rfl
        have HNC : Hid (n = 10) := hc
        clear hc m0 m1 m2 m3 m4 m5
        have hw1 : Below wr.heap.size wr (wr.alloc (.cells #[.int .u8 110, .int .i64 10] 76)) := below_alloc _ _
        have HW2 : Hid (Wt B b out (wr.alloc (.cells #[.int .u8 110, .int .i64 10] 76))) := HW1.out.later hw1
        have HF2 : Hid (Fr B b w (wr.alloc (.cells #[.int .u8 110, .int .i64 10] 76))) := HF1.out.trans (Fr.of hw1 (by omega))
        have HX1 : Hid ((wr.alloc (.cells #[.int .u8 110, .int .i64 10] 76)).heap[wr.heap.size]? = some (.cells #[.int .u8 110, .int .i64 10] 76 (0, 0))) := heap_alloc_new wr _
        have hsa : (wr.alloc (.cells #[.int .u8 110, .int .i64 10] 76)).heap.size = wr.heap.size + 1 := World.size_alloc _ _
        obtain ⟨X, HXX⟩ : ∃ X, Hid (X = wr.heap.size) := ⟨_, rfl⟩
        have hXb : b < X := by rw [HXX.out]; exact HW1.out.lt
        clear hw1 HW1 HF1
        go_wp2_with fail
        refine (wByte 92 _ HW2.out (by omega) (by omega)).mono ?_
        rintro e w2 ⟨rfl, hW2, hF2⟩
        rw [← HXX.out]
        rw [← HXX.out] at HX1
        have hX2 := hF2.keep HX1.out (by omega) (fun c fz e => by cases e)
        have c0 : w2.cell? ⟨X, 0, none⟩ = some (.int .u8 110) := by rw [Lib.cell_of_heap hX2]; rfl
        have hs2 : w.heap.size ≤ w2.heap.size := by have := hF2.1.size; omega
        have HWB : Hid (∀ W, Below w2.heap.size w2 W → Calls Tryd.prog 28 #[.pointer (some ⟨b, 0, none⟩), .int .u8 110] W fun e w' => e = .returned .nilIface ∧ (Wt B b (out ++ [92, 110]) w' ∧ Fr B b w w')) := fun W hb => two_bytes (X := X) (by decide) 110 w2 W hW2 (HF2.out.trans hF2) hX2 hXb hb ho (by omega)
        clear hW2 hF2 hX2 HW2 HF2 HX1 HXX hsa
        go_wp2
        go_region_with (go_at_call 28; refine (HWB.out _ (by first | exact Below.refl _ _ | exact Below.drew (Below.refl _ _) | exact below_drewN (Below.refl _ _) _)).mono ?_; rintro e w3 ⟨rfl, hW3, hF3⟩)
        all_goals
          go_wp2
          refine bodyPost_ret (v := .tuple #[]) (by simp [results, Tryd.results29, go_sem]) rfl ⟨rfl, ?_, hF3⟩
          rw [HVV.out]; exact hW3
      · have hq : ((10 : Int) == n) = false := by simp; omega
        have HN : Hid (((0 : Int) < 3 → n ≠ 34) ∧ ((1 : Int) < 3 → n ≠ 92) ∧ ((2 : Int) < 3 → n ≠ 10) ∧ ((3 : Int) < 3 → n ≠ 9) ∧ ((4 : Int) < 3 → n ≠ 13) ∧ ((5 : Int) < 3 → n ≠ 0)) := ⟨fun _ => m0 (by decide), fun _ => m1 (by decide), fun _ => hc, fun h => absurd h (by decide), fun h => absurd h (by decide), fun h => absurd h (by decide)⟩
        have hw1 : Below wr.heap.size wr (wr.alloc (.cells #[.int .u8 110, .int .i64 10] 76)) := below_alloc _ _
        have HW2 : Hid (Wt B b out (wr.alloc (.cells #[.int .u8 110, .int .i64 10] 76))) := HW1.out.later hw1
        have HF2 : Hid (Fr B b w (wr.alloc (.cells #[.int .u8 110, .int .i64 10] 76))) := HF1.out.trans (Fr.of hw1 (by omega))
        clear hw1 HW1 HF1 hc m0 m1 m2 m3 m4 m5
        go_wp2
        go_roundw
        case rel => exact ⟨3, by decide, by decide, rfl, HN.out.1, HN.out.2.1, HN.out.2.2.1, HN.out.2.2.2.1, HN.out.2.2.2.2.1, HN.out.2.2.2.2.2, HW2.out, HF2.out, by rw [World.size_alloc]; omega⟩
        case measure => simp [intOf]
    · by_cases hc : n = 9
      · have hq : ((9 : Int) == n) = true := by rw [hc]; simp
        have HVV : Hid (V = [92, 116]) := by rw [HV.out, hc]; exact rfl
        have HNC : Hid (n = 9) := hc
        clear hc m0 m1 m2 m3 m4 m5
        have hw1 : Below wr.heap.size wr (wr.alloc (.cells #[.int .u8 116, .int .i64 9] 76)) := below_alloc _ _
        have HW2 : Hid (Wt B b out (wr.alloc (.cells #[.int .u8 116, .int .i64 9] 76))) := HW1.out.later hw1
        have HF2 : Hid (Fr B b w (wr.alloc (.cells #[.int .u8 116, .int .i64 9] 76))) := HF1.out.trans (Fr.of hw1 (by omega))
        have HX1 : Hid ((wr.alloc (.cells #[.int .u8 116, .int .i64 9] 76)).heap[wr.heap.size]? = some (.cells #[.int .u8 116, .int .i64 9] 76 (0, 0))) := heap_alloc_new wr _
        have hsa : (wr.alloc (.cells #[.int .u8 116, .int .i64 9] 76)).heap.size = wr.heap.size + 1 := World.size_alloc _ _
        obtain ⟨X, HXX⟩ : ∃ X, Hid (X = wr.heap.size) := ⟨_, rfl⟩
        have hXb : b < X := by rw [HXX.out]; exact HW1.out.lt
        clear hw1 HW1 HF1
        go_wp2_with fail
        refine (wByte 92 _ HW2.out (by omega) (by omega)).mono ?_
        rintro e w2 ⟨rfl, hW2, hF2⟩
        rw [← HXX.out]
        rw [← HXX.out] at HX1
        have hX2 := hF2.keep HX1.out (by omega) (fun c fz e => by cases e)
        have c0 : w2.cell? ⟨X, 0, none⟩ = some (.int .u8 116) := by rw [Lib.cell_of_heap hX2]; rfl
        have hs2 : w.heap.size ≤ w2.heap.size := by have := hF2.1.size; omega
        have HWB : Hid (∀ W, Below w2.heap.size w2 W → Calls Tryd.prog 28 #[.pointer (some ⟨b, 0, none⟩), .int .u8 116] W fun e w' => e = .returned .nilIface ∧ (Wt B b (out ++ [92, 116]) w' ∧ Fr B b w w')) := fun W hb => two_bytes (X := X) (by decide) 116 w2 W hW2 (HF2.out.trans hF2) hX2 hXb hb ho (by omega)
        clear hW2 hF2 hX2 HW2 HF2 HX1 HXX hsa
        go_wp2
        go_region_with (go_at_call 28; refine (HWB.out _ (by first | exact Below.refl _ _ | exact Below.drew (Below.refl _ _) | exact below_drewN (Below.refl _ _) _)).mono ?_; rintro e w3 ⟨rfl, hW3, hF3⟩)
        all_goals
          go_wp2
          refine bodyPost_ret (v := .tuple #[]) (by simp [results, Tryd.results29, go_sem]) rfl ⟨rfl, ?_, hF3⟩
          rw [HVV.out]; exact hW3
      · have hq : ((9 : Int) == n) = false := by simp; omega
        have HN : Hid (((0 : Int) < 4 → n ≠ 34) ∧ ((1 : Int) < 4 → n ≠ 92) ∧ ((2 : Int) < 4 → n ≠ 10) ∧ ((3 : Int) < 4 → n ≠ 9) ∧ ((4 : Int) < 4 → n ≠ 13) ∧ ((5 : Int) < 4 → n ≠ 0)) := ⟨fun _ => m0 (by decide), fun _ => m1 (by decide), fun _ => m2 (by decide), fun _ => hc, fun h => absurd h (by decide), fun h => absurd h (by decide)⟩
        have hw1 : Below wr.heap.size wr (wr.alloc (.cells #[.int .u8 116, .int .i64 9] 76)) := below_alloc _ _
        have HW2 : Hid (Wt B b out (wr.alloc (.cells #[.int .u8 116, .int .i64 9] 76))) := HW1.out.later hw1
        have HF2 : Hid (Fr B b w (wr.alloc (.cells #[.int .u8 116, .int .i64 9] 76))) := HF1.out.trans (Fr.of hw1 (by omega))
        clear hw1 HW1 HF1 hc m0 m1 m2 m3 m4 m5
        go_wp2
        go_roundw
        case rel => exact ⟨4, by decide, by decide, rfl, HN.out.1, HN.out.2.1, HN.out.2.2.1, HN.out.2.2.2.1, HN.out.2.2.2.2.1, HN.out.2.2.2.2.2, HW2.out, HF2.out, by rw [World.size_alloc]; omega⟩
        case measure => simp [intOf]
    · by_cases hc : n = 13
      · have hq : ((13 : Int) == n) = true := by rw [hc]; simp
        have HVV : Hid (V = [92, 114]) := by rw [HV.out, hc]; exact rfl
        have HNC : Hid (n = 13) := hc
        clear hc m0 m1 m2 m3 m4 m5
        have hw1 : Below wr.heap.size wr (wr.alloc (.cells #[.int .u8 114, .int .i64 13] 76)) := below_alloc _ _
        have HW2 : Hid (Wt B b out (wr.alloc (.cells #[.int .u8 114, .int .i64 13] 76))) := HW1.out.later hw1
        have HF2 : Hid (Fr B b w (wr.alloc (.cells #[.int .u8 114, .int .i64 13] 76))) := HF1.out.trans (Fr.of hw1 (by omega))
        have HX1 : Hid ((wr.alloc (.cells #[.int .u8 114, .int .i64 13] 76)).heap[wr.heap.size]? = some (.cells #[.int .u8 114, .int .i64 13] 76 (0, 0))) := heap_alloc_new wr _
        have hsa : (wr.alloc (.cells #[.int .u8 114, .int .i64 13] 76)).heap.size = wr.heap.size + 1 := World.size_alloc _ _
        obtain ⟨X, HXX⟩ : ∃ X, Hid (X = wr.heap.size) := ⟨_, rfl⟩
        have hXb : b < X := by rw [HXX.out]; exact HW1.out.lt
        clear hw1 HW1 HF1
        go_wp2_with fail
        refine (wByte 92 _ HW2.out (by omega) (by omega)).mono ?_
        rintro e w2 ⟨rfl, hW2, hF2⟩
        rw [← HXX.out]
        rw [← HXX.out] at HX1
        have hX2 := hF2.keep HX1.out (by omega) (fun c fz e => by cases e)
        have c0 : w2.cell? ⟨X, 0, none⟩ = some (.int .u8 114) := by rw [Lib.cell_of_heap hX2]; rfl
        have hs2 : w.heap.size ≤ w2.heap.size := by have := hF2.1.size; omega
        have HWB : Hid (∀ W, Below w2.heap.size w2 W → Calls Tryd.prog 28 #[.pointer (some ⟨b, 0, none⟩), .int .u8 114] W fun e w' => e = .returned .nilIface ∧ (Wt B b (out ++ [92, 114]) w' ∧ Fr B b w w')) := fun W hb => two_bytes (X := X) (by decide) 114 w2 W hW2 (HF2.out.trans hF2) hX2 hXb hb ho (by omega)
        clear hW2 hF2 hX2 HW2 HF2 HX1 HXX hsa
        go_wp2
        go_region_with (go_at_call 28; refine (HWB.out _ (by first | exact Below.refl _ _ | exact Below.drew (Below.refl _ _) | exact below_drewN (Below.refl _ _) _)).mono ?_; rintro e w3 ⟨rfl, hW3, hF3⟩)
        all_goals
          go_wp2
          refine bodyPost_ret (v := .tuple #[]) (by simp [results, Tryd.results29, go_sem]) rfl ⟨rfl, ?_, hF3⟩
          rw [HVV.out]; exact hW3
      · have hq : ((13 : Int) == n) = false := by simp; omega
        have HN : Hid (((0 : Int) < 5 → n ≠ 34) ∧ ((1 : Int) < 5 → n ≠ 92) ∧ ((2 : Int) < 5 → n ≠ 10) ∧ ((3 : Int) < 5 → n ≠ 9) ∧ ((4 : Int) < 5 → n ≠ 13) ∧ ((5 : Int) < 5 → n ≠ 0)) := ⟨fun _ => m0 (by decide), fun _ => m1 (by decide), fun _ => m2 (by decide), fun _ => m3 (by decide), fun _ => hc, fun h => absurd h (by decide)⟩
        have hw1 : Below wr.heap.size wr (wr.alloc (.cells #[.int .u8 114, .int .i64 13] 76)) := below_alloc _ _
        have HW2 : Hid (Wt B b out (wr.alloc (.cells #[.int .u8 114, .int .i64 13] 76))) := HW1.out.later hw1
        have HF2 : Hid (Fr B b w (wr.alloc (.cells #[.int .u8 114, .int .i64 13] 76))) := HF1.out.trans (Fr.of hw1 (by omega))
        clear hw1 HW1 HF1 hc m0 m1 m2 m3 m4 m5
        go_wp2
        go_roundw
        case rel => exact ⟨5, by decide, by decide, rfl, HN.out.1, HN.out.2.1, HN.out.2.2.1, HN.out.2.2.2.1, HN.out.2.2.2.2.1, HN.out.2.2.2.2.2, HW2.out, HF2.out, by rw [World.size_alloc]; omega⟩
        case measure => simp [intOf]
    · by_cases hc : n = 0
      · have hq : ((0 : Int) == n) = true := by rw [hc]; simp
        have HVV : Hid (V = [92, 48]) := by rw [HV.out, hc]; exact rfl
        have HNC : Hid (n = 0) := hc
        clear hc m0 m1 m2 m3 m4 m5
        have hw1 : Below wr.heap.size wr (wr.alloc (.cells #[.int .u8 48, .int .i64 0] 76)) := below_alloc _ _
        have HW2 : Hid (Wt B b out (wr.alloc (.cells #[.int .u8 48, .int .i64 0] 76))) := HW1.out.later hw1
        have HF2 : Hid (Fr B b w (wr.alloc (.cells #[.int .u8 48, .int .i64 0] 76))) := HF1.out.trans (Fr.of hw1 (by omega))
        have HX1 : Hid ((wr.alloc (.cells #[.int .u8 48, .int .i64 0] 76)).heap[wr.heap.size]? = some (.cells #[.int .u8 48, .int .i64 0] 76 (0, 0))) := heap_alloc_new wr _
        have hsa : (wr.alloc (.cells #[.int .u8 48, .int .i64 0] 76)).heap.size = wr.heap.size + 1 := World.size_alloc _ _
        obtain ⟨X, HXX⟩ : ∃ X, Hid (X = wr.heap.size) := ⟨_, rfl⟩
        have hXb : b < X := by rw [HXX.out]; exact HW1.out.lt
        clear hw1 HW1 HF1
        go_wp2_with fail
        refine (wByte 92 _ HW2.out (by omega) (by omega)).mono ?_
        rintro e w2 ⟨rfl, hW2, hF2⟩
        rw [← HXX.out]
        rw [← HXX.out] at HX1
        have hX2 := hF2.keep HX1.out (by omega) (fun c fz e => by cases e)
        have c0 : w2.cell? ⟨X, 0, none⟩ = some (.int .u8 48) := by rw [Lib.cell_of_heap hX2]; rfl
        have hs2 : w.heap.size ≤ w2.heap.size := by have := hF2.1.size; omega
        have HWB : Hid (∀ W, Below w2.heap.size w2 W → Calls Tryd.prog 28 #[.pointer (some ⟨b, 0, none⟩), .int .u8 48] W fun e w' => e = .returned .nilIface ∧ (Wt B b (out ++ [92, 48]) w' ∧ Fr B b w w')) := fun W hb => two_bytes (X := X) (by decide) 48 w2 W hW2 (HF2.out.trans hF2) hX2 hXb hb ho (by omega)
        clear hW2 hF2 hX2 HW2 HF2 HX1 HXX hsa
        go_wp2
        go_region_with (go_at_call 28; refine (HWB.out _ (by first | exact Below.refl _ _ | exact Below.drew (Below.refl _ _) | exact below_drewN (Below.refl _ _) _)).mono ?_; rintro e w3 ⟨rfl, hW3, hF3⟩)
        all_goals
          go_wp2
          refine bodyPost_ret (v := .tuple #[]) (by simp [results, Tryd.results29, go_sem]) rfl ⟨rfl, ?_, hF3⟩
          rw [HVV.out]; exact hW3
      · have hq : ((0 : Int) == n) = false := by simp; omega
        have HN : Hid (((0 : Int) < 6 → n ≠ 34) ∧ ((1 : Int) < 6 → n ≠ 92) ∧ ((2 : Int) < 6 → n ≠ 10) ∧ ((3 : Int) < 6 → n ≠ 9) ∧ ((4 : Int) < 6 → n ≠ 13) ∧ ((5 : Int) < 6 → n ≠ 0)) := ⟨fun _ => m0 (by decide), fun _ => m1 (by decide), fun _ => m2 (by decide), fun _ => m3 (by decide), fun _ => m4 (by decide), fun _ => hc⟩
        have hw1 : Below wr.heap.size wr (wr.alloc (.cells #[.int .u8 48, .int .i64 0] 76)) := below_alloc _ _
        have HW2 : Hid (Wt B b out (wr.alloc (.cells #[.int .u8 48, .int .i64 0] 76))) := HW1.out.later hw1
        have HF2 : Hid (Fr B b w (wr.alloc (.cells #[.int .u8 48, .int .i64 0] 76))) := HF1.out.trans (Fr.of hw1 (by omega))
        clear hw1 HW1 HF1 hc m0 m1 m2 m3 m4 m5
        go_wp2
        go_roundw
        case rel => exact ⟨6, by decide, by decide, rfl, HN.out.1, HN.out.2.1, HN.out.2.2.1, HN.out.2.2.2.1, HN.out.2.2.2.2.1, HN.out.2.2.2.2.2, HW2.out, HF2.out, by rw [World.size_alloc]; omega⟩
        case measure => simp [intOf]
    · have hE : esc n = if may n = true then u8s (byt n) else if n < 256 then 92 :: 120 :: hexL 2 n.toNat else if n < 65536 then 92 :: 117 :: hexL 4 n.toNat else 92 :: 85 :: hexL 8 n.toNat := by
        unfold esc
        rw [if_neg (m0 (by decide)), if_neg (m1 (by decide)), if_neg (m3 (by decide)), if_neg (m2 (by decide)), if_neg (m4 (by decide)), if_neg (m5 (by decide))]
      clear m0 m1 m2 m3 m4 m5
      have hs1' : B ≤ wr.heap.size := by omega
      cases hm : may n
      · have HVV : Hid (V = if n < 256 then 92 :: 120 :: hexL 2 n.toNat else if n < 65536 then 92 :: 117 :: hexL 4 n.toNat else 92 :: 85 :: hexL 8 n.toNat) := by rw [HV.out, hE, if_neg (by rw [hm]; decide)]; exact rfl
        obtain ⟨N, hN⟩ : ∃ N : Nat, n = (N : Int) := ⟨n.toNat, by omega⟩
        have HPN : Hid (Calls Tryd.prog 51 #[.pointer (some ⟨b, 0, none⟩), .int .i64 n] wr fun e w' => e = .returned (.tuple #[]) ∧ Wt B b (out ++ V) w' ∧ Fr B b wr w') := by
          have q := putNumber_any N wr HW1.out (by omega) ho hs1' (HT.out _ HF1.out)
          have e1 : V = if N < 256 then 92 :: 120 :: hexL 2 N else if N < 65536 then 92 :: 117 :: hexL 4 N else 92 :: 85 :: hexL 8 N := by
            rw [HVV.out, hN]
            have i1 : ((N : Int) < 256) = (N < 256) := by simp only [eq_iff_iff]; omega
            have i2 : ((N : Int) < 65536) = (N < 65536) := by simp only [eq_iff_iff]; omega
            simp only [i1, i2, Int.toNat_natCast]
          rw [← e1, ← hN] at q
          exact q
        have HN : Hid (n = (N : Int)) := hN
        clear hN hE
        go_wp2_with (first | (go_at_call 32; refine (stands_any _ _).mono ?_; rintro e w' ⟨rfl, rfl⟩))
        refine HPN.out.mono ?_
        rintro e w2 ⟨rfl, hW2, hF2⟩
        have HF2 : Hid (Fr B b w w2) := HF1.out.trans hF2
        clear hF2
        go_wp2
        go_end0
        exact ⟨rfl, hW2, HF2.out⟩
      · have HVV : Hid (V = sgb n) := by rw [HV.out, hE, if_pos hm]; unfold sgb; rw [if_pos HSG.out]; exact rfl
        clear hE
        go_wp2_with (first | (go_at_call 32; refine (stands_any _ _).mono ?_; rintro e w' ⟨rfl, rfl⟩))
        refine (putSign_any embW n out HW1.out (by omega) hs1').mono ?_
        rintro e w2 ⟨rfl, hW2, hb2, hk2⟩
        have HF2 : Hid (Fr B b w w2) := HF1.out.trans ⟨hb2, hk2⟩
        have HW2 : Hid (Wt B b (out ++ V) w2) := by rw [HVV.out]; exact hW2
        clear hW2 hb2 hk2
        go_wp2
        refine bodyPost_ret (v := .tuple #[]) (by simp [results, Tryd.results29, go_sem]) rfl ⟨rfl, HW2.out, HF2.out⟩

end Go.Proofs.YtiipndfogofhgaaDoor.Quo
