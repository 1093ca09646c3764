/- block.Head, by its contract. -/
import Derived.Test.YtoamfmockinknaaDoorBlockLeaf
namespace Go.Proofs.YtoamfmockinknaaDoor.Blk
open Go.RowKit
open Rws (mk mk_data mk_size mk_of mk_ext mk_get mk_inj)
set_option linter.unusedSimpArgs false
set_option linter.unusedVariables false
set_option maxRecDepth 100000

theorem head_none (s : Ln) (h : ∀ f (c : Int), 0 ≤ c → c ≤ 2 → mark f c ≠ s) : headO s = none := by
  unfold headO
  rw [if_neg (fun e => h false 0 (by decide) (by decide) e.symm), if_neg (fun e => h false 1 (by decide) (by decide) e.symm), if_neg (fun e => h false 2 (by decide) (by decide) e.symm),
    if_neg (fun e => h true 0 (by decide) (by decide) e.symm), if_neg (fun e => h true 1 (by decide) (by decide) e.symm), if_neg (fun e => h true 2 (by decide) (by decide) e.symm)]
def hdV (s : Ln) : Value := match headO s with
  | some (f, c) => .tuple #[.agg #[.bool f, .int .i64 c], .bool true]
  | none => .tuple #[.agg #[.bool false, .int .i64 0], .bool false]
theorem mk_beq (a b : Ln) : ((mk a).toList == (mk b).toList) = decide (a = b) := by
  rw [ByteArray.toList_eq, ByteArray.toList_eq, mk_data, mk_data]
  by_cases h : a = b <;> simp [h]

theorem head_yes (s : Ln) (f : Bool) (c : Int) (h0 : 0 ≤ c) (h2 : c ≤ 2) (h : mark f c = s) : hdV s = .tuple #[.agg #[.bool f, .int .i64 c], .bool true] := by
  unfold hdV
  rw [← h, head_mark f c h0 h2]
theorem head_no (s : Ln) (h : ∀ f (j : Int), 0 ≤ j → j < 3 → mark f j ≠ s) : hdV s = .tuple #[.agg #[.bool false, .int .i64 0], .bool false] := by
  unfold hdV
  rw [head_none s (fun f c h0 h2 => h f c h0 (by omega))]

theorem ix0 (w : World) : (Instr.index 57 (.agg #[.bool false, .bool true]) (.int .i64 0)).run Tryd.prog w = .ok (.bool false) w := by kernel_rfl
theorem ix1 (w : World) : (Instr.index 57 (.agg #[.bool false, .bool true]) (.int .i64 1)).run Tryd.prog w = .ok (.bool true) w := by kernel_rfl
set_option maxHeartbeats 2000000 in
theorem head_any (s : Ln) (w : World) : Calls Tryd.prog 13 #[.string (mk s)] w fun e w' => e = .returned (hdV s) ∧ Below w.heap.size w w' := by
  obtain ⟨W, hW⟩ : ∃ W, w.alloc (.cells #[.bool false, .int .i64 0] 24) = W := ⟨_, rfl⟩
  have hbW : Below w.heap.size w W := by rw [← hW]; exact (Below.refl _ _).alloc (Nat.le_refl _) _
  have hWs : W.heap.size = w.heap.size + 1 := by rw [← hW]; simp
  have hcW : W.heap[w.heap.size]? = some (.cells #[.bool false, .int .i64 0] 24 (0, 0)) := by rw [← hW]; exact heap_alloc_new w _
  have HKK : Hid (∀ W2, Below (w.heap.size + 1) W W2 → Below w.heap.size w W2 ∧ W2.cell? ⟨w.heap.size, 0, none⟩ = some (.bool false) ∧ W2.cell? ⟨w.heap.size, 1, none⟩ = some (.int .i64 0) ∧ W2.frozen? ⟨w.heap.size, 0, none⟩ = false ∧ W2.frozen? ⟨w.heap.size, 1, none⟩ = false) := fun W2 hb => by
    have hk : W2.heap[w.heap.size]? = some (.cells #[.bool false, .int .i64 0] 24 (0, 0)) := (hb.block _ (by omega)).trans hcW
    exact ⟨hbW.trans (hb.mono (by omega)), by rw [Lib.cell_of_heap hk]; rfl, by rw [Lib.cell_of_heap hk]; rfl, Lib.frozen_of_heap hk 0, Lib.frozen_of_heap hk 1⟩
  have HWS : Hid (W.heap.size = w.heap.size + 1) := hWs
  clear hbW hcW hWs
  have ix0 := ix0
  have ix1 := ix1
  go_enter Tryd.func13, Tryd.ntmps13
  go_wp2
  go_loopw [4] (fun c wr => ∃ k : Nat, k ≤ 3 ∧ c = .int .i64 (k : Int) ∧ Below (w.heap.size + 1) W wr ∧ w.heap.size + 1 ≤ wr.heap.size ∧ (∀ f (j : Int), 0 ≤ j → j < (k : Int) → mark f j ≠ s)) (fun c _ => 3 - (intOf c).toNat)
  case atStart => exact ⟨0, by omega, rfl, Below.refl _ _, by rw [HWS.out]; exact Nat.le_refl _, fun f j h0 h1 => absurd h1 (by omega)⟩
  case round =>
    clear hW
    obtain ⟨k, hk, rfl, hbe, hws, hno⟩ := hrel
    have HB : Hid (Below (w.heap.size + 1) W wr) := hbe
    have HN : Hid (∀ f (j : Int), 0 ≤ j → j < (k : Int) → mark f j ≠ s) := hno
    clear hbe hno
    by_cases hlt : k < 3
    · have hd : decide ((k : Int) ≤ 2) = true := by simp; omega
      go_wp2
      clear hd
      go_loopw [13] (fun i wr2 => ∃ j : Nat, j ≤ 2 ∧ i = .int .i64 (j : Int) ∧ Below (w.heap.size + 1) W wr2 ∧ w.heap.size + 1 ≤ wr2.heap.size ∧ (0 < j → mark false k ≠ s) ∧ (1 < j → mark true k ≠ s)) (fun i _ => 2 - (intOf i).toNat)
      case atStart => exact ⟨0, by omega, rfl, HB.out, hws, fun h => absurd h (by omega), fun h => absurd h (by omega)⟩
      case round =>
        clear HB hws
        obtain ⟨j, hj, rfl, hbe, hws, n0, n1⟩ := hrel
        have HB : Hid (Below (w.heap.size + 1) W wr) := hbe
        have N0 : Hid (0 < j → mark false k ≠ s) := n0
        have N1 : Hid (1 < j → mark true k ≠ s) := n1
        clear hbe n0 n1
        rcases (show j = 0 ∨ j = 1 ∨ j = 2 by omega) with rfl | rfl | rfl
        · go_wp2_with fail
          refine (mark_any false k _).mono ?_
          rintro e w1 ⟨rfl, hb1⟩
          rw [World.size_alloc] at hb1
          have hb2 : Below (w.heap.size + 1) W w1 := (HB.out.alloc hws _).trans (hb1.mono (by omega))
          have hs1 : w.heap.size + 1 ≤ w1.heap.size := by have := hb1.size; rw [World.size_alloc] at this; omega
          have hcl : w1.heap[wr.heap.size]? = some (.cells #[.bool false, .int .i64 (k : Int)] 24 (0, 0)) := (hb1.block _ (by omega)).trans (heap_alloc_new wr _)
          have e0 : w1.cell? ⟨wr.heap.size, 0, none⟩ = some (.bool false) := by rw [Lib.cell_of_heap hcl]; rfl
          have e1 : w1.cell? ⟨wr.heap.size, 1, none⟩ = some (.int .i64 (k : Int)) := by rw [Lib.cell_of_heap hcl]; rfl
          obtain ⟨b0, d0, d1, d2, d3⟩ := HKK.out _ hb2
          have hq := mk_beq (mark false k) s
          clear hb1 hcl
          by_cases hm : mark false k = s
          · rw [decide_eq_true hm] at hq
            have HV := head_yes s false k (by omega) (by omega) hm
            go_wp2
            refine bodyPost_ret (v := .tuple #[.agg #[.bool false, .int .i64 (k : Int)], .bool true]) (by simp [results, Tryd.results13, go_sem, d0, d1]) rfl ⟨by rw [HV], (b0.setCell (p := ⟨w.heap.size, 0, none⟩) (Nat.le_refl _) _).setCell (p := ⟨w.heap.size, 1, none⟩) (Nat.le_refl _) _⟩
          · rw [decide_eq_false hm] at hq
            go_wp2
            go_roundw
            case rel => exact ⟨0 + 1, by omega, by go_num, hb2, hs1, fun _ => hm, fun h => absurd h (by omega)⟩
            case measure => (simp [intOf] <;> omega)
        · go_wp2_with fail
          refine (mark_any true k _).mono ?_
          rintro e w1 ⟨rfl, hb1⟩
          rw [World.size_alloc] at hb1
          have hb2 : Below (w.heap.size + 1) W w1 := (HB.out.alloc hws _).trans (hb1.mono (by omega))
          have hs1 : w.heap.size + 1 ≤ w1.heap.size := by have := hb1.size; rw [World.size_alloc] at this; omega
          have hcl : w1.heap[wr.heap.size]? = some (.cells #[.bool true, .int .i64 (k : Int)] 24 (0, 0)) := (hb1.block _ (by omega)).trans (heap_alloc_new wr _)
          have e0 : w1.cell? ⟨wr.heap.size, 0, none⟩ = some (.bool true) := by rw [Lib.cell_of_heap hcl]; rfl
          have e1 : w1.cell? ⟨wr.heap.size, 1, none⟩ = some (.int .i64 (k : Int)) := by rw [Lib.cell_of_heap hcl]; rfl
          obtain ⟨b0, d0, d1, d2, d3⟩ := HKK.out _ hb2
          have hq := mk_beq (mark true k) s
          clear hb1 hcl
          by_cases hm : mark true k = s
          · rw [decide_eq_true hm] at hq
            have HV := head_yes s true k (by omega) (by omega) hm
            go_wp2
            refine bodyPost_ret (v := .tuple #[.agg #[.bool true, .int .i64 (k : Int)], .bool true]) (by simp [results, Tryd.results13, go_sem, d0, d1]) rfl ⟨by rw [HV], (b0.setCell (p := ⟨w.heap.size, 0, none⟩) (Nat.le_refl _) _).setCell (p := ⟨w.heap.size, 1, none⟩) (Nat.le_refl _) _⟩
          · rw [decide_eq_false hm] at hq
            go_wp2
            go_roundw
            case rel => exact ⟨1 + 1, by omega, by go_num, hb2, hs1, fun _ => N0.out (by omega), fun h => hm⟩
            case measure => (simp [intOf] <;> omega)
        · have n0 := N0.out (by omega)
          have n1 := N1.out (by omega)
          have HNN : Hid (∀ f (j : Int), 0 ≤ j → j < ((k + 1 : Nat) : Int) → mark f j ≠ s) := by
            intro f j h0 h1
            by_cases hj : j < (k : Int)
            · exact HN.out f j h0 hj
            · obtain rfl : j = (k : Int) := by omega
              cases f
              · exact n0
              · exact n1
          clear n0 n1
          go_wp2
          go_roundw
          case rel => exact ⟨k + 1, by omega, by go_num, HB.out, hws, HNN.out⟩
          case measure => (simp [intOf] <;> omega)
    · obtain rfl : k = 3 := by omega
      have HV := head_no s HN.out
      obtain ⟨b0, d0, d1, d2, d3⟩ := HKK.out _ HB.out
      clear HN
      go_wp2
      refine bodyPost_ret (v := .tuple #[.agg #[.bool false, .int .i64 0], .bool false]) (by simp [results, Tryd.results13, go_sem, d0, d1]) rfl ⟨by rw [HV], (b0.setCell (p := ⟨w.heap.size, 0, none⟩) (Nat.le_refl _) _).setCell (p := ⟨w.heap.size, 1, none⟩) (Nat.le_refl _) _⟩

end Go.Proofs.YtoamfmockinknaaDoor.Blk
