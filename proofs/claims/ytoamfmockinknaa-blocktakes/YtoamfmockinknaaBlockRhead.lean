/- The reference's Mark and Head; the styles of both. -/
import Derived.Test.YtoamfmockinknaaBlockAlive
namespace Go.Proofs.Ytoamfmockinknaa.Blk
open Go.RowKit
open Rws (mk mk_data mk_size mk_of mk_ext mk_get mk_inj)
set_option linter.unusedSimpArgs false
set_option linter.unusedVariables false
set_option maxRecDepth 100000

theorem rmark_any (f : Bool) (c : Int) (w : World) : Calls Try.prog 12 #[.agg #[.bool f, .int .i64 c]] w fun e w' => e = .returned (.string (mk (mark f c))) ∧ Below w.heap.size w w' := by
  by_cases h1 : c = 1
  · subst h1
    cases f <;>
    · go_enter Try.func12, Try.ntmps12
      go_wp2
      go_ret
      exact ⟨rfl, (Below.refl _ _).alloc (Nat.le_refl _) _⟩
  by_cases h2 : c = 2
  · subst h2
    cases f <;>
    · go_enter Try.func12, Try.ntmps12
      go_wp2
      go_ret
      exact ⟨rfl, (Below.refl _ _).alloc (Nat.le_refl _) _⟩
  have e1 : (c == 1) = false := by simpa using h1
  have e2 : (c == 2) = false := by simpa using h2
  have HM : Hid (∀ f, mark f c = if f = true then [62] else [124]) := by intro f; unfold mark; rw [if_neg h1, if_neg h2]; cases f <;> rfl
  clear h1 h2
  cases f <;>
  · go_enter Try.func12, Try.ntmps12
    go_wp2
    go_ret
    refine ⟨?_, (Below.refl _ _).alloc (Nat.le_refl _) _⟩
    rw [HM.out]
    rfl

theorem ours_any (f : Bool) (c : Int) (w : World) : Calls Try.prog 9 #[.agg #[.bool f, .int .i64 c]] w fun e w' => e = .returned (.agg #[.bool f, .int .i64 c]) ∧ Below w.heap.size w w' := by
  go_enter Try.func9, Try.ntmps9
  go_wp2
  refine bodyPost_ret (v := .agg #[.bool f, .int .i64 c]) (by simp [results, Try.results9, go_sem]) rfl ⟨rfl, ?_⟩
  exact ((Below.refl _ _).alloc (Nat.le_refl _) _).alloc (by simp) _
theorem theirs_any (f : Bool) (c : Int) (w : World) : Calls Try.prog 11 #[.agg #[.bool f, .int .i64 c]] w fun e w' => e = .returned (.agg #[.bool f, .int .i64 c]) ∧ Below w.heap.size w w' := by
  go_enter Try.func11, Try.ntmps11
  go_wp2
  refine bodyPost_ret (v := .agg #[.bool f, .int .i64 c]) (by simp [results, Try.results11, go_sem]) rfl ⟨rfl, ?_⟩
  exact ((Below.refl _ _).alloc (Nat.le_refl _) _).alloc (by simp) _


theorem hd_all (s : Ln) (h : ∀ j : Nat, j < 6 → mark (decide (3 ≤ j)) ((j % 3 : Nat) : Int) ≠ s) : hdV s = .tuple #[.agg #[.bool false, .int .i64 0], .bool false] := by
  refine head_no s ?_
  intro f c h0 h3
  rcases (show c = 0 ∨ c = 1 ∨ c = 2 by omega) with rfl | rfl | rfl <;> cases f
  · exact h 0 (by decide)
  · exact h 3 (by decide)
  · exact h 1 (by decide)
  · exact h 4 (by decide)
  · exact h 2 (by decide)
  · exact h 5 (by decide)

set_option maxHeartbeats 4000000 in
theorem rhead_any (s : Ln) (w : World) : Calls Try.prog 8 #[.string (mk s)] w fun e w' => e = .returned (hdV s) ∧ Below w.heap.size w w' := by
  obtain ⟨W, hW⟩ : ∃ W, w.alloc (.cells #[.bool false, .int .i64 0] 23) = W := ⟨_, rfl⟩
  have hbW : Below w.heap.size w W := by rw [← hW]; exact (Below.refl _ _).alloc (Nat.le_refl _) _
  have hWs : W.heap.size = w.heap.size + 1 := by rw [← hW]; simp
  have hcW : W.heap[w.heap.size]? = some (.cells #[.bool false, .int .i64 0] 23 (0, 0)) := by rw [← hW]; exact heap_alloc_new w _
  have HKK : Hid (∀ W2, Below (w.heap.size + 1) W W2 → Below w.heap.size w W2 ∧ W2.cell? ⟨w.heap.size, 0, none⟩ = some (.bool false) ∧ W2.cell? ⟨w.heap.size, 1, none⟩ = some (.int .i64 0) ∧ W2.frozen? ⟨w.heap.size, 0, none⟩ = false ∧ W2.frozen? ⟨w.heap.size, 1, none⟩ = false) := fun W2 hb => by
    have hk : W2.heap[w.heap.size]? = some (.cells #[.bool false, .int .i64 0] 23 (0, 0)) := (hb.block _ (by omega)).trans hcW
    exact ⟨hbW.trans (hb.mono (by omega)), by rw [Lib.cell_of_heap hk]; rfl, by rw [Lib.cell_of_heap hk]; rfl, Lib.frozen_of_heap hk 0, Lib.frozen_of_heap hk 1⟩
  have HWS : Hid (W.heap.size = w.heap.size + 1) := hWs
  clear hbW hcW hWs
  go_enter Try.func8, Try.ntmps8
  go_wp2
  go_loopw [4] (fun c wr => ∃ k : Nat, k ≤ 6 ∧ c = .int .i64 (k : Int) ∧ Below (w.heap.size + 1) W wr ∧ w.heap.size + 1 ≤ wr.heap.size ∧ (∀ j : Nat, j < k → mark (decide (3 ≤ j)) ((j % 3 : Nat) : Int) ≠ s)) (fun c _ => 6 - (intOf c).toNat)
  case atStart => exact ⟨0, by omega, rfl, Below.refl _ _, by rw [HWS.out]; exact Nat.le_refl _, fun j h => absurd h (by omega)⟩
  case round =>
    clear hW
    obtain ⟨k, hk, rfl, hbe, hws, hno⟩ := hrel
    have HB : Hid (Below (w.heap.size + 1) W wr) := hbe
    have HN : Hid (∀ j : Nat, j < k → mark (decide (3 ≤ j)) ((j % 3 : Nat) : Int) ≠ s) := hno
    clear hbe hno
    rcases (show k = 0 ∨ k = 1 ∨ k = 2 ∨ k = 3 ∨ k = 4 ∨ k = 5 ∨ k = 6 by omega) with rfl | rfl | rfl | rfl | rfl | rfl | rfl
    · go_wp2_with fail
      refine (rmark_any false 0 _).mono ?_
      rintro e w1 ⟨rfl, hb1⟩
      rw [World.size_alloc] at hb1
      have hb2 : Below (w.heap.size + 1) W w1 := (HB.out.alloc hws _).trans (hb1.mono (by omega))
      have hs1 : w.heap.size + 1 ≤ w1.heap.size := by have := hb1.size; rw [World.size_alloc] at this; omega
      have hcl : w1.heap[wr.heap.size]? = some (.cells #[.bool false, .int .i64 0] 23 (0, 0)) := (hb1.block _ (by omega)).trans (heap_alloc_new wr _)
      have e0 : w1.cell? ⟨wr.heap.size, 0, none⟩ = some (.bool false) := by rw [Lib.cell_of_heap hcl]; rfl
      have e1 : w1.cell? ⟨wr.heap.size, 1, none⟩ = some (.int .i64 0) := by rw [Lib.cell_of_heap hcl]; rfl
      obtain ⟨b0, d0, d1, d2, d3⟩ := HKK.out _ hb2
      have hq := mk_beq (mark false 0) s
      clear hb1 hcl
      by_cases hm : mark false 0 = s
      · rw [decide_eq_true hm] at hq
        have HV := head_yes s false 0 (by omega) (by omega) hm
        go_wp2
        refine bodyPost_ret (v := .tuple #[.agg #[.bool false, .int .i64 0], .bool true]) (by simp [results, Try.results8, go_sem, d0, d1]) rfl ⟨by rw [HV], (b0.setCell (p := ⟨w.heap.size, 0, none⟩) (Nat.le_refl _) _).setCell (p := ⟨w.heap.size, 1, none⟩) (Nat.le_refl _) _⟩
      · rw [decide_eq_false hm] at hq
        have HNN : Hid (∀ j : Nat, j < 0 + 1 → mark (decide (3 ≤ j)) ((j % 3 : Nat) : Int) ≠ s) := by
          intro j hj
          by_cases h : j < 0
          · exact HN.out j h
          · obtain rfl : j = 0 := by omega
            exact hm
        go_wp2
        go_roundw
        case rel => exact ⟨0 + 1, by omega, by go_num, hb2, hs1, HNN.out⟩
        case measure => (simp [intOf] <;> omega)
    · go_wp2_with fail
      refine (rmark_any false 1 _).mono ?_
      rintro e w1 ⟨rfl, hb1⟩
      rw [World.size_alloc] at hb1
      have hb2 : Below (w.heap.size + 1) W w1 := (HB.out.alloc hws _).trans (hb1.mono (by omega))
      have hs1 : w.heap.size + 1 ≤ w1.heap.size := by have := hb1.size; rw [World.size_alloc] at this; omega
      have hcl : w1.heap[wr.heap.size]? = some (.cells #[.bool false, .int .i64 1] 23 (0, 0)) := (hb1.block _ (by omega)).trans (heap_alloc_new wr _)
      have e0 : w1.cell? ⟨wr.heap.size, 0, none⟩ = some (.bool false) := by rw [Lib.cell_of_heap hcl]; rfl
      have e1 : w1.cell? ⟨wr.heap.size, 1, none⟩ = some (.int .i64 1) := by rw [Lib.cell_of_heap hcl]; rfl
      obtain ⟨b0, d0, d1, d2, d3⟩ := HKK.out _ hb2
      have hq := mk_beq (mark false 1) s
      clear hb1 hcl
      by_cases hm : mark false 1 = s
      · rw [decide_eq_true hm] at hq
        have HV := head_yes s false 1 (by omega) (by omega) hm
        go_wp2
        refine bodyPost_ret (v := .tuple #[.agg #[.bool false, .int .i64 1], .bool true]) (by simp [results, Try.results8, go_sem, d0, d1]) rfl ⟨by rw [HV], (b0.setCell (p := ⟨w.heap.size, 0, none⟩) (Nat.le_refl _) _).setCell (p := ⟨w.heap.size, 1, none⟩) (Nat.le_refl _) _⟩
      · rw [decide_eq_false hm] at hq
        have HNN : Hid (∀ j : Nat, j < 1 + 1 → mark (decide (3 ≤ j)) ((j % 3 : Nat) : Int) ≠ s) := by
          intro j hj
          by_cases h : j < 1
          · exact HN.out j h
          · obtain rfl : j = 1 := by omega
            exact hm
        go_wp2
        go_roundw
        case rel => exact ⟨1 + 1, by omega, by go_num, hb2, hs1, HNN.out⟩
        case measure => (simp [intOf] <;> omega)
    · go_wp2_with fail
      refine (rmark_any false 2 _).mono ?_
      rintro e w1 ⟨rfl, hb1⟩
      rw [World.size_alloc] at hb1
      have hb2 : Below (w.heap.size + 1) W w1 := (HB.out.alloc hws _).trans (hb1.mono (by omega))
      have hs1 : w.heap.size + 1 ≤ w1.heap.size := by have := hb1.size; rw [World.size_alloc] at this; omega
      have hcl : w1.heap[wr.heap.size]? = some (.cells #[.bool false, .int .i64 2] 23 (0, 0)) := (hb1.block _ (by omega)).trans (heap_alloc_new wr _)
      have e0 : w1.cell? ⟨wr.heap.size, 0, none⟩ = some (.bool false) := by rw [Lib.cell_of_heap hcl]; rfl
      have e1 : w1.cell? ⟨wr.heap.size, 1, none⟩ = some (.int .i64 2) := by rw [Lib.cell_of_heap hcl]; rfl
      obtain ⟨b0, d0, d1, d2, d3⟩ := HKK.out _ hb2
      have hq := mk_beq (mark false 2) s
      clear hb1 hcl
      by_cases hm : mark false 2 = s
      · rw [decide_eq_true hm] at hq
        have HV := head_yes s false 2 (by omega) (by omega) hm
        go_wp2
        refine bodyPost_ret (v := .tuple #[.agg #[.bool false, .int .i64 2], .bool true]) (by simp [results, Try.results8, go_sem, d0, d1]) rfl ⟨by rw [HV], (b0.setCell (p := ⟨w.heap.size, 0, none⟩) (Nat.le_refl _) _).setCell (p := ⟨w.heap.size, 1, none⟩) (Nat.le_refl _) _⟩
      · rw [decide_eq_false hm] at hq
        have HNN : Hid (∀ j : Nat, j < 2 + 1 → mark (decide (3 ≤ j)) ((j % 3 : Nat) : Int) ≠ s) := by
          intro j hj
          by_cases h : j < 2
          · exact HN.out j h
          · obtain rfl : j = 2 := by omega
            exact hm
        go_wp2
        go_roundw
        case rel => exact ⟨2 + 1, by omega, by go_num, hb2, hs1, HNN.out⟩
        case measure => (simp [intOf] <;> omega)
    · go_wp2_with fail
      refine (rmark_any true 0 _).mono ?_
      rintro e w1 ⟨rfl, hb1⟩
      rw [World.size_alloc] at hb1
      have hb2 : Below (w.heap.size + 1) W w1 := (HB.out.alloc hws _).trans (hb1.mono (by omega))
      have hs1 : w.heap.size + 1 ≤ w1.heap.size := by have := hb1.size; rw [World.size_alloc] at this; omega
      have hcl : w1.heap[wr.heap.size]? = some (.cells #[.bool true, .int .i64 0] 23 (0, 0)) := (hb1.block _ (by omega)).trans (heap_alloc_new wr _)
      have e0 : w1.cell? ⟨wr.heap.size, 0, none⟩ = some (.bool true) := by rw [Lib.cell_of_heap hcl]; rfl
      have e1 : w1.cell? ⟨wr.heap.size, 1, none⟩ = some (.int .i64 0) := by rw [Lib.cell_of_heap hcl]; rfl
      obtain ⟨b0, d0, d1, d2, d3⟩ := HKK.out _ hb2
      have hq := mk_beq (mark true 0) s
      clear hb1 hcl
      by_cases hm : mark true 0 = s
      · rw [decide_eq_true hm] at hq
        have HV := head_yes s true 0 (by omega) (by omega) hm
        go_wp2
        refine bodyPost_ret (v := .tuple #[.agg #[.bool true, .int .i64 0], .bool true]) (by simp [results, Try.results8, go_sem, d0, d1]) rfl ⟨by rw [HV], (b0.setCell (p := ⟨w.heap.size, 0, none⟩) (Nat.le_refl _) _).setCell (p := ⟨w.heap.size, 1, none⟩) (Nat.le_refl _) _⟩
      · rw [decide_eq_false hm] at hq
        have HNN : Hid (∀ j : Nat, j < 3 + 1 → mark (decide (3 ≤ j)) ((j % 3 : Nat) : Int) ≠ s) := by
          intro j hj
          by_cases h : j < 3
          · exact HN.out j h
          · obtain rfl : j = 3 := by omega
            exact hm
        go_wp2
        go_roundw
        case rel => exact ⟨3 + 1, by omega, by go_num, hb2, hs1, HNN.out⟩
        case measure => (simp [intOf] <;> omega)
    · go_wp2_with fail
      refine (rmark_any true 1 _).mono ?_
      rintro e w1 ⟨rfl, hb1⟩
      rw [World.size_alloc] at hb1
      have hb2 : Below (w.heap.size + 1) W w1 := (HB.out.alloc hws _).trans (hb1.mono (by omega))
      have hs1 : w.heap.size + 1 ≤ w1.heap.size := by have := hb1.size; rw [World.size_alloc] at this; omega
      have hcl : w1.heap[wr.heap.size]? = some (.cells #[.bool true, .int .i64 1] 23 (0, 0)) := (hb1.block _ (by omega)).trans (heap_alloc_new wr _)
      have e0 : w1.cell? ⟨wr.heap.size, 0, none⟩ = some (.bool true) := by rw [Lib.cell_of_heap hcl]; rfl
      have e1 : w1.cell? ⟨wr.heap.size, 1, none⟩ = some (.int .i64 1) := by rw [Lib.cell_of_heap hcl]; rfl
      obtain ⟨b0, d0, d1, d2, d3⟩ := HKK.out _ hb2
      have hq := mk_beq (mark true 1) s
      clear hb1 hcl
      by_cases hm : mark true 1 = s
      · rw [decide_eq_true hm] at hq
        have HV := head_yes s true 1 (by omega) (by omega) hm
        go_wp2
        refine bodyPost_ret (v := .tuple #[.agg #[.bool true, .int .i64 1], .bool true]) (by simp [results, Try.results8, go_sem, d0, d1]) rfl ⟨by rw [HV], (b0.setCell (p := ⟨w.heap.size, 0, none⟩) (Nat.le_refl _) _).setCell (p := ⟨w.heap.size, 1, none⟩) (Nat.le_refl _) _⟩
      · rw [decide_eq_false hm] at hq
        have HNN : Hid (∀ j : Nat, j < 4 + 1 → mark (decide (3 ≤ j)) ((j % 3 : Nat) : Int) ≠ s) := by
          intro j hj
          by_cases h : j < 4
          · exact HN.out j h
          · obtain rfl : j = 4 := by omega
            exact hm
        go_wp2
        go_roundw
        case rel => exact ⟨4 + 1, by omega, by go_num, hb2, hs1, HNN.out⟩
        case measure => (simp [intOf] <;> omega)
    · go_wp2_with fail
      refine (rmark_any true 2 _).mono ?_
      rintro e w1 ⟨rfl, hb1⟩
      rw [World.size_alloc] at hb1
      have hb2 : Below (w.heap.size + 1) W w1 := (HB.out.alloc hws _).trans (hb1.mono (by omega))
      have hs1 : w.heap.size + 1 ≤ w1.heap.size := by have := hb1.size; rw [World.size_alloc] at this; omega
      have hcl : w1.heap[wr.heap.size]? = some (.cells #[.bool true, .int .i64 2] 23 (0, 0)) := (hb1.block _ (by omega)).trans (heap_alloc_new wr _)
      have e0 : w1.cell? ⟨wr.heap.size, 0, none⟩ = some (.bool true) := by rw [Lib.cell_of_heap hcl]; rfl
      have e1 : w1.cell? ⟨wr.heap.size, 1, none⟩ = some (.int .i64 2) := by rw [Lib.cell_of_heap hcl]; rfl
      obtain ⟨b0, d0, d1, d2, d3⟩ := HKK.out _ hb2
      have hq := mk_beq (mark true 2) s
      clear hb1 hcl
      by_cases hm : mark true 2 = s
      · rw [decide_eq_true hm] at hq
        have HV := head_yes s true 2 (by omega) (by omega) hm
        go_wp2
        refine bodyPost_ret (v := .tuple #[.agg #[.bool true, .int .i64 2], .bool true]) (by simp [results, Try.results8, go_sem, d0, d1]) rfl ⟨by rw [HV], (b0.setCell (p := ⟨w.heap.size, 0, none⟩) (Nat.le_refl _) _).setCell (p := ⟨w.heap.size, 1, none⟩) (Nat.le_refl _) _⟩
      · rw [decide_eq_false hm] at hq
        have HNN : Hid (∀ j : Nat, j < 5 + 1 → mark (decide (3 ≤ j)) ((j % 3 : Nat) : Int) ≠ s) := by
          intro j hj
          by_cases h : j < 5
          · exact HN.out j h
          · obtain rfl : j = 5 := by omega
            exact hm
        go_wp2
        go_roundw
        case rel => exact ⟨5 + 1, by omega, by go_num, hb2, hs1, HNN.out⟩
        case measure => (simp [intOf] <;> omega)
    · have HV := hd_all s (fun j h => HN.out j h)
      obtain ⟨b0, d0, d1, d2, d3⟩ := HKK.out _ HB.out
      clear HN
      go_wp2
      refine bodyPost_ret (v := .tuple #[.agg #[.bool false, .int .i64 0], .bool false]) (by simp [results, Try.results8, go_sem, d0, d1]) rfl ⟨by rw [HV], (b0.setCell (p := ⟨w.heap.size, 0, none⟩) (Nat.le_refl _) _).setCell (p := ⟨w.heap.size, 1, none⟩) (Nat.le_refl _) _⟩

end Go.Proofs.Ytoamfmockinknaa.Blk
