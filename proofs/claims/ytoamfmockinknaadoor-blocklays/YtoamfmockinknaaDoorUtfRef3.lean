/- The reference's Count, Check, Decode, Encode, by their contracts. -/
import Derived.Test.YtoamfmockinknaaDoorUtfRef3a
namespace Go.Proofs.YtoamfmockinknaaDoor.Utf
open Go.RowKit
set_option linter.unusedSimpArgs false
set_option linter.unusedVariables false

theorem rcheck_any (s : ByteArray) (w : World) (hs : s.size ≤ maxLen) : Calls Tryd.prog 21 #[.string s] w fun e w' => e = .returned (.agg #[.int .i64 (why (chk s.data.toList)), .int .i64 (pos (chk s.data.toList))]) ∧ Below w.heap.size w w' := by
  have hs' := hs
  unfold maxLen at hs
  go_enter Tryd.func21, Tryd.ntmps21
  go_wp2
  go_loopw [3] (fun i wr => ∃ p : Nat, Below (w.heap.size + 1) (w.alloc (.cells #[.int .i64 0, .int .i64 0] 39)) wr ∧ p ≤ s.size ∧ i = .int .i64 p ∧ chk s.data.toList = (chk (s.data.toList.drop p)).map (· + p)) (fun i _ => s.size - (intOf i).toNat)
  case atStart => exact ⟨0, Below.refl _ _, Nat.zero_le _, rfl, by simp⟩
  case round =>
    obtain ⟨p, hbe, hp, rfl, hc⟩ := hrel
    have HC : Hid (chk s.data.toList = (chk (s.data.toList.drop p)).map (· + p)) := hc
    clear hc
    have hc0 : wr.cell? ⟨w.heap.size, 0, none⟩ = some (.int .i64 0) := (hbe.cell (p := ⟨w.heap.size, 0, none⟩) (by simp)).trans (by rw [cell_of_row _ w.heap.size 0 _ _ (0, 0) (heap_alloc_new w _)]; rfl)
    have hc1 : wr.cell? ⟨w.heap.size, 1, none⟩ = some (.int .i64 0) := (hbe.cell (p := ⟨w.heap.size, 1, none⟩) (by simp)).trans (by rw [cell_of_row _ w.heap.size 1 _ _ (0, 0) (heap_alloc_new w _)]; rfl)
    have hf0 : wr.frozen? ⟨w.heap.size, 0, none⟩ = false := (hbe.frozen (p := ⟨w.heap.size, 0, none⟩) (by simp)).trans (by simp)
    have hf1 : wr.frozen? ⟨w.heap.size, 1, none⟩ = false := (hbe.frozen (p := ⟨w.heap.size, 1, none⟩) (by simp)).trans (by simp)
    have hsz : w.heap.size + 1 ≤ wr.heap.size := by have := hbe.size; simpa using this
    by_cases hlt : p < s.size
    · have hne := drop_ne s p hlt
      have hf := fk_pos _ hne
      have hcn := chk_next _ hne
      rw [List.drop_drop] at hcn
      rw [List.length_drop, len_data] at hf
      obtain ⟨f1, f2, f3, f4⟩ := hf
      have hb0 : 0 ≤ (fst (s.data.toList.drop p)).2 := by omega
      have hb4 : (fst (s.data.toList.drop p)).2 ≤ 4 := by omega
      have hb5 : (p : Int) + (fst (s.data.toList.drop p)).2 ≤ s.size := by omega
      have H4 : Hid (((fk (s.data.toList.drop p) : Nat) : Int) = (fst (s.data.toList.drop p)).2) := f4
      clear f4 hne
      cases hpr : prn (fst (s.data.toList.drop p)).1
      · rw [hpr] at hcn
        have HN : Hid (chk s.data.toList = some p) := by have := HC.out; rw [hcn] at this; simp at this; exact this
        clear hcn
        by_cases hneg : (fst (s.data.toList.drop p)).1 < 0
        · have hneg' : decide ((fst (s.data.toList.drop p)).1 < 0) = true := by simpa using hneg
          go_wp2_with (first | (go_at_call 38; refine (rfirstAt_any _ _ _ hs').mono ?_; rintro e w1 ⟨rfl, hb1⟩; have ic0 := (hb1.cell (p := ⟨w.heap.size, 0, none⟩) hsz).trans hc0; have ic1 := (hb1.cell (p := ⟨w.heap.size, 1, none⟩) hsz).trans hc1; have if0 := (hb1.frozen (p := ⟨w.heap.size, 0, none⟩) hsz).trans hf0; have if1 := (hb1.frozen (p := ⟨w.heap.size, 1, none⟩) hsz).trans hf1) | (go_at_call 39; refine (rprintable_any _ _).mono ?_; rintro e w' ⟨rfl, rfl⟩))
          refine bodyPost_ret (v := .agg #[.int .i64 8, .int .i64 p]) (by simp [results, Tryd.results21, go_sem, ic0, ic1]) rfl ⟨by rw [HN.out]; rfl, ?_⟩
          exact ((((Below.refl _ _).alloc (Nat.le_refl _) _).trans ((hbe.mono (Nat.le_succ _)).trans (hb1.mono (by omega)))).setCell (Nat.le_refl _) _).setCell (Nat.le_refl _) _
        · have hneg' : decide ((fst (s.data.toList.drop p)).1 < 0) = false := by simpa using hneg
          go_wp2_with (first | (go_at_call 38; refine (rfirstAt_any _ _ _ hs').mono ?_; rintro e w1 ⟨rfl, hb1⟩; have ic0 := (hb1.cell (p := ⟨w.heap.size, 0, none⟩) hsz).trans hc0; have ic1 := (hb1.cell (p := ⟨w.heap.size, 1, none⟩) hsz).trans hc1; have if0 := (hb1.frozen (p := ⟨w.heap.size, 0, none⟩) hsz).trans hf0; have if1 := (hb1.frozen (p := ⟨w.heap.size, 1, none⟩) hsz).trans hf1) | (go_at_call 39; refine (rprintable_any _ _).mono ?_; rintro e w' ⟨rfl, rfl⟩))
          refine bodyPost_ret (v := .agg #[.int .i64 8, .int .i64 p]) (by simp [results, Tryd.results21, go_sem, ic0, ic1]) rfl ⟨by rw [HN.out]; rfl, ?_⟩
          exact ((((Below.refl _ _).alloc (Nat.le_refl _) _).trans ((hbe.mono (Nat.le_succ _)).trans (hb1.mono (by omega)))).setCell (Nat.le_refl _) _).setCell (Nat.le_refl _) _
      · rw [hpr] at hcn
        have HN : Hid (chk s.data.toList = (chk (s.data.toList.drop (p + fk (s.data.toList.drop p)))).map (· + (p + fk (s.data.toList.drop p)))) := by
          have := HC.out; rw [hcn] at this; simp [Option.map_map] at this; rw [this]; congr 1; funext x; simp; omega
        clear hcn
        have hneg : ¬ (fst (s.data.toList.drop p)).1 < 0 := fun h => by rw [prn_neg h] at hpr; cases hpr
        have hneg' : decide ((fst (s.data.toList.drop p)).1 < 0) = false := by simpa using hneg
        go_wp2_with (first | (go_at_call 38; refine (rfirstAt_any _ _ _ hs').mono ?_; rintro e w1 ⟨rfl, hb1⟩; have ic0 := (hb1.cell (p := ⟨w.heap.size, 0, none⟩) hsz).trans hc0; have ic1 := (hb1.cell (p := ⟨w.heap.size, 1, none⟩) hsz).trans hc1; have if0 := (hb1.frozen (p := ⟨w.heap.size, 0, none⟩) hsz).trans hf0; have if1 := (hb1.frozen (p := ⟨w.heap.size, 1, none⟩) hsz).trans hf1) | (go_at_call 39; refine (rprintable_any _ _).mono ?_; rintro e w' ⟨rfl, rfl⟩))
        have h4 := H4.out
        go_roundw
        case rel => exact ⟨p + fk (s.data.toList.drop p), hbe.trans (hb1.mono (by omega)), by omega, by rw [← H4.out]; go_num, HN.out⟩
        case measure => simp [intOf]; omega
    · have HN : Hid (chk s.data.toList = none) := by
        have := HC.out
        rw [List.drop_of_length_le (by rw [len_data]; omega), chk_nil] at this
        exact this
      go_wp2
      refine bodyPost_ret (v := .agg #[.int .i64 0, .int .i64 0]) (by simp [results, Tryd.results21, go_sem, hc0, hc1]) rfl ⟨by rw [HN.out]; rfl, ?_⟩
      exact ((((Below.refl _ _).alloc (Nat.le_refl _) _).trans (hbe.mono (Nat.le_succ _))).setCell (Nat.le_refl _) _).setCell (Nat.le_refl _) _


end Go.Proofs.YtoamfmockinknaaDoor.Utf
