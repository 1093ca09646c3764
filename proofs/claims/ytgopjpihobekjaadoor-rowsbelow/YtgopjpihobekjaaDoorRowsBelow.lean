/- The walk of RowsBelow. -/
import Derived.Test.YtgopjpihobekjaaDoorRowsREmpty
import Derived.Test.YtgopjpihobekjaaDoorRowsAlive
namespace Go.Proofs.YtgopjpihobekjaaDoor.Rws
open Utf
open Go.RowKit
set_option linter.unusedSimpArgs false
set_option linter.unusedVariables false
set_option maxRecDepth 100000

/-- no rows -/
theorem belowLaw_none (a : Option Addr) (cap : Nat) (c : Int) (w : World) :
    Calls Tryd.prog 4 #[.slice a 0 cap, .int .i64 c] w fun e w' => e = .returned (.bool true) ∧ Below w.heap.size w w' := by
  have hat : RowsAt w a 0 [] := ⟨rfl, fun h => absurd h (by decide)⟩
  have hbl : bel [] c = 0 := rfl
  go_enter Tryd.func4, Tryd.ntmps4
  go_wp2_with fail
  refine (below_any a 0 cap [] c _ hat (by decide)).mono ?_
  rintro e w1 ⟨rfl, hb1⟩
  rw [hbl]
  go_wp2
  go_loopw [37] (fun i wr => i = .int .i64 0 ∧ Below w.heap.size w wr) (fun _ _ => 0)
  case atStart => exact ⟨rfl, hb1⟩
  case round =>
    obtain ⟨rfl, hbe⟩ := hrel
    go_wp2
    go_loopw [55] (fun i wr => i = .int .i64 0 ∧ Below w.heap.size w wr) (fun _ _ => 0)
    case atStart => exact ⟨rfl, hbe⟩
    case round =>
      obtain ⟨rfl, hbe2⟩ := hrel
      go_wp2_with fail
      refine (alive_any _).mono ?_
      rintro e w2 ⟨rfl, hb2⟩
      go_wp2
      go_ret
      exact ⟨rfl, hbe2.trans (hb2.mono hbe2.size)⟩

set_option maxHeartbeats 1000000 in
theorem belowLaw_some (b off len cap : Nat) (rs : List R3) (c : Int) (w : World) (h : RowsAt w (some ⟨b, off, none⟩) len rs) (h0 : 0 < len) (hl : len ≤ 4398046511104) (hcap : len ≤ cap) (hcm : cap ≤ maxLen) :
    Calls Tryd.prog 4 #[.slice (some ⟨b, off, none⟩) len cap, .int .i64 c] w fun e w' => e = .returned (.bool true) ∧ Below w.heap.size w w' := by
  have HZ : Hid (RowsAt w (some ⟨b, off, none⟩) len rs) := h
  have hrl := h.1
  obtain ⟨b', off', hbo, hb, hc⟩ := h.2 h0
  cases hbo
  have HC : Hid (∀ i, i < len → w.cell? ⟨b, off + i * 3, none⟩ = some (.int .i64 (rs.getD i z3).1) ∧ w.cell? ⟨b, off + i * 3 + 1, none⟩ = some (.string (rs.getD i z3).2.1) ∧ w.cell? ⟨b, off + i * 3 + 2, none⟩ = some (.int .i64 (rs.getD i z3).2.2)) := hc
  clear h hc
  obtain ⟨f1, f2, f3, f4, f5⟩ := belA_facts c rs 0 0 (Nat.le_refl _)
  have F1 : bel rs c ≤ len := by unfold bel; omega
  have F3 : Hid (bel rs c ≠ 0 → emR (rs.getD (bel rs c - 1) z3) = false) := fun h => f3 h
  have F4 : Hid (∀ j, j < len → j < bel rs c → emR (rs.getD j z3) = false → c < (rs.getD j z3).1) := fun j hj hl he => f4 j (by omega) (by rw [Nat.zero_add]; exact hl) he
  have F5 : Hid (∀ j, j < len → bel rs c ≤ j → (∀ k, k < j → bel rs c ≤ k → emR (rs.getD k z3) = true) → emR (rs.getD j z3) = false → (rs.getD j z3).1 ≤ c) := fun j hj hl hk he => f5 j (by omega) (by rw [Nat.zero_add]; exact hl) (fun k hk1 hk2 => hk k hk1 (by rw [Nat.zero_add] at hk2; exact hk2)) he
  clear f1 f2 f3 f4 f5 hrl
  go_enter Tryd.func4, Tryd.ntmps4
  go_wp2_with fail
  refine (below_any _ len cap rs c _ HZ.out hl).mono ?_
  rintro e w1 ⟨rfl, hb1⟩
  have hws := hb1.size
  obtain ⟨n, HN⟩ : ∃ n, Hid (n = bel rs c) := ⟨_, rfl⟩
  rw [← HN.out] at F1 F3 F4 F5 ⊢
  have hcz : ¬ cap = 0 := by omega
  by_cases hn0 : n = 0
  · subst hn0
    go_wp2
    go_loopw [37] (fun i wr => i = .int .i64 0 ∧ Below w.heap.size w wr) (fun _ _ => 0)
    case atStart => exact ⟨rfl, hb1⟩
    case round =>
      obtain ⟨rfl, hbe⟩ := hrel
      have hwr := hbe.size
      go_wp2
      go_loopw [55] (fun i wr => ∃ k : Nat, k ≤ len ∧ i = .int .i64 k ∧ (∀ j, j < k → emR (rs.getD (0 + j) z3) = true) ∧ Below w.heap.size w wr) (fun i _ => len - (intOf i).toNat)
      case atStart => exact ⟨0, Nat.zero_le _, rfl, fun j hj => absurd hj (by omega), hbe⟩
      case round =>
        obtain ⟨k, hk, rfl, hall, hbe2⟩ := hrel
        have HA : Hid (∀ j, j < k → emR (rs.getD (0 + j) z3) = true) := hall
        clear hall
        have hwr2 := hbe2.size
        by_cases hlt2 : k < len
        · obtain ⟨c0, c1, c2⟩ := HC.out k (by omega)
          replace c0 := (hbe2.cell (p := ⟨b, off + k * 3, none⟩) hb).trans c0
          replace c1 := (hbe2.cell (p := ⟨b, off + k * 3 + 1, none⟩) hb).trans c1
          replace c2 := (hbe2.cell (p := ⟨b, off + k * 3 + 2, none⟩) hb).trans c2
          have hQ : emp (rs.getD k z3).2.1.data.toList = false → (rs.getD k z3).1 ≤ c := F5.out k (by omega) (by omega) (fun q hq1 hq2 => by
            have h1 := HA.out (q - 0) (by omega)
            have e1 : 0 + (q - 0) = q := by omega
            rw [e1] at h1
            exact h1)
          obtain ⟨y, hy⟩ : ∃ y, Hid (y = rs.getD k z3) := ⟨_, rfl⟩
          rw [← hy.out] at c0 c1 c2 hQ
          obtain ⟨x1, x2, x3⟩ := y
          simp only at c0 c1 c2 hQ
          have n0 := cell_new3 wr (.int .i64 x1) (.string x2) (.int .i64 x3) 31
          cases he : emp x2.data.toList
          · have hle := hQ he
            clear hQ
            go_wp2_with (first | (go_at_call 13; refine (rEmptyS_any _ _ _ _).mono ?_; rintro e w3 ⟨rfl, hb3⟩; rw [he]; have q0 := (hb3.cell (p := ⟨wr.heap.size, 0, none⟩) (by simp)).trans n0.1) | (go_at_call 6; refine (alive_any _).mono ?_; rintro e w4 ⟨rfl, hb4⟩))
            go_ret
            exact ⟨rfl, (((hbe2.alloc hwr2 _).trans (hb3.mono (by simp; omega)))).trans (hb4.mono (by have := hb3.size; simp at this; omega))⟩
          · clear hQ
            go_wp2_with (first | (go_at_call 13; refine (rEmptyS_any _ _ _ _).mono ?_; rintro e w3 ⟨rfl, hb3⟩; rw [he]))
            go_roundw
            case rel =>
              refine ⟨k + 1, by omega, by go_num, fun j hj => ?_, (hbe2.alloc hwr2 _).trans (hb3.mono (by simp; omega))⟩
              by_cases hjk : j < k
              · exact HA.out j hjk
              · obtain rfl : j = k := by omega
                first | (rw [Nat.zero_add, ← hy.out]; exact he) | (rw [← hy.out]; exact he)
            case measure => (simp [intOf] <;> omega)
        · go_wp2_with fail
          refine (alive_any _).mono ?_
          rintro e w3 ⟨rfl, hb3⟩
          go_wp2
          go_ret
          exact ⟨rfl, hbe2.trans (hb3.mono hbe2.size)⟩
  · obtain ⟨m, rfl⟩ : ∃ m, n = m + 1 := ⟨n - 1, by omega⟩
    obtain ⟨c0, c1, c2⟩ := HC.out m (by omega)
    replace c0 := (hb1.cell (p := ⟨b, off + m * 3, none⟩) hb).trans c0
    replace c1 := (hb1.cell (p := ⟨b, off + m * 3 + 1, none⟩) hb).trans c1
    replace c2 := (hb1.cell (p := ⟨b, off + m * 3 + 2, none⟩) hb).trans c2
    have he : emp (rs.getD m z3).2.1.data.toList = false := F3.out (by omega)
    generalize (rs.getD m z3).1 = x1 at c0
    generalize (rs.getD m z3).2.1 = x2 at c1 he
    generalize (rs.getD m z3).2.2 = x3 at c2
    go_wp2_with (first | (go_at_call 13; refine (rEmptyS_any _ _ _ _).mono ?_; rintro e w2 ⟨rfl, hb2⟩; rw [he]))
    go_loopw [37] (fun i wr => ∃ k : Nat, k ≤ m + 1 ∧ i = .int .i64 k ∧ Below w.heap.size w wr) (fun i _ => m + 1 - (intOf i).toNat)
    case atStart => exact ⟨0, Nat.zero_le _, rfl, hb1.trans (hb2.mono hws)⟩
    case round =>
      obtain ⟨k, hk, rfl, hbe⟩ := hrel
      have hwr := hbe.size
      clear c0 c1 c2 he
      by_cases hlt : k < m + 1
      · obtain ⟨c0, c1, c2⟩ := HC.out k (by omega)
        replace c0 := (hbe.cell (p := ⟨b, off + k * 3, none⟩) hb).trans c0
        replace c1 := (hbe.cell (p := ⟨b, off + k * 3 + 1, none⟩) hb).trans c1
        replace c2 := (hbe.cell (p := ⟨b, off + k * 3 + 2, none⟩) hb).trans c2
        have hP : emp (rs.getD k z3).2.1.data.toList = false → c < (rs.getD k z3).1 := F4.out k (by omega) hlt
        obtain ⟨y, hy⟩ : ∃ y, Hid (y = rs.getD k z3) := ⟨_, rfl⟩
        rw [← hy.out] at c0 c1 c2 hP
        obtain ⟨y1, y2, y3⟩ := y
        simp only at c0 c1 c2 hP
        have n0 := cell_new3 wr (.int .i64 y1) (.string y2) (.int .i64 y3) 31
        cases he : emp y2.data.toList
        · have hgt := hP he
          clear hP
          go_wp2_with (first | (go_at_call 13; refine (rEmptyS_any _ _ _ _).mono ?_; rintro e w3 ⟨rfl, hb3⟩; rw [he]; have q0 := (hb3.cell (p := ⟨wr.heap.size, 0, none⟩) (by simp)).trans n0.1))
          go_roundw
          case rel => exact ⟨k + 1, by omega, by go_num, (hbe.alloc hwr _).trans (hb3.mono (by simp; omega))⟩
          case measure => (simp [intOf] <;> omega)
        · clear hP
          go_wp2_with (first | (go_at_call 13; refine (rEmptyS_any _ _ _ _).mono ?_; rintro e w3 ⟨rfl, hb3⟩; rw [he]))
          go_roundw
          case rel => exact ⟨k + 1, by omega, by go_num, (hbe.alloc hwr _).trans (hb3.mono (by simp; omega))⟩
          case measure => (simp [intOf] <;> omega)
      · have hkm : ¬ ((k : Int) < (m : Int) + 1) := by omega
        by_cases hcn : cap = m + 1
        · obtain rfl : len = m + 1 := by omega
          go_wp2
          go_loopw [55] (fun i wr => i = .int .i64 0 ∧ Below w.heap.size w wr) (fun _ _ => 0)
          case atStart => exact ⟨rfl, hbe⟩
          case round =>
            obtain ⟨rfl, hbe2⟩ := hrel
            go_wp2_with fail
            refine (alive_any _).mono ?_
            rintro e w3 ⟨rfl, hb3⟩
            go_wp2
            go_ret
            exact ⟨rfl, hbe2.trans (hb3.mono hbe2.size)⟩
        · go_wp2
          go_loopw [55] (fun i wr => ∃ k : Nat, k ≤ (len - (m + 1)) ∧ i = .int .i64 k ∧ (∀ j, j < k → emR (rs.getD ((m + 1) + j) z3) = true) ∧ Below w.heap.size w wr) (fun i _ => (len - (m + 1)) - (intOf i).toNat)
          case atStart => exact ⟨0, Nat.zero_le _, rfl, fun j hj => absurd hj (by omega), hbe⟩
          case round =>
            obtain ⟨k, hk, rfl, hall, hbe2⟩ := hrel
            have HA : Hid (∀ j, j < k → emR (rs.getD ((m + 1) + j) z3) = true) := hall
            clear hall
            have hwr2 := hbe2.size
            by_cases hlt2 : k < (len - (m + 1))
            · obtain ⟨c0, c1, c2⟩ := HC.out ((m + 1) + k) (by omega)
              replace c0 := (hbe2.cell (p := ⟨b, off + ((m + 1) + k) * 3, none⟩) hb).trans c0
              replace c1 := (hbe2.cell (p := ⟨b, off + ((m + 1) + k) * 3 + 1, none⟩) hb).trans c1
              replace c2 := (hbe2.cell (p := ⟨b, off + ((m + 1) + k) * 3 + 2, none⟩) hb).trans c2
              have hoff : off + ((m + 1) + k) * 3 = off + (m + 1) * 3 + k * 3 := by omega
              rw [hoff] at c0 c1 c2
              clear hoff
              have hQ : emp (rs.getD ((m + 1) + k) z3).2.1.data.toList = false → (rs.getD ((m + 1) + k) z3).1 ≤ c := F5.out ((m + 1) + k) (by omega) (by omega) (fun q hq1 hq2 => by
                have h1 := HA.out (q - (m + 1)) (by omega)
                have e1 : (m + 1) + (q - (m + 1)) = q := by omega
                rw [e1] at h1
                exact h1)
              obtain ⟨y, hy⟩ : ∃ y, Hid (y = rs.getD ((m + 1) + k) z3) := ⟨_, rfl⟩
              rw [← hy.out] at c0 c1 c2 hQ
              obtain ⟨x1, x2, x3⟩ := y
              simp only at c0 c1 c2 hQ
              have n0 := cell_new3 wr (.int .i64 x1) (.string x2) (.int .i64 x3) 31
              cases he : emp x2.data.toList
              · have hle := hQ he
                clear hQ
                go_wp2_with (first | (go_at_call 13; refine (rEmptyS_any _ _ _ _).mono ?_; rintro e w3 ⟨rfl, hb3⟩; rw [he]; have q0 := (hb3.cell (p := ⟨wr.heap.size, 0, none⟩) (by simp)).trans n0.1) | (go_at_call 6; refine (alive_any _).mono ?_; rintro e w4 ⟨rfl, hb4⟩))
                go_ret
                exact ⟨rfl, (((hbe2.alloc hwr2 _).trans (hb3.mono (by simp; omega)))).trans (hb4.mono (by have := hb3.size; simp at this; omega))⟩
              · clear hQ
                go_wp2_with (first | (go_at_call 13; refine (rEmptyS_any _ _ _ _).mono ?_; rintro e w3 ⟨rfl, hb3⟩; rw [he]))
                go_roundw
                case rel =>
                  refine ⟨k + 1, by omega, by go_num, fun j hj => ?_, (hbe2.alloc hwr2 _).trans (hb3.mono (by simp; omega))⟩
                  by_cases hjk : j < k
                  · exact HA.out j hjk
                  · obtain rfl : j = k := by omega
                    first | (rw [Nat.zero_add, ← hy.out]; exact he) | (rw [← hy.out]; exact he)
                case measure => (simp [intOf] <;> omega)
            · go_wp2_with fail
              refine (alive_any _).mono ?_
              rintro e w3 ⟨rfl, hb3⟩
              go_wp2
              go_ret
              exact ⟨rfl, hbe2.trans (hb3.mono hbe2.size)⟩

theorem belowLaw_any (a : Option Addr) (len cap : Nat) (rs : List R3) (c : Int) (w : World) (h : RowsAt w a len rs ∧ len ≤ cap ∧ cap ≤ maxLen ∧ len * 32 ≤ 140737488351232) (hc : (Lit.int .i64 c).wf = true) :
    Calls Tryd.prog 4 #[.slice a len cap, .int .i64 c] w fun e w' => e = .returned (.bool true) ∧ Below w.heap.size w w' := by
  obtain ⟨hat, h1, h2, h3⟩ := h
  by_cases h0 : len = 0
  · subst h0; exact belowLaw_none a cap c w
  · obtain ⟨b, off, rfl, _, _⟩ := hat.2 (by omega)
    exact belowLaw_some b off len cap rs c w hat (by omega) (by omega) h1 h2

end Go.Proofs.YtgopjpihobekjaaDoor.Rws
