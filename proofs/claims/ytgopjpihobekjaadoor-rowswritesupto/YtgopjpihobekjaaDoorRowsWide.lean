/- grommetlaw02.wide, grommetref02.Below, by their contracts. -/
import Derived.Test.YtgopjpihobekjaaDoorRowsREmpty
namespace Go.Proofs.YtgopjpihobekjaaDoor.Rws
open Utf
open Go.RowKit
set_option linter.unusedSimpArgs false
set_option linter.unusedVariables false
set_option maxRecDepth 100000

def wide (rs : List R3) : Bool := rs.any (fun r => decide (2000 < r.1)) || decide (1000 < rs.length)
theorem ret_b {a b : Bool} (h : a = b) : Ending.returned (.bool a) = .returned (.bool b) := by rw [h]
theorem wide_any (a : Option Addr) (len cap : Nat) (rs : List R3) (w : World) (h : RowsAt w a len rs) (hl : len ≤ 4398046511104) :
    Calls Tryd.prog 5 #[.slice a len cap] w fun e w' => e = .returned (.bool (wide rs)) ∧ Below w.heap.size w w' := by
  have HZ : Hid (RowsAt w a len rs) := h
  clear h
  go_enter Tryd.func5, Tryd.ntmps5
  go_wp2
  go_loopw [7] (fun i wr => ∃ k : Nat, k ≤ len ∧ i = .int .i64 k ∧ (rs.take k).any (fun r => decide (2000 < r.1)) = false ∧ Below w.heap.size w wr) (fun i _ => len - (intOf i).toNat)
  case atStart => exact ⟨0, Nat.zero_le _, rfl, rfl, Below.refl _ _⟩
  case round =>
    obtain ⟨k, hk, rfl, ht, hbe⟩ := hrel
    have HT : Hid ((rs.take k).any (fun r => decide (2000 < r.1)) = false) := ht
    clear ht
    have hws := hbe.size
    by_cases hlt : k < len
    · obtain ⟨b, off, rfl, hb, hc⟩ := HZ.out.2 (by omega)
      obtain ⟨c0, c1, c2⟩ := hc k hlt
      replace c0 := (hbe.cell (p := ⟨b, off + k * 3, none⟩) hb).trans c0
      replace c1 := (hbe.cell (p := ⟨b, off + k * 3 + 1, none⟩) hb).trans c1
      replace c2 := (hbe.cell (p := ⟨b, off + k * 3 + 2, none⟩) hb).trans c2
      have HD : Hid (rs.drop k = rs.getD k z3 :: rs.drop (k + 1)) := drop_getD rs k (by rw [← HZ.out.1]; exact hlt)
      have HTk : Hid (rs.take (k + 1) = rs.take k ++ [rs.getD k z3]) := by
        have hrl : k < rs.length := by rw [← HZ.out.1]; exact hlt
        rw [List.take_succ_eq_append_getElem hrl, List.getD_eq_getElem?_getD, List.getElem?_eq_getElem hrl]; exact rfl
      obtain ⟨x, hx⟩ : ∃ x, Hid (x = rs.getD k z3) := ⟨_, rfl⟩
      rw [← hx.out] at c0 c1 c2 HD HTk
      obtain ⟨x1, x2, x3⟩ := x
      simp only at c0 c1 c2
      clear hc
      by_cases hx1 : 2000 < x1
      · have HE : Hid (wide rs = true) := by
          have e : rs = rs.take k ++ ((x1, x2, x3) :: rs.drop (k + 1)) := by rw [← HD.out, List.take_append_drop]
          have h1 : rs.any (fun r => decide (2000 < r.1)) = true := by rw [e, List.any_append, List.any_cons]; simp [hx1]
          unfold wide; rw [h1]; exact rfl
        go_wp2
        go_ret
        exact ⟨ret_b HE.out.symm, hbe.alloc hws _⟩
      · have hx1' : x1 ≤ 2000 := by omega
        have HN : Hid ((rs.take (k + 1)).any (fun r => decide (2000 < r.1)) = false) := by
          rw [HTk.out, List.any_append, HT.out]; simp [hx1', Hid]
        go_wp2
        go_roundw
        case rel => exact ⟨k + 1, by omega, by go_num, HN.out, hbe.alloc hws _⟩
        case measure => (simp [intOf] <;> omega)
    · have HE : Hid (wide rs = decide ((1000 : Int) < (len : Int))) := by
        have hrl := HZ.out.1
        have h1 := HT.out
        rw [List.take_of_length_le (by omega)] at h1
        unfold wide; rw [h1, ← hrl, Bool.false_or]
        exact decide_eq_decide.2 (by omega)
      go_wp2
      go_ret
      exact ⟨ret_b HE.out.symm, hbe⟩

set_option maxHeartbeats 1000000 in
theorem rbelow_any (a : Option Addr) (len cap : Nat) (rs : List R3) (c : Int) (w : World) (h : RowsAt w a len rs) (hl : len ≤ 4398046511104) :
    Calls Tryd.prog 10 #[.slice a len cap, .int .i64 c] w fun e w' => e = .returned (.int .i64 (bel rs c : Nat)) ∧ Below w.heap.size w w' := by
  have HZ : Hid (RowsAt w a len rs) := h
  clear h
  go_enter Tryd.func10, Tryd.ntmps10
  go_wp2
  go_loopw [5, 6] (fun n i wr => ∃ k m : Nat, k ≤ len ∧ m ≤ k ∧ i = .int .i64 k ∧ n = .int .i64 m ∧ bel rs c = belA c m k (rs.drop k) ∧ Below w.heap.size w wr) (fun _ i _ => len - (intOf i).toNat)
  case atStart => exact ⟨0, 0, Nat.zero_le _, Nat.le_refl _, rfl, rfl, rfl, Below.refl _ _⟩
  case round =>
    obtain ⟨k, m, hk, hm, rfl, rfl, ht, hbe⟩ := hrel
    have HT : Hid (bel rs c = belA c m k (rs.drop k)) := ht
    clear ht
    have hws := hbe.size
    by_cases hlt : k < len
    · obtain ⟨b, off, rfl, hb, hc⟩ := HZ.out.2 (by omega)
      obtain ⟨c0, c1, c2⟩ := hc k hlt
      replace c0 := (hbe.cell (p := ⟨b, off + k * 3, none⟩) hb).trans c0
      replace c1 := (hbe.cell (p := ⟨b, off + k * 3 + 1, none⟩) hb).trans c1
      replace c2 := (hbe.cell (p := ⟨b, off + k * 3 + 2, none⟩) hb).trans c2
      have hrl := HZ.out.1
      have HD : Hid (rs.drop k = rs.getD k z3 :: rs.drop (k + 1)) := drop_getD rs k (by omega)
      obtain ⟨x, hx⟩ : ∃ x, Hid (x = rs.getD k z3) := ⟨_, rfl⟩
      rw [← hx.out] at c0 c1 c2
      have HE : Hid (bel rs c = belA c m k (x :: rs.drop (k + 1))) := by rw [HT.out, HD.out, hx.out]; exact rfl
      obtain ⟨x1, x2, x3⟩ := x
      simp only at c0 c1 c2
      clear hc hrl HT
      have hbw : b < wr.heap.size := by omega
      cases he : emp x2.data.toList
      · by_cases hcol : x1 ≤ c
        · have HN : Hid (bel rs c = m) := by rw [HE.out, belA, if_neg (by unfold emR; rw [he]; simp), if_pos hcol]; exact rfl
          go_wp2_with (first | (go_at_call 13; refine (rEmptyS_any _ _ _ _).mono ?_; rintro e w1 ⟨rfl, hb1⟩; rw [he]; have q0 := (hb1.cell (p := ⟨b, off + k * 3, none⟩) hbw).trans c0))
          go_ret
          exact ⟨ret_nat HN.out.symm, hbe.trans (hb1.mono hws)⟩
        · have HN : Hid (bel rs c = belA c (k + 1) (k + 1) (rs.drop (k + 1))) := by rw [HE.out, belA, if_neg (by unfold emR; rw [he]; simp), if_neg hcol]; exact rfl
          have hcol' : c < x1 := by omega
          go_wp2_with fail
          refine (rEmptyS_any _ _ _ _).mono ?_
          rintro e w1 ⟨rfl, hb1⟩
          rw [he]
          have q0 := (hb1.cell (p := ⟨b, off + k * 3, none⟩) hbw).trans c0
          have q1 := (hb1.cell (p := ⟨b, off + k * 3 + 1, none⟩) hbw).trans c1
          have q2 := (hb1.cell (p := ⟨b, off + k * 3 + 2, none⟩) hbw).trans c2
          go_wp2_with fail
          refine (rEmptyS_any _ _ _ _).mono ?_
          rintro e w2 ⟨rfl, hb2⟩
          rw [he]
          go_wp2
          go_roundw
          case rel => exact ⟨k + 1, k + 1, by omega, by omega, by go_num, by go_num, HN.out, hbe.trans ((hb1.mono hws).trans (hb2.mono (by have := hb1.size; omega)))⟩
          case measure => (simp [intOf] <;> omega)
      · have HN : Hid (bel rs c = belA c m (k + 1) (rs.drop (k + 1))) := by rw [HE.out, belA, if_pos (by unfold emR; rw [he])]; exact rfl
        go_wp2_with fail
        refine (rEmptyS_any _ _ _ _).mono ?_
        rintro e w1 ⟨rfl, hb1⟩
        rw [he]
        have q0 := (hb1.cell (p := ⟨b, off + k * 3, none⟩) hbw).trans c0
        have q1 := (hb1.cell (p := ⟨b, off + k * 3 + 1, none⟩) hbw).trans c1
        have q2 := (hb1.cell (p := ⟨b, off + k * 3 + 2, none⟩) hbw).trans c2
        go_wp2_with fail
        refine (rEmptyS_any _ _ _ _).mono ?_
        rintro e w2 ⟨rfl, hb2⟩
        rw [he]
        go_wp2
        go_roundw
        case rel => exact ⟨k + 1, m, by omega, by omega, by go_num, rfl, HN.out, hbe.trans ((hb1.mono hws).trans (hb2.mono (by have := hb1.size; omega)))⟩
        case measure => (simp [intOf] <;> omega)
    · have HN : Hid (bel rs c = m) := by
        have hrl := HZ.out.1
        have := HT.out
        rw [List.drop_of_length_le (by omega)] at this
        exact this
      go_wp2
      go_ret
      exact ⟨ret_nat HN.out.symm, hbe⟩

end Go.Proofs.YtgopjpihobekjaaDoor.Rws
