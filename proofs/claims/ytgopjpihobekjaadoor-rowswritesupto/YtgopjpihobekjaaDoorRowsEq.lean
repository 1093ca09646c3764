/- rows.Same, by its contract. -/
import Derived.Test.YtgopjpihobekjaaDoorRowsSame
namespace Go.Proofs.YtgopjpihobekjaaDoor.Rws
open Utf
open Go.RowKit
set_option linter.unusedSimpArgs false
set_option linter.unusedVariables false
set_option maxRecDepth 100000

theorem equal_any (a a' : Option Addr) (len len' cap cap' : Nat) (rs ks : List R3) (w : World) (h : RowsAt w a len rs) (h' : RowsAt w a' len' ks) (hl : len ≤ 4398046511104) (hl' : len' ≤ 4398046511104) :
    Calls Tryd.prog 21 #[.slice a len cap, .slice a' len' cap'] w fun e w' => e = .returned (.bool (same rs ks)) ∧ Below w.heap.size w w' := by
  have HZ : Hid (RowsAt w a len rs) := h
  have HZ' : Hid (RowsAt w a' len' ks) := h'
  clear h h'
  by_cases hne : len = len'
  · subst hne
    go_enter Tryd.func21, Tryd.ntmps21
    go_wp2
    go_loopw [13] (fun i wr => ∃ k : Nat, k ≤ len ∧ i = .int .i64 k ∧ rs.take k = ks.take k ∧ Below w.heap.size w wr) (fun i _ => len - (intOf i).toNat)
    case atStart => exact ⟨0, Nat.zero_le _, rfl, rfl, Below.refl _ _⟩
    case round =>
      obtain ⟨k, hk, rfl, ht, hbe⟩ := hrel
      have HT : Hid (rs.take k = ks.take k) := ht
      clear ht
      by_cases hlt : k < len
      · obtain ⟨b, off, rfl, hb, hc⟩ := HZ.out.2 (by omega)
        obtain ⟨b', off', rfl, hb', hc'⟩ := HZ'.out.2 (by omega)
        obtain ⟨c0, c1, c2⟩ := hc k hlt
        obtain ⟨d0, d1, d2⟩ := hc' k hlt
        replace c0 := (hbe.cell (p := ⟨b, off + k * 3, none⟩) hb).trans c0
        replace c1 := (hbe.cell (p := ⟨b, off + k * 3 + 1, none⟩) hb).trans c1
        replace c2 := (hbe.cell (p := ⟨b, off + k * 3 + 2, none⟩) hb).trans c2
        replace d0 := (hbe.cell (p := ⟨b', off' + k * 3, none⟩) hb').trans d0
        replace d1 := (hbe.cell (p := ⟨b', off' + k * 3 + 1, none⟩) hb').trans d1
        replace d2 := (hbe.cell (p := ⟨b', off' + k * 3 + 2, none⟩) hb').trans d2
        obtain ⟨x, hx⟩ : ∃ x, Hid (x = rs.getD k z3) := ⟨_, rfl⟩
        obtain ⟨y, hy⟩ : ∃ y, Hid (y = ks.getD k z3) := ⟨_, rfl⟩
        rw [← hx.out] at c0 c1 c2
        rw [← hy.out] at d0 d1 d2
        obtain ⟨x1, x2, x3⟩ := x
        obtain ⟨y1, y2, y3⟩ := y
        simp only at c0 c1 c2 d0 d1 d2
        clear hc hc'
        have hn := neq_row x1 y1 x3 y3 x2 y2
        have HE : Hid (eq3 (x1, x2, x3) (y1, y2, y3) = decide (rs.getD k z3 = ks.getD k z3)) := by rw [hx.out, hy.out]; rfl
        generalize eq3 (x1, x2, x3) (y1, y2, y3) = q at hn HE
        cases q
        · go_wp2
          go_quiet (fail)
          go_wp2
          go_ret
          refine ⟨?_, below_drewN hbe _⟩
          have e : same rs ks = false := by
            unfold same
            rw [decide_eq_false_iff_not]
            intro h
            have := HE.out
            rw [h] at this
            simp at this
          rw [e]
          rfl
        · go_wp2
          go_quiet (fail)
          go_wp2
          go_roundw
          case rel =>
            refine ⟨k + 1, by omega, by go_num, ?_, below_drewN hbe _⟩
            have hrl := HZ.out.1
            have hkl := HZ'.out.1
            have he : rs.getD k z3 = ks.getD k z3 := by have := HE.out; simpa using this.symm
            rw [List.getD_eq_getElem?_getD, List.getD_eq_getElem?_getD, List.getElem?_eq_getElem (by omega), List.getElem?_eq_getElem (by omega)] at he
            rw [List.take_succ_eq_append_getElem (by omega), List.take_succ_eq_append_getElem (by omega), HT.out]
            congr 2
          case measure => simp [intOf]; omega
      · have hrl := HZ.out.1
        have hkl := HZ'.out.1
        have HE : Hid (same rs ks = true) := by
          have h := HT.out
          rw [List.take_of_length_le (by omega), List.take_of_length_le (by omega)] at h
          unfold same; rw [h]; simp [Hid]
        clear hrl hkl
        go_wp2
        go_ret
        rw [HE.out]
        exact ⟨rfl, hbe⟩
  · have HE : Hid (same rs ks = false) := by
      unfold same
      have h1 := HZ.out.1
      have h2 := HZ'.out.1
      exact decide_eq_false (fun h => hne (by rw [h1, h2, h]))
    have hne' : ((len : Int) != (len' : Int)) = true := by simp; omega
    go_enter Tryd.func21, Tryd.ntmps21
    go_wp2
    go_ret
    rw [HE.out]
    exact ⟨rfl, Below.refl _ _⟩


theorem sameR_any (a a' : Option Addr) (len len' cap cap' : Nat) (rs ks : List R3) (w : World) (h : RowsAt w a len rs) (h' : RowsAt w a' len' ks) (hl : len ≤ 4398046511104) (hl' : len' ≤ 4398046511104) :
    Calls Tryd.prog 11 #[.slice a len cap, .slice a' len' cap'] w fun e w' => e = .returned (.bool (same rs ks)) ∧ Below w.heap.size w w' := by
  go_enter Tryd.func11, Tryd.ntmps11
  go_wp2_with fail
  refine (equal_any _ _ _ _ _ _ rs ks _ h h' hl hl').mono ?_
  rintro e w1 ⟨rfl, hb⟩
  go_wp2
  go_ret
  exact ⟨rfl, hb⟩

end Go.Proofs.YtgopjpihobekjaaDoor.Rws
