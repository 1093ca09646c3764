/- slices.Equal of ints, at any two, by its contract. -/
import Derived.Test.YtkggdjghjdakoaaGreatDoorGraphEqI
import Derived.BigQuiet
import Derived.Deep.QuietTactic
namespace Go.Proofs.YtkggdjghjdakoaaGreatDoor.Grp
open Utf Rws Pln Flw
open Go.RowKit
set_option linter.unusedSimpArgs false
set_option linter.unusedVariables false
set_option maxRecDepth 100000
set_option maxHeartbeats 4000000

theorem equal_any {w : World} {ad ad' : Option Addr} {len cap len' cap' : Nat} {l l' : List Int} (h : IAt w ad len l) (h' : IAt w ad' len' l') (hl : len ≤ 9223372036854775807) (hl' : len' ≤ 9223372036854775807) :
    Calls Tryz.prog 42 #[.slice ad len cap, .slice ad' len' cap'] w fun e w' => e = .returned (.bool (eqI l l')) ∧ Below w.heap.size w w' := by
  obtain ⟨q, HQ⟩ : ∃ q, Hid (q = eqI l l') := ⟨_, rfl⟩
  rw [← HQ.out]
  by_cases hne : len = len'
  · subst hne
    have HA : Hid (IAt w ad len l) := h
    have HB : Hid (IAt w ad' len l') := h'
    clear h h'
    go_enter Tryz.func42, Tryz.ntmps42
    go_wp2_with fail
    go_loopw [13] (fun i wr => ∃ j : Nat, j ≤ len ∧ i = .int .i64 j ∧ Hid (∀ i, i < j → l.getD i 0 = l'.getD i 0) ∧ Hid (Below w.heap.size w wr)) (fun i _ => len - (intOf i).toNat)
    case atStart => exact ⟨0, Nat.zero_le _, rfl, fun i hi => absurd hi (Nat.not_lt_zero _), Below.refl _ _⟩
    case round =>
      obtain ⟨j, hj, rfl, HE, HW⟩ := hrel
      by_cases hlt : j < len
      · obtain ⟨b, off, rfl, hb, hc⟩ := HA.out.2 (by omega)
        obtain ⟨b', off', rfl, hb', hc'⟩ := HB.out.2 (by omega)
        have x0 := (HW.out.cell (p := ⟨b, off + j, none⟩) hb).trans (hc j hlt).2
        have x1 := (HW.out.cell (p := ⟨b', off' + j, none⟩) hb').trans (hc' j hlt).2
        clear hc hc'
        obtain ⟨a, HAE⟩ : ∃ a, Hid (a = l.getD j 0) := ⟨_, rfl⟩
        obtain ⟨c, HCE⟩ : ∃ c, Hid (c = l'.getD j 0) := ⟨_, rfl⟩
        rw [← HAE.out] at x0
        rw [← HCE.out] at x1
        by_cases hac : a = c
        · have HE2 : Hid (∀ i, i < j + 1 → l.getD i 0 = l'.getD i 0) := fun i hi => by
            rcases Nat.lt_or_ge i j with h | h
            · exact HE.out i h
            · have e : i = j := by omega
              rw [e, ← HAE.out, ← HCE.out, hac]
          subst hac
          clear HAE HCE
          go_wp2_with fail
          go_quiet (fail)
          go_wp2
          go_roundw
          case rel => exact ⟨j + 1, by omega, by go_num, HE2, below_drewN HW.out _⟩
          case measure => (simp [intOf] <;> omega)
        · have HQF : Hid (q = false) := HQ.out.trans (eqI_part (j := j) (by rw [← HAE.out, ← HCE.out]; exact hac))
          go_wp2_with fail
          go_quiet (fail)
          go_wp2
          go_ret
          exact ⟨by rw [HQF.out]; rfl, below_drewN HW.out _⟩
      · have hje : j = len := by omega
        have HQT : Hid (q = true) := HQ.out.trans (eqI_all (HA.out.1.symm.trans HB.out.1) (fun i hi => HE.out i (by rw [hje, HA.out.1]; exact hi)))
        clear hje
        go_wp2
        go_ret
        exact ⟨by rw [HQT.out]; rfl, HW.out⟩
  · have HQF : Hid (q = false) := HQ.out.trans (eqI_len (by rw [← h.1, ← h'.1]; exact hne))
    clear h h'
    go_enter Tryz.func42, Tryz.ntmps42
    go_wp2
    go_ret
    exact ⟨by rw [HQF.out]; rfl, Below.refl _ _⟩
end Go.Proofs.YtkggdjghjdakoaaGreatDoor.Grp
