/- The document's disk: names. -/
import Derived.Test.YtedpiikdlpehjaaDiskSim
import Derived.Test.YtedpiikdlpehjaaDiskNames
import Derived.BigQuiet
import Derived.Deep.QuietTactic
namespace Go.Proofs.Ytedpiikdlpehjaa.Dsk
open Go Go.RowKit Go.Maps
set_option linter.unusedSimpArgs false
set_option linter.unusedVariables false

theorem rname_any (l : List UInt8) (w : World) (hm : l.length ≤ maxLen) : Calls Try.prog 52 #[.string (str l)] w fun e w' => e = .returned (.bool (isNm l)) ∧ Below w.heap.size w w' := by
  have hsz := str_size l
  obtain ⟨len, HL⟩ : ∃ len, Hid (len = l.length) := ⟨_, rfl⟩
  rw [← HL.out] at hsz hm
  unfold maxLen at hm
  obtain ⟨R, HR⟩ : ∃ R, Hid (R = isNm l) := ⟨_, rfl⟩
  rw [← HR.out]
  go_enter Try.func52, Try.ntmps52
  go_wp2_with fail
  go_loopw [3] (fun i wr => ∃ k : Nat, k ≤ len ∧ i = .int .i64 k ∧ (l.take k).all sig = true ∧ w = wr) (fun i _ => len - (intOf i).toNat)
  case atStart => exact ⟨0, Nat.zero_le _, rfl, by simp, rfl⟩
  case round =>
    obtain ⟨k, hk, rfl, ha, rfl⟩ := hrel
    have HA : Hid ((l.take k).all sig = true) := ha
    clear ha
    by_cases hlt : k < len
    · have hg : ∀ h, (str l)[k]'h = l.getD k 0 := fun h => str_getD l k h
      obtain ⟨x, HX⟩ : ∃ x, Hid (x = l.getD k 0) := ⟨_, rfl⟩
      rw [← HX.out] at hg
      have HT : Hid ((l.take (k + 1)).all sig = sig x) := by
        show _ = _
        have hk' : k < l.length := by rw [← HL.out]; exact hlt
        rw [List.take_succ_eq_append_getElem hk', List.all_append, HA.out, HX.out, List.getD_eq_getElem?_getD, List.getElem?_eq_getElem hk']
        simp
      have HF : Hid (sig x = false → isNm l = false) := by
        intro hs
        unfold isNm
        have : l.all sig = false := by
          rw [← List.take_append_drop (k + 1) l, List.all_append, HT.out, hs]
          rfl
        rw [this, Bool.and_false]
      have HS : Hid (sig x = sigN x.toNat) := sig_nat x
      have hlt' := x.toNat_lt
      go_wp2
      all_goals first
        | (have key : sigN x.toNat = true := by
             clear HF HT HS HA
             simp at *
             unfold sigN
             simp
             omega
           go_roundw
           case rel => exact ⟨k + 1, by omega, by go_num, by rw [HT.out, HS.out]; exact key, trivial⟩
           case measure => simp [intOf]; omega)
        | (have key : sigN x.toNat = false := by
             clear HF HT HS HA
             simp at *
             unfold sigN
             simp
             omega
           go_ret
           refine ⟨?_, Below.refl _ _⟩
           rw [HR.out, HF.out (by rw [HS.out]; exact key)]
           first | done | rfl)
    · have HN : Hid (isNm l = (decide (1 ≤ len) && decide (len ≤ 32))) := by
        show _ = _
        have h3 := HA.out
        rw [List.take_of_length_le (by rw [← HL.out]; omega)] at h3
        unfold isNm
        rw [h3, ← HL.out, Bool.and_true]
      go_wp2
      all_goals go_ret
      all_goals (refine ⟨?_, Below.refl _ _⟩; rw [HR.out, HN.out])
      all_goals (refine congrArg (fun b => Ending.returned (Value.bool b)) ?_; rw [Bool.eq_iff_iff]; simp; omega)
end Go.Proofs.Ytedpiikdlpehjaa.Dsk
