/- mayStand, isName. -/
import Derived.Test.YtedpiikdlpehjaaDiskLeaf
import Derived.Deep.Light
namespace Go.Proofs.Ytedpiikdlpehjaa.Dsk
open Go Go.RowKit Go.Maps
set_option linter.unusedSimpArgs false
set_option linter.unusedVariables false

def sigN (n : Nat) : Bool := n == 46 || n == 45 || n == 95 || (97 ≤ n && n ≤ 122) || (48 ≤ n && n ≤ 57)
theorem sig_nat (b : UInt8) : sig b = sigN b.toNat := by
  have h : ∀ b : Fin 256, sig (UInt8.ofNat b.1) = sigN b.1 := by decide +kernel
  have := h ⟨b.toNat, b.toNat_lt⟩
  simpa using this
theorem mayStand_any (b : UInt8) (w : World) : Calls Try.prog 59 #[.int .u8 (b.toNat : Int)] w fun e w' => e = .returned (.bool (sig b)) ∧ w = w' := by
  have HS : Hid (sig b = sigN b.toNat) := sig_nat b
  have hlt := b.toNat_lt
  generalize b.toNat = n at *
  obtain ⟨r, HR⟩ : ∃ r, Hid (r = sig b) := ⟨_, rfl⟩
  rw [← HR.out] at HS ⊢
  clear HR
  go_enter Try.func59, Try.ntmps59
  go_wp2
  all_goals go_ret
  all_goals (refine ⟨?_, rfl⟩; rw [HS.out]; clear HS; go_light; simp only [beq_iff_eq, beq_eq_false_iff_ne, ne_eq] at *; first | (simp [sigN]; done) | (simp [sigN]; omega) | (refine congrArg (fun b => Ending.returned (Value.bool b)) ?_; rw [Bool.eq_iff_iff]; simp [sigN]; omega))
theorem str_getD (l : List UInt8) (k : Nat) (h : k < (str l).size) : (str l)[k]'h = l.getD k 0 := by
  have h' : k < l.length := by rwa [str_size] at h
  rw [List.getD_eq_getElem?_getD, List.getElem?_eq_getElem h']
  rfl
theorem isName_any (l : List UInt8) (w : World) (hm : l.length ≤ maxLen) : Calls Try.prog 45 #[.string (str l)] w fun e w' => e = .returned (.bool (isNm l)) ∧ w = w' := by
  have hsz := str_size l
  obtain ⟨len, HL⟩ : ∃ len, Hid (len = l.length) := ⟨_, rfl⟩
  rw [← HL.out] at hsz hm
  unfold maxLen at hm
  obtain ⟨R, HR⟩ : ∃ R, Hid (R = isNm l) := ⟨_, rfl⟩
  rw [← HR.out]
  by_cases h1 : 1 ≤ len ∧ len ≤ 32
  · obtain ⟨h1, h2⟩ := h1
    go_enter Try.func45, Try.ntmps45
    go_wp2
    go_loop [14] (fun i => ∃ k : Nat, k ≤ len ∧ i = .int .i64 k ∧ (l.take k).all sig = true) (fun i => len - (intOf i).toNat)
    case atStart => exact ⟨0, Nat.zero_le _, rfl, by simp⟩
    case round =>
      obtain ⟨k, hk, rfl, ha⟩ := hrel
      have HA : Hid ((l.take k).all sig = true) := ha
      clear ha
      by_cases hlt : k < len
      · have hg : ∀ h, (str l)[k]'h = l.getD k 0 := fun h => str_getD l k h
        obtain ⟨x, HX⟩ : ∃ x, Hid (x = l.getD k 0) := ⟨_, rfl⟩
        rw [← HX.out] at hg
        have HT : Hid ((l.take (k + 1)).all sig = sig x) := by
          show _ = _
          have hk' : k < l.length := by rw [← HL.out]; exact hlt
          rw [List.take_succ_eq_append_getElem hk', List.all_append, HA.out, HX.out, List.getD_eq_getElem?_getD, List.getElem?_eq_getElem hk']
          simp
        have hlt' := x.toNat_lt
        have hc := mayStand_any x
        cases hs : sig x with
        | true =>
          rw [hs] at hc
          go_wp2_with (go_at_call 59; refine (hc _).mono ?_; rintro e w' ⟨rfl, rfl⟩)
          go_round
          case rel => exact ⟨k + 1, by omega, by go_num, by rw [HT.out, hs]⟩
          case measure => simp [intOf]; omega
        | false =>
          rw [hs] at hc
          have HN : Hid (isNm l = false) := by
            show _ = _
            unfold isNm
            have : l.all sig = false := by
              rw [← List.take_append_drop (k + 1) l, List.all_append, HT.out, hs]
              rfl
            rw [this, Bool.and_false]
          go_wp2_with (go_at_call 59; refine (hc _).mono ?_; rintro e w' ⟨rfl, rfl⟩)
          go_ret
          exact ⟨by rw [HR.out, HN.out] <;> rfl, rfl⟩
      · have HN : Hid (isNm l = true) := by
          show _ = _
          have h3 := HA.out
          rw [List.take_of_length_le (by rw [← HL.out]; omega)] at h3
          unfold isNm
          rw [h3, ← HL.out]
          simp [h1, h2]
        go_wp2
        go_ret
        exact ⟨by rw [HR.out, HN.out] <;> rfl, rfl⟩
  · have HN : Hid (isNm l = false) := by
      show _ = _
      unfold isNm
      rw [← HL.out]
      simp
      omega
    by_cases h0 : len < 1
    · go_enter Try.func45, Try.ntmps45
      go_wp2
      go_ret
      exact ⟨by rw [HR.out, HN.out] <;> rfl, rfl⟩
    · have h2 : 32 < len := by omega
      clear h1
      go_enter Try.func45, Try.ntmps45
      go_wp2
      go_ret
      exact ⟨by rw [HR.out, HN.out] <;> rfl, rfl⟩
end Go.Proofs.Ytedpiikdlpehjaa.Dsk
