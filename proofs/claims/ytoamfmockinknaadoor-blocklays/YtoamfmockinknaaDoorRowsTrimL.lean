/- strings.TrimLeft at the one blank, by its contract. -/
import Derived.Test.YtoamfmockinknaaDoorRowsLeaf
namespace Go.Proofs.YtoamfmockinknaaDoor.Rws
open Utf
open Go.RowKit
set_option linter.unusedSimpArgs false
set_option linter.unusedVariables false

theorem trL_cons (b : UInt8) (r : List UInt8) : trL (b :: r) = if is32 b = true then trL r else b :: r := by unfold trL; rw [List.dropWhile_cons]

theorem b32 (b : UInt8) : ((b.toNat : Int) == 32) = is32 b := by
  unfold is32
  rw [Bool.eq_iff_iff]
  simp only [beq_iff_eq]
  constructor
  · intro h; apply UInt8.toNat_inj.1; have : b.toNat = 32 := by omega
    rw [this]; rfl
  · rintro rfl; rfl

theorem trimLeftByte_any (l : List UInt8) (w : World) (hs : l.length ≤ 140737488355328) : Calls Tryd.prog 54 #[.string (mk l), .int .u8 32] w fun e w' => e = .returned (.string (mk (trL l))) ∧ w = w' := by
  go_enter Tryd.func54, Tryd.ntmps54
  go_wp2
  go_loop [0] (fun u => ∃ m : List UInt8, u = .string (mk m) ∧ m.length ≤ l.length ∧ trL l = trL m) (fun u => strLen u)
  case atStart => exact ⟨l, rfl, Nat.le_refl _, rfl⟩
  case round =>
    obtain ⟨m, rfl, hm, ht⟩ := hrel
    have HT : Hid (trL l = trL m) := ht
    clear ht
    cases m with
    | nil =>
      have hz : (mk []).size = 0 := rfl
      go_wp2
      go_ret
      rw [HT.out]
      exact ⟨rfl, rfl⟩
    | cons b r =>
      have hsz : (mk (b :: r)).size = r.length + 1 := by rw [mk_size]; simp
      have hsl : r.length + 1 ≤ 140737488355328 := by simp at hm; omega
      have hg : ∀ h, (mk (b :: r))[0]'h = b := fun h => by rw [mk_get]; rfl
      have hb32 := b32 b
      cases hb : is32 b
      · have HN : Hid (trL (b :: r) = b :: r) := by rw [trL_cons, hb]; rfl
        rw [hb] at hb32
        go_wp2
        go_ret
        rw [HT.out, HN.out]
        exact ⟨rfl, rfl⟩
      · have HN : Hid (trL (b :: r) = trL r) := by rw [trL_cons, hb]; rfl
        rw [hb] at hb32
        go_wp2
        go_round
        case rel => exact ⟨r, by rw [mk_ext]; simp [mk_size], by simp at hm; omega, HT.out.trans HN.out⟩
        case measure => simp [strLen, mk_ext, mk_size]

set_option maxRecDepth 100000 in
theorem trimLeft_any (l : List UInt8) (w : World) (hs : l.length ≤ 140737488355328) : Calls Tryd.prog 36 #[.string (mk l), .string ⟨#[32]⟩] w fun e w' => e = .returned (.string (mk (trL l))) ∧ w = w' := by
  by_cases h0 : l = []
  · subst h0
    have hz : (mk []) = ByteArray.empty := rfl
    go_enter Tryd.func36, Tryd.ntmps36
    go_wp2
    go_ret
    exact ⟨rfl, rfl⟩
  · have hne : ((mk l).toList == []) = false := by rw [ByteArray.toList_eq, mk_data, beq_eq_false_iff_ne]; exact h0
    go_enter Tryd.func36, Tryd.ntmps36
    go_wp2_with (first | (go_at_call 54; refine (trimLeftByte_any _ _ hs).mono ?_; rintro e w' ⟨rfl, rfl⟩))
    go_ret
    exact ⟨rfl, rfl⟩

end Go.Proofs.YtoamfmockinknaaDoor.Rws
