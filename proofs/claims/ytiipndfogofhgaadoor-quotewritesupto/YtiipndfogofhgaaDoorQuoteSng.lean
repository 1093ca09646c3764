/- quote.Single, by its contract. -/
import Derived.Test.YtiipndfogofhgaaDoorQuoteShelf
import Derived.Test.YtiipndfogofhgaaDoorQuoteSign
import Derived.Test.YtiipndfogofhgaaDoorQuotePlain2
namespace Go.Proofs.YtiipndfogofhgaaDoor.Quo
open Utf Rws
open Go.RowKit
set_option linter.unusedSimpArgs false
set_option linter.unusedVariables false
set_option maxRecDepth 100000

theorem dup_cons (b : UInt8) (r : List UInt8) : dup (b :: r) = (if b == 39 then [39, 39] else [b]) ++ dup r := rfl
theorem rep_dup : ∀ l : List UInt8, Lib.replaceK [39] [39, 39] (Lib.count l [39]) l = dup l
  | [] => by rw [Lib.count_miss (by decide)]; rfl
  | b :: r => by
    have ih := rep_dup r
    by_cases hb : b = 39
    · subst hb
      have hi : Lib.index (39 :: r) [39] = ((0 : Nat) : Int) := by simp [Lib.index, List.isPrefixOf]
      rw [Lib.count_hit (by simp) hi, Nat.add_comm 1, Lib.replaceK_hit _ _ _ _ 0 hi]
      have e : (39 :: r).drop (0 + [(39 : UInt8)].length) = r := rfl
      rw [e, ih]
      rfl
    · have hp : ([39] : List UInt8).isPrefixOf (b :: r) = false := by
        simp [List.isPrefixOf]
        exact fun h => hb h.symm
      have hd : dup (b :: r) = b :: dup r := by rw [dup_cons, if_neg (by simpa using hb)]; rfl
      by_cases hm : Lib.index r [39] = -1
      · have hi : Lib.index (b :: r) [39] = -1 := by rw [Lib.index, hp, hm]; rfl
        rw [Lib.count_miss hm] at ih
        rw [Lib.count_miss hi, hd, ← ih]
        rfl
      · have hge := Lib.index_ge r [39]
        obtain ⟨j, hj⟩ : ∃ j : Nat, Lib.index r [39] = j := ⟨(Lib.index r [39]).toNat, by omega⟩
        have hi : Lib.index (b :: r) [39] = ((j + 1 : Nat) : Int) := by
          rw [Lib.index, hp, hj, if_neg (by decide), if_neg (by simp)]; rfl
        rw [Lib.count_hit (by simp) hj, Nat.add_comm 1, Lib.replaceK_hit _ _ _ _ j hj] at ih
        rw [Lib.count_hit (by simp) hi, Nat.add_comm 1, Lib.replaceK_hit _ _ _ _ (j + 1) hi, hd, ← ih]
        have e : (b :: r).drop (j + 1 + [(39 : UInt8)].length) = r.drop (j + [(39 : UInt8)].length) := rfl
        rw [e]
        rfl
theorem repAll (l : List UInt8) : Lib.replaceAll l [39] [39, 39] = dup l := by
  unfold Lib.replaceAll Lib.replace Lib.replaceNum
  rw [if_neg (by decide), if_pos (.inl (by decide)), rep_dup]
theorem dup_len (l : List UInt8) : (dup l).length ≤ 2 * l.length := by
  induction l with
  | nil => exact Nat.le_refl _
  | cons b r ih => rw [dup_cons, List.length_append, List.length_cons]; split <;> simp <;> omega

/-- internal/bytealg.MaxLen holds some number -/
def Mx (w : World) : Prop := ∃ m, w.cell? ⟨2, 0, none⟩ = some (.int .i64 m)
/-- Single's answer -/
def sngS (l : List UInt8) : List UInt8 := if smp l = true then sng l else []
def sngE (l : List UInt8) : Int := if smp l = true then 0 else 8
theorem sngS_yes {l : List UInt8} (h : smp l = true) : sngS l = sng l := if_pos h
theorem sngE_yes {l : List UInt8} (h : smp l = true) : sngE l = 0 := if_pos h
theorem sngS_no {l : List UInt8} (h : smp l = false) : sngS l = [] := if_neg (by rw [h]; decide)
theorem sngE_no {l : List UInt8} (h : smp l = false) : sngE l = 8 := if_neg (by rw [h]; decide)

theorem single_any (l : List UInt8) (w : World) (hl : l.length ≤ 4194304) (hM : Mx w) :
    Calls Tryd.prog 12 #[.string (mk l)] w fun e w' => e = .returned (.tuple #[.string (mk (sngS l)), .int .i64 (sngE l)]) ∧ Below w.heap.size w w' := by
  have HS := fun w => simple_any l w (by omega)
  cases hs : smp l
  · have HSS : Hid (∀ w, Calls Tryd.prog 16 #[.string (mk l)] w fun e w' => e = .returned (.bool false) ∧ w = w') := fun w => by rw [← hs]; exact HS w
    have HV : Hid (sngS l = [] ∧ sngE l = 8) := ⟨sngS_no hs, sngE_no hs⟩
    clear HS hs
    go_enter Tryd.func12, Tryd.ntmps12
    go_wp2_with (first | (go_at_call 16; refine (HSS.out _).mono ?_; rintro e w' ⟨rfl, rfl⟩))
    go_ret2
    rw [HV.out.1, HV.out.2]
    exact ⟨rfl, Below.refl _ _⟩
  · have HSS : Hid (∀ w, Calls Tryd.prog 16 #[.string (mk l)] w fun e w' => e = .returned (.bool true) ∧ w = w') := fun w => by rw [← hs]; exact HS w
    have HV : Hid (sngS l = sng l ∧ sngE l = 0) := ⟨sngS_yes hs, sngE_yes hs⟩
    obtain ⟨m, hM⟩ := hM
    have hcn := Lib.countB_mul_le ⟨#[39]⟩ (by decide) (mk l).size (mk l) (Nat.le_refl _)
    rw [mk_size, show (⟨#[39]⟩ : ByteArray).size = 1 from rfl, Nat.mul_one] at hcn
    have HRP : Hid (Calls Tryd.prog 27 #[.string (mk l), .string ⟨#[39]⟩, .string ⟨#[39, 39]⟩] w fun e w' => e = .returned (.string (mk (dup l))) ∧ Below w.heap.size w w') := by
      have q := replaceAll_any (mk l) ⟨#[39]⟩ ⟨#[39, 39]⟩ m w (by rw [mk_size]; omega) hM (by decide) (by rw [mk_size, show (⟨#[39, 39]⟩ : ByteArray).size = 2 from rfl]; omega)
      rw [mk_data, show (⟨#[39]⟩ : ByteArray).data.toList = [39] from rfl, show (⟨#[39, 39]⟩ : ByteArray).data.toList = [39, 39] from rfl, repAll] at q
      exact q
    have HJ : Hid ((⟨#[39]⟩ ++ mk (dup l) ++ ⟨#[39]⟩ : ByteArray) = mk (sng l)) := by
      unfold Hid sng
      apply ByteArray.ext
      apply Array.ext'
      simp [mk]
    have hdz : (mk (dup l)).size ≤ 8388608 := by rw [mk_size]; have := dup_len l; omega
    clear HS hs hM hcn
    go_enter Tryd.func12, Tryd.ntmps12
    go_wp2_with (first | (go_at_call 16; refine (HSS.out _).mono ?_; rintro e w' ⟨rfl, rfl⟩) | (go_at_call 27; refine HRP.out.mono ?_; rintro e w1 ⟨rfl, hb1⟩))
    go_ret2
    rw [HJ.out, HV.out.1, HV.out.2]
    exact ⟨rfl, hb1⟩

end Go.Proofs.YtiipndfogofhgaaDoor.Quo
