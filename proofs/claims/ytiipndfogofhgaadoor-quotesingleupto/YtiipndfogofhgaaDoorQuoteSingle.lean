/- The law QuoteSingle: it answers true. -/
import Derived.Test.YtiipndfogofhgaaDoorQuoteAlive
import Derived.Test.YtiipndfogofhgaaDoorQuoteMax
namespace Go.Proofs.YtiipndfogofhgaaDoor.Quo
open Utf Rws
open Go.RowKit
set_option linter.unusedSimpArgs false
set_option linter.unusedVariables false
set_option maxRecDepth 100000

theorem cat_mk (a b : List UInt8) : mk a ++ mk b = mk (a ++ b) := by
  apply ByteArray.ext
  apply Array.ext'
  simp [mk]
theorem sng_len (l : List UInt8) : (sng l).length ≤ 2 * l.length + 2 := by unfold sng; have := dup_len l; simp; omega
theorem head_getD (r : List UInt8) : (r.head? ≠ some 39) ↔ ¬ (r ≠ [] ∧ r.getD 0 0 = 39) := by
  cases r with
  | nil => simp
  | cons a r => simp

set_option maxHeartbeats 1000000 in
theorem single_walk (s rest : ByteArray) (w : World) (hs : s.size ≤ 1048576) (hr : rest.size ≤ 1048576) (hT : Tabs w) (hM : Mx w) :
    Calls Tryd.prog 5 #[.string s, .string rest] w fun e w' => e = .returned (.bool true) ∧ Below w.heap.size w w' := by
  obtain ⟨l, rfl⟩ := mk_ex s
  obtain ⟨r, rfl⟩ := mk_ex rest
  rw [mk_size] at hs hr
  have hSN := single_any l w (by omega) hM
  have HT : Hid (Tabs w) := hT
  clear hT
  cases hsm : smp l
  · have HSN : Hid (Calls Tryd.prog 12 #[.string (mk l)] w fun e w' => e = .returned (.tuple #[.string ⟨#[]⟩, .int .i64 8]) ∧ Below w.heap.size w w') := by
      rw [sngS_no hsm, sngE_no hsm] at hSN; exact hSN
    have HSI : Hid (∀ w, Calls Tryd.prog 16 #[.string (mk l)] w fun e w' => e = .returned (.bool false) ∧ w = w') := fun w => by rw [← hsm]; exact simple_any l w (by omega)
    clear hSN hsm
    go_enter Tryd.func5, Tryd.ntmps5
    go_wp2_with (first | (go_at_call 12; refine HSN.out.mono ?_; rintro e w1 ⟨rfl, b1⟩) | (go_at_call 16; refine (HSI.out _).mono ?_; rintro e w' ⟨rfl, rfl⟩) | (go_at_call 11; refine (alive_any _ (HT.out.later b1)).mono ?_; rintro e w4 ⟨rfl, b4⟩))
    go_ret
    exact ⟨rfl, b1.trans (b4.mono b1.size)⟩
  · obtain ⟨Q, hQ⟩ : ∃ Q, Q = sng l := ⟨_, rfl⟩
    have hql := sng_len l
    have HSN : Hid (Calls Tryd.prog 12 #[.string (mk l)] w fun e w' => e = .returned (.tuple #[.string (mk Q), .int .i64 0]) ∧ Below w.heap.size w w') := by
      rw [sngS_yes hsm, sngE_yes hsm, ← hQ] at hSN; exact hSN
    rw [← hQ] at hql
    have hrz := mk_size r
    have hQz : (mk Q).size = Q.length := mk_size Q
    have hq0 : (mk r).toList.isEmpty = (r == []) := by rw [ByteArray.toList_eq, mk_data]; cases r <;> rfl
    by_cases h39 : r ≠ [] ∧ r.getD 0 0 = 39
    · have hg : ∀ h, (mk r)[0]'h = r.getD 0 0 := fun h => getD_mk r 0 h
      rw [h39.2] at hg
      have hq : (mk r).toList.isEmpty = false := by rw [hq0]; simpa using h39.1
      have hr1 : 0 < r.length := List.length_pos_iff.2 h39.1
      clear hSN hsm hQ h39 hq0
      go_enter Tryd.func5, Tryd.ntmps5
      go_wp2_with (first | (go_at_call 12; refine HSN.out.mono ?_; rintro e w1 ⟨rfl, b1⟩) | (go_at_call 11; refine (alive_any _ (HT.out.later b1)).mono ?_; rintro e w4 ⟨rfl, b4⟩))
      go_ret
      exact ⟨rfl, b1.trans (b4.mono b1.size)⟩
    · have hrd := rd_single l r hsm ((head_getD r).2 h39)
      rw [← hQ] at hrd
      have hRD := fun w hT => read_any (Q ++ r) w (by rw [List.length_append]; omega) hT
      unfold rdV at hRD
      rw [hrd] at hRD
      have HRD : Hid (∀ w, Tabs w → Calls Tryd.prog 9 #[.string (mk Q ++ mk r)] w fun e w' => e = .returned (.tuple #[.string (mk l), .int .i64 (Q.length : Int), .agg #[.int .i64 0, .int .i64 0]]) ∧ Below w.heap.size w w') := fun w hT => by rw [cat_mk]; exact hRD w hT
      have he := eql_fault 0 0 0 0
      cases hre : (r == [])
      · have hq : (mk r).toList.isEmpty = false := by rw [hq0, hre]
        have hr0 : r ≠ [] := by simpa using hre
        have hr1 : 0 < r.length := List.length_pos_iff.2 hr0
        have hg : ∀ h, (mk r)[0]'h = r.getD 0 0 := fun h => getD_mk r 0 h
        have hb : (((r.getD 0 0).toNat : Int) == 39) = false := (b39 _).trans (by simp; exact fun h => h39 ⟨hr0, by simpa using h⟩)
        generalize r.getD 0 0 = c at hg hb
        clear hSN hsm hQ h39 hq0 hrd hRD hre hr0
        go_enter Tryd.func5, Tryd.ntmps5
        go_wp2_with fail
        refine HSN.out.mono ?_
        rintro e w1 ⟨rfl, b1⟩
        go_wp2_with fail
        refine (HRD.out _ (HT.out.later b1)).mono ?_
        rintro e w2 ⟨rfl, b2⟩
        have b12 := b1.trans (b2.mono b1.size)
        have b3 : Below w2.heap.size w2 (w2.alloc (.cells #[.int .i64 0, .int .i64 0] 24)) := below_alloc _ _
        have b13 := b12.trans (b3.mono b12.size)
        have HT3 : Hid (Tabs (w2.alloc (.cells #[.int .i64 0, .int .i64 0] 24))) := HT.out.later b13
        have HB3 : Hid (Below w.heap.size w (w2.alloc (.cells #[.int .i64 0, .int .i64 0] 24))) := b13
        clear b1 b2 b12 b3 b13
        go_wp2_with (first | (go_at_call 11; refine (alive_any _ HT3.out).mono ?_; rintro e w4 ⟨rfl, b4⟩))
        go_ret
        exact ⟨rfl, HB3.out.trans (b4.mono HB3.out.size)⟩
      · have hq : (mk r).toList.isEmpty = true := by rw [hq0, hre]
        clear hSN hsm hQ h39 hq0 hrd hRD hre
        go_enter Tryd.func5, Tryd.ntmps5
        go_wp2_with fail
        refine HSN.out.mono ?_
        rintro e w1 ⟨rfl, b1⟩
        go_wp2_with fail
        refine (HRD.out _ (HT.out.later b1)).mono ?_
        rintro e w2 ⟨rfl, b2⟩
        have b12 := b1.trans (b2.mono b1.size)
        have b3 : Below w2.heap.size w2 (w2.alloc (.cells #[.int .i64 0, .int .i64 0] 24)) := below_alloc _ _
        have b13 := b12.trans (b3.mono b12.size)
        have HT3 : Hid (Tabs (w2.alloc (.cells #[.int .i64 0, .int .i64 0] 24))) := HT.out.later b13
        have HB3 : Hid (Below w.heap.size w (w2.alloc (.cells #[.int .i64 0, .int .i64 0] 24))) := b13
        clear b1 b2 b12 b3 b13
        go_wp2_with (first | (go_at_call 11; refine (alive_any _ HT3.out).mono ?_; rintro e w4 ⟨rfl, b4⟩))
        go_ret
        exact ⟨rfl, HB3.out.trans (b4.mono HB3.out.size)⟩

end Go.Proofs.YtiipndfogofhgaaDoor.Quo
