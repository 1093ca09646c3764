/- strings.Contains at the byte 13, strings.HasSuffix, block.chompOf, block.canStand, by their contracts. -/
import Derived.Test.YtoamfmockinknaaDoorBlockLayP
import Derived.Test.YtoamfmockinknaaDoorBlockLeaf
import Derived.Test.YtoamfmockinknaaDoorRowsTrimL
namespace Go.Proofs.YtoamfmockinknaaDoor.Blk
open Go.RowKit
open Rws (mk mk_data mk_size mk_of mk_ext mk_get mk_inj has idx idx_no idx_yes trL is32 trL_len snoc_ex)
set_option linter.unusedSimpArgs false
set_option linter.unusedVariables false
set_option maxRecDepth 100000

theorem index13L_any (s : ByteArray) (w : World) : Calls Tryd.prog 53 #[.string s, .string ⟨#[13]⟩] w fun e w' => e = .returned (.int .i64 (idx 13 s.data.toList)) ∧ w = w' := by
  by_cases hs : s = ⟨#[13]⟩
  · subst hs
    go_enter Tryd.func53, Tryd.ntmps53
    go_wp2
    go_ret
    exact ⟨by simp [idx, has], rfl⟩
  · have hne : ([13] == s.toList) = false := by
      rw [beq_eq_false_iff_ne]
      intro h
      apply hs
      rw [ByteArray.toList_eq] at h
      rw [← mk_of s, ← h]; rfl
    go_enter Tryd.func53, Tryd.ntmps53
    go_wp2_with (first | (go_at_call 69; refine (Rws.indexByteL_any _ 13 _).mono ?_; rintro e w' ⟨rfl, rfl⟩))
    go_ret
    exact ⟨rfl, rfl⟩
theorem index13_any (s : ByteArray) (w : World) : Calls Tryd.prog 35 #[.string s, .string ⟨#[13]⟩] w fun e w' => e = .returned (.int .i64 (idx 13 s.data.toList)) ∧ w = w' := by
  go_enter Tryd.func35, Tryd.ntmps35
  go_wp2_with (first | (go_at_call 53; refine (index13L_any _ _).mono ?_; rintro e w' ⟨rfl, rfl⟩))
  go_ret
  exact ⟨rfl, rfl⟩
theorem contains13_any (l : Ln) (w : World) : Calls Tryd.prog 17 #[.string (mk l), .string ⟨#[13]⟩] w fun e w' => e = .returned (.bool (has 13 l)) ∧ w = w' := by
  have HI : Hid (Calls Tryd.prog 35 #[.string (mk l), .string ⟨#[13]⟩] w fun e w' => e = .returned (.int .i64 (idx 13 l)) ∧ w = w') := by
    have h := index13_any (mk l) w
    rw [mk_data] at h
    exact h
  cases hh : has 13 l
  · have hi := idx_no hh
    rw [hi] at HI
    go_enter Tryd.func17, Tryd.ntmps17
    go_wp2_with (first | (go_at_call 35; refine HI.out.mono ?_; rintro e w' ⟨rfl, rfl⟩))
    go_ret
    exact ⟨rfl, rfl⟩
  · have hi := idx_yes hh
    obtain ⟨n, hn⟩ : ∃ n : Nat, n = (l.takeWhile (· != 13)).length := ⟨_, rfl⟩
    rw [hi, ← hn] at HI
    clear hi hn
    have hd : decide (0 ≤ (n : Int)) = true := by simp
    go_enter Tryd.func17, Tryd.ntmps17
    go_wp2_with (first | (go_at_call 35; refine HI.out.mono ?_; rintro e w' ⟨rfl, rfl⟩))
    go_ret
    exact ⟨by simp, rfl⟩

theorem sufL_any (l : Ln) (c : UInt8) (w : World) (hs : l.length ≤ 140737488355328) : Calls Tryd.prog 58 #[.string (mk l), .string ⟨#[c]⟩] w fun e w' => e = .returned (.bool (l.getLast? == some c)) ∧ w = w' := by
  have hz : (⟨#[c]⟩ : ByteArray).size = 1 := rfl
  have hc : (⟨#[c]⟩ : ByteArray).toList = [c] := by rw [ByteArray.toList_eq]
  by_cases h0 : l = []
  · subst h0
    have hsz : (mk []).size = 0 := rfl
    go_enter Tryd.func58, Tryd.ntmps58
    go_wp2
    go_ret
    exact ⟨rfl, rfl⟩
  · obtain ⟨r, b, rfl⟩ := snoc_ex l h0
    have hsz : (mk (r ++ [b])).size = r.length + 1 := by rw [mk_size]; simp
    have hsl : r.length + 1 ≤ 140737488355328 := by simpa using hs
    have hx : ((mk (r ++ [b])).extract r.length (r.length + 1)).toList = [b] := by rw [ByteArray.toList_eq, mk_ext, mk_data]; simp
    go_enter Tryd.func58, Tryd.ntmps58
    go_wp2
    go_ret
    refine ⟨?_, rfl⟩
    simp [hx, hc]
theorem suf_any (l : Ln) (c : UInt8) (w : World) (hs : l.length ≤ 140737488355328) : Calls Tryd.prog 37 #[.string (mk l), .string ⟨#[c]⟩] w fun e w' => e = .returned (.bool (l.getLast? == some c)) ∧ w = w' := by
  go_enter Tryd.func37, Tryd.ntmps37
  go_wp2_with (first | (go_at_call 58; refine (sufL_any _ _ _ hs).mono ?_; rintro e w' ⟨rfl, rfl⟩))
  go_ret
  exact ⟨rfl, rfl⟩
def two10 (l : Ln) : Bool := chC l == 2
theorem two_ne (b c : UInt8) (Z : Ln) : two10 (Z ++ [b] ++ [c]) = ([b, c] == [10, 10]) := by
  unfold two10
  by_cases hc : c = 10
  · subst hc
    by_cases hb : b = 10
    · subst hb; rw [chC_keep]; rfl
    · rw [chC_clip Z b hb]; simp [hb]
  · rw [chC_one _ c hc]; simp [hc]
theorem suf2L_any (l : Ln) (w : World) (hs : l.length ≤ 140737488355328) : Calls Tryd.prog 58 #[.string (mk l), .string ⟨#[10, 10]⟩] w fun e w' => e = .returned (.bool (two10 l)) ∧ w = w' := by
  by_cases h0 : l = []
  · subst h0
    have hsz : (mk []).size = 0 := rfl
    go_enter Tryd.func58, Tryd.ntmps58
    go_wp2
    go_ret
    exact ⟨rfl, rfl⟩
  · obtain ⟨r, b, rfl⟩ := snoc_ex l h0
    by_cases h1 : r = []
    · subst h1
      have e0 : ([] ++ [b] : Ln) = [b] := rfl
      rw [e0] at hs ⊢
      have hsz : (mk [b]).size = 1 := rfl
      have HT : Hid (two10 [b] = false) := by
        unfold two10
        by_cases hb : b = 10
        · subst hb; exact (by decide : (chC [10] == 2) = false)
        · have := chC_one [] b hb
          rw [List.nil_append] at this
          rw [this]; exact rfl
      clear e0
      go_enter Tryd.func58, Tryd.ntmps58
      go_wp2
      go_ret
      exact ⟨by rw [HT.out]; rfl, rfl⟩
    · obtain ⟨q, a, rfl⟩ := snoc_ex r h1
      have hsz : (mk (q ++ [a] ++ [b])).size = q.length + 2 := by rw [mk_size]; simp
      have hsl : q.length + 2 ≤ 140737488355328 := by simpa using hs
      have hx : ((mk (q ++ [a] ++ [b])).extract q.length (q.length + 2)).toList = [a, b] := by rw [ByteArray.toList_eq, mk_ext, mk_data]; simp
      have HT : Hid (two10 (q ++ [a] ++ [b]) = ([a, b] == [10, 10])) := two_ne a b q
      generalize q ++ [a] ++ [b] = L at *
      go_enter Tryd.func58, Tryd.ntmps58
      go_wp2
      go_ret
      refine ⟨?_, rfl⟩
      rw [HT.out]
      simp [hx]
theorem suf2_any (l : Ln) (w : World) (hs : l.length ≤ 140737488355328) : Calls Tryd.prog 37 #[.string (mk l), .string ⟨#[10, 10]⟩] w fun e w' => e = .returned (.bool (two10 l)) ∧ w = w' := by
  go_enter Tryd.func37, Tryd.ntmps37
  go_wp2_with (first | (go_at_call 58; refine (suf2L_any _ _ hs).mono ?_; rintro e w' ⟨rfl, rfl⟩))
  go_ret
  exact ⟨rfl, rfl⟩
theorem chC_cases (l : Ln) : chC l = if two10 l = true then 2 else if (l.getLast? == some 10) = true then 0 else 1 := by
  unfold two10
  by_cases h0 : l = []
  · subst h0; decide
  obtain ⟨r, b, rfl⟩ := snoc_ex l h0
  by_cases hb : b = 10
  · subst hb
    by_cases h1 : r = []
    · subst h1; decide
    obtain ⟨q, a, rfl⟩ := snoc_ex r h1
    by_cases ha : a = 10
    · subst ha; rw [chC_keep]; rfl
    · rw [chC_clip q a ha]; simp
  · rw [chC_one r b hb]; simp [hb]
theorem chompOf_any (l : Ln) (w : World) (hs : l.length ≤ 140737488355328) : Calls Tryd.prog 19 #[.string (mk l)] w fun e w' => e = .returned (.int .i64 (chC l)) ∧ w = w' := by
  have HC : Hid (chC l = if two10 l = true then 2 else if (l.getLast? == some 10) = true then 0 else 1) := chC_cases l
  cases h2 : two10 l
  · cases h1 : (l.getLast? == some 10)
    · rw [h2, h1] at HC
      go_enter Tryd.func19, Tryd.ntmps19
      go_wp2_with (first | (go_at_call 37; first | (refine (suf2_any _ _ hs).mono ?_; rintro e w' ⟨rfl, rfl⟩; rw [h2]) | (refine (suf_any _ 10 _ hs).mono ?_; rintro e w' ⟨rfl, rfl⟩; rw [h1])))
      go_ret
      rw [HC.out]
      exact ⟨rfl, rfl⟩
    · rw [h2, h1] at HC
      go_enter Tryd.func19, Tryd.ntmps19
      go_wp2_with (first | (go_at_call 37; first | (refine (suf2_any _ _ hs).mono ?_; rintro e w' ⟨rfl, rfl⟩; rw [h2]) | (refine (suf_any _ 10 _ hs).mono ?_; rintro e w' ⟨rfl, rfl⟩; rw [h1])))
      go_ret
      rw [HC.out]
      exact ⟨rfl, rfl⟩
  · rw [h2] at HC
    go_enter Tryd.func19, Tryd.ntmps19
    go_wp2_with (first | (go_at_call 37; first | (refine (suf2_any _ _ hs).mono ?_; rintro e w' ⟨rfl, rfl⟩; rw [h2])))
    go_ret
    rw [HC.out]
    exact ⟨rfl, rfl⟩

end Go.Proofs.YtoamfmockinknaaDoor.Blk
