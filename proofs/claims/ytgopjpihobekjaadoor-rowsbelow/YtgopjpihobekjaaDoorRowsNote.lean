/- rows.Note, by its contract. -/
import Derived.Test.YtgopjpihobekjaaDoorRowsRow
namespace Go.Proofs.YtgopjpihobekjaaDoor.Rws
open Utf
open Go.RowKit
set_option linter.unusedSimpArgs false
set_option linter.unusedVariables false
set_option maxRecDepth 100000

theorem mk_getD (l : List UInt8) (k : Nat) (h : k < (mk l).size) : (mk l)[k]'h = l.getD k 0 := by
  rw [mk_get, List.getD_eq_getElem?_getD, List.getElem?_eq_getElem (by rw [mk_size] at h; exact h)]; rfl

theorem take_snoc (l : List UInt8) (e : Nat) (h : e < l.length) : l.take (e + 1) = l.take e ++ [l.getD e 0] := by
  rw [List.take_succ_eq_append_getElem h, List.getD_eq_getElem?_getD, List.getElem?_eq_getElem h]; rfl

theorem b35' (b : UInt8) : ((b.toNat : Int) == 35) = (b == 35) := b35 b

theorem note_any (l : List UInt8) (w : World) (hs : l.length ≤ 140737488355328) : Calls Tryd.prog 15 #[.string (mk l)] w fun e w' => e = .returned (.string (mk (note l))) ∧ w = w' := by
  have hsz := mk_size l
  go_enter Tryd.func15, Tryd.ntmps15
  go_wp2
  go_loop [0, 7] (fun u i => ∃ n : Nat, n ≤ l.length ∧ u = .string (mk l) ∧ i = .int .i64 n ∧ hx true l = n + hx (at0 l n) (l.drop n)) (fun _ i => l.length - (intOf i).toNat)
  case atStart => exact ⟨0, Nat.zero_le _, rfl, rfl, by simp [at0]⟩
  case round =>
    obtain ⟨n, hn, rfl, rfl, ht⟩ := hrel
    have HT : Hid (hx true l = n + hx (at0 l n) (l.drop n)) := ht
    clear ht
    by_cases hlt : n < l.length
    · have hx0 := hx_at l n hlt
      have hg : ∀ h, (mk l)[n]'h = l.getD n 0 := fun h => mk_getD l n h
      have hb := b35' (l.getD n 0)
      have hlt' : n < (mk l).size := by rw [mk_size]; exact hlt
      cases hq : (l.getD n 0 == 35 && at0 l n)
      · -- no note begins here
        rw [hq] at hx0
        have HX0 : hx (at0 l n) (l.drop n) = hx (at0 l (n + 1)) (l.drop (n + 1)) + 1 := by simpa using hx0
        have HX : Hid (hx (at0 l n) (l.drop n) = hx (at0 l (n + 1)) (l.drop (n + 1)) + 1) := HX0
        clear HX0
        clear hx0
        cases h35 : (l.getD n 0 == 35)
        · rw [h35] at hb
          clear hq
          generalize l.getD n 0 = b at hg hb
          go_wp2
          go_round
          case rel => exact ⟨n + 1, by omega, rfl, by go_num, by rw [HT.out, HX.out]; omega⟩
          case measure => simp [intOf]; omega
        · rw [h35] at hb
          rw [h35, Bool.true_and] at hq
          have hn0 : n ≠ 0 := by rintro rfl; simp [at0] at hq
          obtain ⟨m, rfl⟩ : ∃ m, n = m + 1 := ⟨n - 1, by omega⟩
          have hsp : sp (l.getD m 0) = false := by simpa [at0] using hq
          have hlm : m < (mk l).size := by omega
          have hg2 : ∀ h, (mk l)[m]'h = l.getD m 0 := fun h => mk_getD l m h
          clear hq h35
          generalize l.getD (m + 1) 0 = b at hg hb
          generalize l.getD m 0 = b2 at hg2 hsp
          go_wp2_with (first | (go_at_call 25; refine (isSpace_any _ _).mono ?_; rintro e w' ⟨rfl, rfl⟩))
          go_round
          case rel => exact ⟨m + 1 + 1, by omega, rfl, by go_num, by rw [HT.out, HX.out]; omega⟩
          case measure => simp [intOf]; omega
      · rw [hq] at hx0
        have HX0 : hx true l = n := by have := HT.out; rw [hx0] at this; simpa using this
        have HX : Hid (hx true l = n) := HX0
        clear HX0
        clear hx0 HT
        have h35 : (l.getD n 0 == 35) = true := by simp only [Bool.and_eq_true] at hq; exact hq.1
        have hat : at0 l n = true := by simp only [Bool.and_eq_true] at hq; exact hq.2
        rw [h35] at hb
        clear hq h35
        obtain ⟨M, HM⟩ : ∃ M, Hid (M = l.take n) := ⟨_, rfl⟩
        have hMl : (mk M).size = M.length := mk_size M
        have hMn : M.length = n := by rw [HM.out, List.length_take]; omega
        have hex : (mk l).extract 0 n = mk M := by rw [mk_ext, HM.out]; simp
        have FIN : note l = trR sp M := by unfold note; rw [HX.out, HM.out]
        have HF : Hid (note l = trR sp M) := FIN
        clear FIN
        by_cases hn0 : n = 0
        · subst hn0
          generalize l.getD 0 0 = b at hg hb
          clear hat
          have H0 : Hid (mk (note l) = ByteArray.empty) := by
            have e : note l = [] := by rw [HF.out, HM.out]; rfl
            rw [e]; exact rfl
          clear hex hMl hMn HM HF
          go_wp2
          go_loop [4] (fun e => e = .int .i64 0) (fun _ => 0)
          case atStart => exact rfl
          case round =>
            obtain rfl := hrel
            go_wp2
            go_ret
            rw [H0.out]
            exact ⟨rfl, rfl⟩
        · obtain ⟨m, rfl⟩ : ∃ m, n = m + 1 := ⟨n - 1, by omega⟩
          have hsp : sp (l.getD m 0) = true := by simpa [at0] using hat
          have hlm : m < (mk l).size := by omega
          have hg2 : ∀ h, (mk l)[m]'h = l.getD m 0 := fun h => mk_getD l m h
          clear hat
          generalize l.getD (m + 1) 0 = b at hg hb
          generalize l.getD m 0 = b2 at hg2 hsp
          go_wp2_with (first | (go_at_call 25; refine (isSpace_any _ _).mono ?_; rintro e w' ⟨rfl, rfl⟩))
          go_loop [4] (fun e => ∃ n : Nat, n ≤ M.length ∧ e = .int .i64 n ∧ trR sp M = trR sp (M.take n)) (fun e => (intOf e).toNat)
          case atStart => exact ⟨M.length, Nat.le_refl _, by first | rfl | (congr 1; omega) | (simp; omega), by rw [List.take_length]⟩
          case round =>
            obtain ⟨n, hn, rfl, ht⟩ := hrel
            have HT : Hid (trR sp M = trR sp (M.take n)) := ht
            clear ht
            cases n with
            | zero =>
              go_wp2
              go_ret
              have e1 : ByteArray.empty = mk [] := rfl
              have e2 : trR sp M = [] := HT.out
              rw [HF.out, e2]
              exact ⟨ret_str e1, rfl⟩
            | succ n =>
              have hlt : n < (mk M).size := by rw [mk_size]; omega
              have hle2 : n + 1 ≤ 140737488355328 := by omega
              have hg : ∀ h, (mk M)[n]'h = M.getD n 0 := fun h => mk_getD M n h
              have hte := take_snoc M n (by omega)
              have HG : Hid (M.take (n + 1) = M.take n ++ [M.getD n 0]) := hte
              clear hte
              generalize M.getD n 0 = b at hg HG
              cases hb : sp b
              · have HN : Hid (trR sp (M.take n ++ [b]) = M.take n ++ [b]) := by rw [trR_snoc, hb]; rfl
                go_wp2_with (first | (go_at_call 25; refine (isSpace_any _ _).mono ?_; rintro e w' ⟨rfl, rfl⟩))
                go_ret
                have e1 : (mk M).extract 0 (n + 1) = mk (M.take (n + 1)) := by rw [mk_ext]; simp
                have e2 : trR sp M = M.take (n + 1) := by rw [HT.out, HG.out, HN.out]
                rw [HF.out, e2]
                exact ⟨ret_str e1, rfl⟩
              · have HN : Hid (trR sp (M.take n ++ [b]) = trR sp (M.take n)) := by rw [trR_snoc, hb]; rfl
                go_wp2_with (first | (go_at_call 25; refine (isSpace_any _ _).mono ?_; rintro e w' ⟨rfl, rfl⟩))
                go_round
                case rel => exact ⟨n, by omega, by go_num, by rw [HT.out, HG.out, HN.out]⟩
                case measure => simp [intOf]
    · obtain rfl : n = l.length := by omega
      obtain ⟨M, HM⟩ : ∃ M, Hid (M = l) := ⟨_, rfl⟩
      have HF : Hid (note l = trR sp M) := by
        have h1 := HT.out
        rw [List.drop_of_length_le (Nat.le_refl _)] at h1
        have h2 : hx true l = l.length := h1
        rw [HM.out]; unfold note; rw [h2, List.take_length]
        exact rfl
      have hl := HM.out
      subst hl
      go_wp2
      go_loop [4] (fun e => ∃ n : Nat, n ≤ M.length ∧ e = .int .i64 n ∧ trR sp M = trR sp (M.take n)) (fun e => (intOf e).toNat)
      case atStart => exact ⟨M.length, Nat.le_refl _, by first | rfl | (congr 1; omega) | (simp; omega), by rw [List.take_length]⟩
      case round =>
        obtain ⟨n, hn, rfl, ht⟩ := hrel
        have HT : Hid (trR sp M = trR sp (M.take n)) := ht
        clear ht
        cases n with
        | zero =>
          go_wp2
          go_ret
          have e1 : ByteArray.empty = mk [] := rfl
          have e2 : trR sp M = [] := HT.out
          rw [HF.out, e2]
          exact ⟨ret_str e1, rfl⟩
        | succ n =>
          have hlt : n < (mk M).size := by rw [mk_size]; omega
          have hle2 : n + 1 ≤ 140737488355328 := by omega
          have hg : ∀ h, (mk M)[n]'h = M.getD n 0 := fun h => mk_getD M n h
          have hte := take_snoc M n (by omega)
          have HG : Hid (M.take (n + 1) = M.take n ++ [M.getD n 0]) := hte
          clear hte
          generalize M.getD n 0 = b at hg HG
          cases hb : sp b
          · have HN : Hid (trR sp (M.take n ++ [b]) = M.take n ++ [b]) := by rw [trR_snoc, hb]; rfl
            go_wp2_with (first | (go_at_call 25; refine (isSpace_any _ _).mono ?_; rintro e w' ⟨rfl, rfl⟩))
            go_ret
            have e1 : (mk M).extract 0 (n + 1) = mk (M.take (n + 1)) := by rw [mk_ext]; simp
            have e2 : trR sp M = M.take (n + 1) := by rw [HT.out, HG.out, HN.out]
            rw [HF.out, e2]
            exact ⟨ret_str e1, rfl⟩
          · have HN : Hid (trR sp (M.take n ++ [b]) = trR sp (M.take n)) := by rw [trR_snoc, hb]; rfl
            go_wp2_with (first | (go_at_call 25; refine (isSpace_any _ _).mono ?_; rintro e w' ⟨rfl, rfl⟩))
            go_round
            case rel => exact ⟨n, by omega, by go_num, by rw [HT.out, HG.out, HN.out]⟩
            case measure => simp [intOf]

end Go.Proofs.YtgopjpihobekjaaDoor.Rws
