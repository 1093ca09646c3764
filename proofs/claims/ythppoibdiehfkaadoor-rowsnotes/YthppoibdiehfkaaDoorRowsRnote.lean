/- grommetref02.Note, by its contract; the walk of RowsNotes. -/
import Derived.Test.YthppoibdiehfkaaDoorRowsAlive
namespace Go.Proofs.YthppoibdiehfkaaDoor.Rws
open Utf
open Go.RowKit
set_option linter.unusedSimpArgs false
set_option linter.unusedVariables false
set_option maxRecDepth 100000

set_option maxHeartbeats 1000000 in
theorem rnote_any (l : List UInt8) (w : World) (hs : l.length ≤ 140737488355328) : Calls Tryd.prog 23 #[.string (mk l)] w fun e w' => e = .returned (.string (mk (note l))) ∧ w = w' := by
  have hsz := mk_size l
  have hh := hx_le true l
  go_enter Tryd.func23, Tryd.ntmps23
  go_wp2
  go_loop [3, 4] (fun e i => ∃ n : Nat, n ≤ l.length ∧ i = .int .i64 ((n : Int) - 1) ∧ ∃ q : Nat, e = .int .i64 q ∧ q = n + hx (at0 l n) (l.drop n)) (fun _ i => ((intOf i) + 1).toNat)
  case atStart => exact ⟨l.length, Nat.le_refl _, by first | rfl | simp, l.length, by first | rfl | simp, by rw [List.drop_of_length_le (Nat.le_refl _)]; simp [hx]⟩
  case round =>
    obtain ⟨n, hn, rfl, q, rfl, hq⟩ := hrel
    have HQ : Hid (q = n + hx (at0 l n) (l.drop n)) := hq
    clear hq
    cases n with
    | zero =>
      have HF : Hid (note l = trR sp (l.take q)) := by
        have e : q = hx true l := by rw [HQ.out]; simp [at0]
        unfold note; rw [e]; exact rfl
      have hql : q ≤ l.length := by have := HQ.out; simp [at0] at this; omega
      clear HQ
      go_wp2
      go_loop [3] (fun e => ∃ n : Nat, n ≤ l.length ∧ e = .int .i64 n ∧ trR sp (l.take q) = trR sp (l.take n)) (fun e => (intOf e).toNat)
      case atStart => exact ⟨q, hql, rfl, rfl⟩
      case round =>
        obtain ⟨n, hn, rfl, ht⟩ := hrel
        have HT : Hid (trR sp (l.take q) = trR sp (l.take n)) := ht
        clear ht
        cases n with
        | zero =>
          go_wp2
          go_ret
          have e1 : ByteArray.empty = mk [] := rfl
          have e2 : note l = [] := by rw [HF.out, HT.out]; rfl
          rw [e2]
          exact ⟨ret_str e1, rfl⟩
        | succ n =>
          have hlt : n < (mk l).size := by rw [mk_size]; omega
          have hg : ∀ h, (mk l)[n]'h = l.getD n 0 := fun h => mk_getD l n h
          have HG : Hid (l.take (n + 1) = l.take n ++ [l.getD n 0]) := take_snoc l n (by omega)
          generalize l.getD n 0 = b at hg HG
          have hb32 := b32' b
          have hb9 := b9 b
          have hnn : 0 < n + 1 := by omega
          cases h32 : (b == 32)
          · rw [h32] at hb32
            cases h9 : (b == 9)
            · rw [h9] at hb9
              have HN : Hid (trR sp (l.take n ++ [b]) = l.take n ++ [b]) := by rw [trR_snoc]; unfold sp; rw [h32, h9]; rfl
              clear h32 h9
              go_wp2
              go_ret
              have e1 : (mk l).extract 0 (n + 1) = mk (l.take (n + 1)) := by rw [mk_ext]; simp
              have e2 : note l = l.take (n + 1) := by rw [HF.out, HT.out, HG.out, HN.out]
              rw [e2]
              exact ⟨ret_str e1, rfl⟩
            · rw [h9] at hb9
              have HN : Hid (trR sp (l.take n ++ [b]) = trR sp (l.take n)) := by rw [trR_snoc]; unfold sp; rw [h32, h9]; rfl
              clear h32 h9
              go_wp2
              go_round
              case rel => exact ⟨n, by omega, by go_num, by rw [HT.out, HG.out, HN.out]⟩
              case measure => simp [intOf]
          · rw [h32] at hb32
            have HN : Hid (trR sp (l.take n ++ [b]) = trR sp (l.take n)) := by rw [trR_snoc]; unfold sp; rw [h32]; rfl
            clear h32
            go_wp2
            go_round
            case rel => exact ⟨n, by omega, by go_num, by rw [HT.out, HG.out, HN.out]⟩
            case measure => simp [intOf]
    | succ m =>
      have hlt : m < (mk l).size := by rw [mk_size]; omega
      have hx0 := hx_at l m (by omega)
      have hg : ∀ h, (mk l)[m]'h = l.getD m 0 := fun h => mk_getD l m h
      have hb := b35' (l.getD m 0)
      have hmm : ((m + 1 : Nat) : Int) - 1 = m := by omega
      rw [hmm]
      clear hmm
      cases hq : (l.getD m 0 == 35 && at0 l m)
      · rw [hq] at hx0
        have HX0 : hx (at0 l m) (l.drop m) = hx (at0 l (m + 1)) (l.drop (m + 1)) + 1 := by simpa using hx0
        have HE : q = m + hx (at0 l m) (l.drop m) := by have := HQ.out; omega
        have HX : Hid (q = m + hx (at0 l m) (l.drop m)) := HE
        clear HE
        clear HX0 hx0 HQ
        cases h35 : (l.getD m 0 == 35)
        · rw [h35] at hb
          clear hq
          generalize l.getD m 0 = b at hg hb
          go_wp2
          go_round
          case rel => exact ⟨m, by omega, by go_num, q, rfl, HX.out⟩
          case measure => (simp [intOf] <;> omega)
        · rw [h35] at hb
          rw [h35, Bool.true_and] at hq
          have hn0 : m ≠ 0 := by rintro rfl; simp [at0] at hq
          obtain ⟨k, rfl⟩ : ∃ k, m = k + 1 := ⟨m - 1, by omega⟩
          have hsp : sp (l.getD k 0) = false := by simpa [at0] using hq
          have hlm : k < (mk l).size := by omega
          have hg2 : ∀ h, (mk l)[k]'h = l.getD k 0 := fun h => mk_getD l k h
          clear hq h35
          generalize l.getD (k + 1) 0 = b at hg hb
          generalize l.getD k 0 = b2 at hg2 hsp
          have c1 := b32' b2
          have c2 := b9 b2
          have h32 : (b2 == 32) = false := by unfold sp at hsp; cases h : (b2 == 32) <;> simp_all
          have h9 : (b2 == 9) = false := by unfold sp at hsp; cases h : (b2 == 9) <;> simp_all
          rw [h32] at c1
          rw [h9] at c2
          clear h32 h9 hsp
          go_wp2
          go_round
          case rel => exact ⟨k + 1, by omega, by go_num, q, rfl, HX.out⟩
          case measure => (simp [intOf] <;> omega)
      · rw [hq] at hx0
        have HX : Hid (m = m + hx (at0 l m) (l.drop m)) := by rw [hx0]; simp [Hid]
        clear hx0 HQ
        have h35 : (l.getD m 0 == 35) = true := by simp only [Bool.and_eq_true] at hq; exact hq.1
        have hat : at0 l m = true := by simp only [Bool.and_eq_true] at hq; exact hq.2
        rw [h35] at hb
        clear hq h35
        by_cases hm0 : m = 0
        · subst hm0
          generalize l.getD 0 0 = b at hg hb
          clear hat
          go_wp2
          go_round
          case rel => exact ⟨0, by omega, by go_num, 0, by first | rfl | simp, HX.out⟩
          case measure => simp [intOf]
        · obtain ⟨k, rfl⟩ : ∃ k, m = k + 1 := ⟨m - 1, by omega⟩
          have hsp : sp (l.getD k 0) = true := by simpa [at0] using hat
          have hlm : k < (mk l).size := by omega
          have hg2 : ∀ h, (mk l)[k]'h = l.getD k 0 := fun h => mk_getD l k h
          clear hat
          generalize l.getD (k + 1) 0 = b at hg hb
          generalize l.getD k 0 = b2 at hg2 hsp
          have c1 := b32' b2
          have c2 := b9 b2
          cases h32 : (b2 == 32)
          · have h9 : (b2 == 9) = true := by unfold sp at hsp; rw [h32] at hsp; simpa using hsp
            rw [h32] at c1
            rw [h9] at c2
            clear h32 h9 hsp
            go_wp2
            go_round
            case rel => exact ⟨k + 1, by omega, by go_num, k + 1, by first | rfl | simp, HX.out⟩
            case measure => (simp [intOf] <;> omega)
          · rw [h32] at c1
            clear h32 hsp
            go_wp2
            go_round
            case rel => exact ⟨k + 1, by omega, by go_num, k + 1, by first | rfl | simp, HX.out⟩
            case measure => (simp [intOf] <;> omega)

theorem notes_any (s : ByteArray) (w : World) (hs : s.size ≤ 140737488351232) : Calls Tryd.prog 5 #[.string s] w fun e w' => e = .returned (.bool true) ∧ Below w.heap.size w w' := by
  obtain ⟨l, rfl⟩ := mk_ex s
  rw [mk_size] at hs
  go_enter Tryd.func5, Tryd.ntmps5
  go_wp2_with fail
  refine (note_any l _ (by omega)).mono ?_
  rintro e w' ⟨rfl, rfl⟩
  go_wp2_with fail
  refine (rnote_any l _ (by omega)).mono ?_
  rintro e w' ⟨rfl, rfl⟩
  go_wp2_with fail
  refine (alive_any _).mono ?_
  rintro e w1 ⟨rfl, hb⟩
  go_wp2
  go_ret
  exact ⟨rfl, hb⟩

end Go.Proofs.YthppoibdiehfkaaDoor.Rws
