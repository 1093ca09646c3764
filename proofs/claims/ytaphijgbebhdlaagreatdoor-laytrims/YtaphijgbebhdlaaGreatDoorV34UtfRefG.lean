/- Several texts as one: UtfRefG, UtfRef2, UtfRef3a, UtfEncd, UtfRef4g, UtfRdec. -/
import Derived.Test.YtaphijgbebhdlaaGreatDoorV02UtfLeaf
import Derived.Test.YtaphijgbebhdlaaGreatDoorV05FlowCore
import Derived.Test.YtaphijgbebhdlaaGreatDoorV00UtfPlain
import Derived.BigQuiet
import Derived.Deep.QuietTactic
import Derived.Test.YtaphijgbebhdlaaGreatDoorV01RowsPlain
section
/- The reference's small functions: Sign, Printable, bytes, guess, begins, First, by their contracts. -/
namespace Go.Proofs.YtaphijgbebhdlaaGreatDoor.Utf
open Go.RowKit
set_option linter.unusedSimpArgs false
set_option linter.unusedVariables false

theorem ret_bool {a b : Bool} (h : a = b) : Ending.returned (.bool a) = .returned (.bool b) := by rw [h]

theorem rsign_any (n : Int) (w : World) : Calls Tryz.prog 132 #[.int .i64 n] w fun e w' => e = .returned (.bool (sgn n)) ∧ w = w' := by
  have hs : Hid (sgn n = (decide (0 ≤ n) && decide (n ≤ 1114111) && !(decide (55296 ≤ n) && decide (n ≤ 57343)))) := rfl
  rcases (show n < 0 ∨ 1114111 < n ∨ (0 ≤ n ∧ n < 55296) ∨ (55296 ≤ n ∧ n ≤ 57343) ∨ (57343 < n ∧ n ≤ 1114111) by omega) with h | h | h | h | h
  · have e : sgn n = false := by rw [hs.out]; simp; omega
    rw [e]; clear e hs
    go_enter Tryz.func132, Tryz.ntmps132
    go_wp2
    go_ret
    exact ⟨ret_bool (by first | rfl | (simp; omega)), rfl⟩
  · have e : sgn n = false := by rw [hs.out]; simp; omega
    rw [e]; clear e hs
    have h0 : 0 ≤ n := by omega
    go_enter Tryz.func132, Tryz.ntmps132
    go_wp2
    go_ret
    exact ⟨ret_bool (by first | rfl | (simp; omega)), rfl⟩
  · have e : sgn n = true := by rw [hs.out]; simp; omega
    rw [e]; clear e hs
    obtain ⟨h1, h2⟩ := h
    go_enter Tryz.func132, Tryz.ntmps132
    go_wp2
    go_ret
    exact ⟨ret_bool (by first | rfl | (simp; omega)), rfl⟩
  · have e : sgn n = false := by rw [hs.out]; simp; omega
    rw [e]; clear e hs
    obtain ⟨h1, h2⟩ := h
    go_enter Tryz.func132, Tryz.ntmps132
    go_wp2
    go_ret
    exact ⟨ret_bool (by first | rfl | (simp; omega)), rfl⟩
  · have e : sgn n = true := by rw [hs.out]; simp; omega
    rw [e]; clear e hs
    obtain ⟨h1, h2⟩ := h
    go_enter Tryz.func132, Tryz.ntmps132
    go_wp2
    go_ret
    exact ⟨ret_bool (by first | rfl | (simp; omega)), rfl⟩

theorem rbytes_any (n : Int) (w : World) (h0 : 0 ≤ n) (h1 : n ≤ 1114111) : Calls Tryz.prog 133 #[.int .i64 n] w fun e w' =>
    e = .returned (.slice (some ⟨w.heap.size, 0, none⟩) (byt n).length (byt n).length) ∧ w.alloc (.cells ((byt n).map (Value.int .u8)).toArray 5) = w' := by
  rcases byt_parts h0 h1 with ⟨e, c⟩ | ⟨e, c, c'⟩ | ⟨e, c, c'⟩ | ⟨e, c⟩ <;> rw [e] <;> clear e
  all_goals
    go_enter Tryz.func133, Tryz.ntmps133
    go_wp2
    go_ret
    exact ⟨rfl, rfl⟩

end Go.Proofs.YtaphijgbebhdlaaGreatDoor.Utf
end

section
/- The reference's guess, begins, First, by their contracts. -/
namespace Go.Proofs.YtaphijgbebhdlaaGreatDoor.Utf
open Go.RowKit
set_option linter.unusedSimpArgs false
set_option linter.unusedVariables false

def fb (m : Nat) : Int := if m = 1 then 0 else if m = 2 then 192 else if m = 3 then 224 else 240
def gss (l : List UInt8) (m : Nat) : Nat → Int
  | 0 => ((l.getD 0 0).toNat : Int) - fb m
  | k + 1 => gss l m k * 64 + ((l.getD (k + 1) 0).toNat : Int) - 128
theorem fb_bd (m : Nat) : 0 ≤ fb m ∧ fb m ≤ 240 := by
  unfold fb; split; · decide
  split; · decide
  split <;> decide
theorem gss_bd (l : List UInt8) (m k : Nat) (hk : k ≤ 3) : -100000000 ≤ gss l m k ∧ gss l m k ≤ 100000000 := by
  have hf := fb_bd m
  have b0 := (l.getD 0 0).toNat_lt
  have b1 := (l.getD 1 0).toNat_lt
  have b2 := (l.getD 2 0).toNat_lt
  have b3 := (l.getD 3 0).toNat_lt
  rcases (show k = 0 ∨ k = 1 ∨ k = 2 ∨ k = 3 by omega) with rfl | rfl | rfl | rfl <;> simp only [gss, Nat.zero_add, Nat.reduceAdd] <;> omega

set_option maxHeartbeats 1000000 in
theorem guess_any (s : ByteArray) (m : Nat) (w : World) (hs : s.size ≤ maxLen) (h1 : 1 ≤ m) (h4 : m ≤ 4) (hm : m ≤ s.size) :
    Calls Tryz.prog 131 #[.string s, .int .i64 m] w fun e w' => e = .returned (.int .i64 (gss s.data.toList m (m - 1))) ∧ Below w.heap.size w w' := by
  unfold maxLen at hs
  have hd := getD_byte s 0 (by omega)
  have hb0 : (s[0].toNat : Int) < 256 := by have := s[0].toNat_lt; omega
  have hp : 0 < s.size := by omega
  have H0 : Hid (gss s.data.toList m 0 = (s[0].toNat : Int) - fb m) := by show _ = _; rw [← hd]; rfl
  clear hd
  have hcell : (w.alloc (Obj.cells #[Value.int IntKind.i64 0, Value.int IntKind.i64 0, Value.int IntKind.i64 192, Value.int IntKind.i64 224, Value.int IntKind.i64 240] 3)).cell? ⟨w.heap.size, m, none⟩ = some (.int .i64 (fb m)) := by
    rw [cell_of_row _ w.heap.size m _ 3 (0, 0) (heap_alloc_new w _)]
    rcases (show m = 1 ∨ m = 2 ∨ m = 3 ∨ m = 4 by omega) with rfl | rfl | rfl | rfl <;> rfl
  have hfb := fb_bd m
  go_enter Tryz.func131, Tryz.ntmps131
  go_wp2
  go_quiet (fail)
  go_wp2
  clear hcell
  go_loop [6, 7] (fun g i => ∃ k : Nat, 1 ≤ k ∧ k ≤ m ∧ i = .int .i64 k ∧ g = .int .i64 (gss s.data.toList m (k - 1))) (fun _ i => (4 - intOf i).toNat)
  case atStart => exact ⟨1, by omega, by omega, rfl, by rw [← H0.out]⟩
  case round =>
    obtain ⟨k, hk1, hk2, rfl, rfl⟩ := hrel
    have hg := gss_bd s.data.toList m (k - 1) (by omega)
    by_cases hlt : k < m
    · have hks : k < s.size := by omega
      have hbk : (s[k].toNat : Int) < 256 := by have := s[k].toNat_lt; omega
      have HS : Hid (gss s.data.toList m k = gss s.data.toList m (k - 1) * 64 + (s[k].toNat : Int) - 128) := by
        rw [← getD_byte s k hks]
        obtain ⟨j, rfl⟩ : ∃ j, k = j + 1 := ⟨k - 1, by omega⟩
        rfl
      go_wp2
      go_round
      case rel => exact ⟨k + 1, by omega, by omega, by go_num, by rw [Nat.add_sub_cancel, HS.out]⟩
      case measure => simp [intOf]; omega
    · go_wp2
      go_ret
      have e : k = m := by omega
      subst e
      exact ⟨rfl, below_drewN ((Below.refl _ _).alloc (Nat.le_refl _) _) _⟩

theorem strOf_extract (s : ByteArray) (k : Nat) (h : k ≤ s.size) : (s.extract 0 k).toList = s.data.toList.take k := by
  have e : s = ⟨s.data.toList.toArray⟩ := by simp
  rw [ByteArray.toList_eq]
  conv => lhs; rw [e]
  rw [ByteArray.extract_mk]
  simp

def pref (n : Int) (l : List UInt8) : Bool := l.take (byt n).length == u8s (byt n)

theorem begins_any (s : ByteArray) (n : Int) (w : World) (hs : s.size ≤ maxLen) (h0 : 0 ≤ n) (h1 : n ≤ 1114111) (hl : (byt n).length ≤ s.size) :
    Calls Tryz.prog 134 #[.string s, .int .i64 n] w fun e w' => e = .returned (.bool (pref n s.data.toList)) ∧ Below w.heap.size w w' := by
  have hx := strOf_extract s _ hl
  have hsz := strOfNums_size (byt n)
  have hcv : ∀ w : World, (convert 65 9 (.slice (some ⟨w.heap.size, 0, none⟩) (byt n).length (byt n).length)).run Tryz.prog (w.alloc (.cells ((byt n).map (Value.int .u8)).toArray 5)) = .ok (.string (strOfNums (byt n))) (w.alloc (.cells ((byt n).map (Value.int .u8)).toArray 5)) := by
    intro w
    refine run_convert_bytes_arg _ 65 5 Tryz.underlying65 Tryz.underlying5 w.heap.size 0 _ _ (byt n) rfl ?_ 9 Tryz.underlying9
    intro i hi
    rw [Nat.zero_add, cell_of_row _ w.heap.size i _ 5 (0, 0) (heap_alloc_new w _)]
    simp [List.getD_eq_getElem?_getD, List.getElem?_eq_getElem hi]
  have HP : Hid (pref n s.data.toList = (s.data.toList.take (byt n).length == u8s (byt n))) := rfl
  have h4 := (byt_len n).2
  unfold maxLen at hs
  go_enter Tryz.func134, Tryz.ntmps134
  go_wp2_with (first | (go_at_call 133; refine (rbytes_any _ _ h0 h1).mono ?_; rintro e w' ⟨rfl, rfl⟩))
  go_ret
  exact ⟨ret_bool (by rw [HP.out, ByteArray.toList_eq]; rfl), (Below.refl _ _).alloc (Nat.le_refl _) _⟩

/-- whether so many bytes are a sign's -/
def cond (l : List UInt8) (m : Nat) : Bool := sgn (gss l m (m - 1)) && ((byt (gss l m (m - 1))).length == m) && pref (gss l m (m - 1)) l

theorem gss_enc {n : Int} (h0 : 0 ≤ n) (h1 : n ≤ 1114111) (r : List UInt8) : gss (u8s (byt n) ++ r) (byt n).length ((byt n).length - 1) = n := by
  rcases byt_parts h0 h1 with ⟨e, c⟩ | ⟨e, c, c'⟩ | ⟨e, c, c'⟩ | ⟨e, c⟩ <;> rw [e] <;>
    simp only [u8s, List.map_cons, List.map_nil, List.length_cons, List.length_nil, List.cons_append, List.nil_append, gss, List.getD_cons_zero, List.getD_cons_succ, Nat.zero_add, Nat.reduceAdd, Nat.reduceSub, fb, Nat.reduceEqDiff, if_true, if_false]
  · rw [toNat_u8 h0 (by omega)]; omega
  · rw [toNat_u8 (by omega) (by omega), toNat_u8 (by omega) (by omega)]; omega
  · rw [toNat_u8 (by omega) (by omega), toNat_u8 (by omega) (by omega), toNat_u8 (by omega) (by omega)]; omega
  · rw [toNat_u8 (by omega) (by omega), toNat_u8 (by omega) (by omega), toNat_u8 (by omega) (by omega), toNat_u8 (by omega) (by omega)]; omega

theorem rf_yes (l : List UInt8) (m : Nat) (h : cond l m = true) : fst l = (gss l m (m - 1), (m : Int)) := by
  unfold cond pref at h
  simp only [Bool.and_eq_true, beq_iff_eq] at h
  obtain ⟨⟨h1, h2⟩, h3⟩ := h
  have e : l = u8s (byt (gss l m (m - 1))) ++ l.drop (byt (gss l m (m - 1))).length := by rw [← h3]; exact (List.take_append_drop _ _).symm
  have hf := fst_enc h1 (l.drop (byt (gss l m (m - 1))).length)
  rw [← e] at hf
  rw [hf, h2]

theorem fst_neg (l : List UInt8) (h : l ≠ []) (hn : (fst l).1 < 0) : fst l = (-1, 1) := by
  have h0 : l.length ≠ 0 := fun e => h (List.eq_nil_iff_length_eq_zero.2 e)
  unfold fst at hn ⊢
  rw [if_neg h0] at hn ⊢
  split at hn
  · rename_i c; rw [if_pos c]
  · rename_i c
    rw [if_neg c]
    split at hn
    · rename_i d
      have := sgn_bd d.2.1
      simp only at hn; omega
    · rename_i d; rw [if_neg d]

theorem rf_no (l : List UInt8) (h : l ≠ []) (hc : ∀ j, 1 ≤ j → j ≤ 4 → j ≤ l.length → cond l j = false) : fst l = (-1, 1) := by
  by_cases hn : (fst l).1 < 0
  · exact fst_neg l h hn
  · exfalso
    obtain ⟨s1, s2, s3⟩ := fst_sound l (by omega)
    obtain ⟨b0, b1, _⟩ := sgn_bd s1
    have hl := byt_len (fst l).1
    have hb := fst_bd l
    have hg := gss_enc b0 b1 (l.drop (byt (fst l).1).length)
    rw [← s3] at hg
    have := hc (byt (fst l).1).length hl.1 hl.2 (by omega)
    unfold cond pref at this
    rw [hg, s1] at this
    simp at this
    apply this
    have key : ∀ (n : Int) (r : List UInt8), l = u8s (byt n) ++ r → l.take (byt n).length = u8s (byt n) := by
      intro n r e
      have e2 : (byt n).length = (u8s (byt n)).length := by simp [u8s]
      rw [e, e2]
      exact List.take_left
    exact key _ _ s3

set_option maxHeartbeats 1000000 in
theorem rfirst_any (s : ByteArray) (w : World) (hs : s.size ≤ maxLen) : Calls Tryz.prog 111 #[.string s] w fun e w' => e = .returned (.tuple #[.int .i64 (fst s.data.toList).1, .int .i64 (fst s.data.toList).2]) ∧ Below w.heap.size w w' := by
  have hs' := hs
  unfold maxLen at hs
  by_cases h0 : s.size = 0
  · have hie : s.toList.isEmpty = true := by
      have := len_data s
      rw [ByteArray.toList_eq, List.isEmpty_iff, List.eq_nil_iff_length_eq_zero]; omega
    have hf := fst_nil s.data.toList (by rw [len_data]; exact h0)
    rw [hf]; clear hf
    go_enter Tryz.func111, Tryz.ntmps111
    go_wp2
    go_ret2
    exact ⟨rfl, Below.refl _ _⟩
  · have hp : 0 < s.size := by omega
    have hie : s.toList.isEmpty = false := by
      have := len_data s
      rw [ByteArray.toList_eq, Bool.eq_false_iff]; intro h; rw [List.isEmpty_iff, List.eq_nil_iff_length_eq_zero] at h; omega
    have HNE : Hid (s.data.toList ≠ []) := by
      intro e
      have h := len_data s
      rw [e, List.length_nil] at h
      omega
    clear h0
    go_enter Tryz.func111, Tryz.ntmps111
    go_wp2
    go_loopw [4] (fun i wr => ∃ k : Nat, 1 ≤ k ∧ k ≤ 5 ∧ i = .int .i64 k ∧ (∀ j, 1 ≤ j → j < k → cond s.data.toList j = false) ∧ Below w.heap.size w wr) (fun i _ => (5 - intOf i).toNat)
    case atStart => exact ⟨1, by omega, by omega, rfl, fun j h h' => by omega, Below.refl _ _⟩
    case round =>
      obtain ⟨k, hk1, hk5, rfl, hc, hbe⟩ := hrel
      have HC : Hid (∀ j, 1 ≤ j → j < k → cond s.data.toList j = false) := hc
      clear hc
      by_cases hlt : (k : Int) ≤ 4
      · by_cases hls : (k : Int) ≤ s.size
        · have hks : k ≤ s.size := by omega
          have hk4 : k ≤ 4 := by omega
          obtain ⟨n, hn⟩ : ∃ n, n = gss s.data.toList k (k - 1) := ⟨_, rfl⟩
          have HN : Hid (n = gss s.data.toList k (k - 1)) := hn
          have hcd : cond s.data.toList k = (sgn n && ((byt n).length == k) && pref n s.data.toList) := by unfold cond; rw [hn]
          have HCD : Hid (cond s.data.toList k = (sgn n && ((byt n).length == k) && pref n s.data.toList)) := hcd
          have HNX : Hid (cond s.data.toList k = false → ∀ j, 1 ≤ j → j < k + 1 → cond s.data.toList j = false) := by
            intro hf j h1 h2
            by_cases e : j = k
            · subst e; exact hf
            · exact HC.out j h1 (by omega)
          clear hn hcd
          cases hsg : sgn n
          · go_wp2_with fail
            refine (guess_any s k _ hs' hk1 hk4 hks).mono ?_
            rintro e w1 ⟨rfl, hb1⟩
            rw [← HN.out]
            go_wp2_with (first | (go_at_call 132; refine (rsign_any _ _).mono ?_; rintro e w' ⟨rfl, rfl⟩))
            go_roundw
            case rel => exact ⟨k + 1, by omega, by omega, by go_num, HNX.out (by rw [HCD.out, hsg]; rfl), hbe.trans (hb1.mono hbe.size)⟩
            case measure => simp [intOf]; omega
          · obtain ⟨b0, b1, _⟩ := sgn_bd hsg
            by_cases hle : (byt n).length = k
            · have hle' : (((byt n).length : Int) == (k : Int)) = true := by simp; omega
              have hlk : (byt n).length ≤ s.size := by omega
              have HLE : Hid ((byt n).length = k) := hle
              clear hle
              cases hpf : pref n s.data.toList
              · go_wp2_with fail
                refine (guess_any s k _ hs' hk1 hk4 hks).mono ?_
                rintro e w1 ⟨rfl, hb1⟩
                rw [← HN.out]
                go_wp2_with (first | (go_at_call 132; refine (rsign_any _ _).mono ?_; rintro e w' ⟨rfl, rfl⟩) | (go_at_call 133; refine (rbytes_any _ _ b0 b1).mono ?_; rintro e w' ⟨rfl, rfl⟩) | (go_at_call 134; refine (begins_any _ _ _ hs' b0 b1 hlk).mono ?_; rintro e w3 ⟨rfl, hb3⟩))
                have sb1 := hb1.size
                have sb := hbe.size
                go_roundw
                case rel => exact ⟨k + 1, by omega, by omega, by go_num, HNX.out (by rw [HCD.out, hpf]; simp), ((hbe.trans (hb1.mono sb)).alloc (by omega) _).trans (hb3.mono (by simp; omega))⟩
                case measure => simp [intOf]; omega
              · have HF : Hid (fst s.data.toList = (n, (k : Int))) := by
                  have := rf_yes s.data.toList k (by rw [HCD.out, hsg, hpf, HLE.out]; simp)
                  rw [← HN.out] at this
                  exact this
                go_wp2_with fail
                refine (guess_any s k _ hs' hk1 hk4 hks).mono ?_
                rintro e w1 ⟨rfl, hb1⟩
                rw [← HN.out]
                go_wp2_with (first | (go_at_call 132; refine (rsign_any _ _).mono ?_; rintro e w' ⟨rfl, rfl⟩) | (go_at_call 133; refine (rbytes_any _ _ b0 b1).mono ?_; rintro e w' ⟨rfl, rfl⟩) | (go_at_call 134; refine (begins_any _ _ _ hs' b0 b1 hlk).mono ?_; rintro e w3 ⟨rfl, hb3⟩))
                have sb1 := hb1.size
                have sb := hbe.size
                go_ret2
                exact ⟨by rw [HF.out]; rfl, ((hbe.trans (hb1.mono sb)).alloc (by omega) _).trans (hb3.mono (by simp; omega))⟩
            · have hle' : (((byt n).length : Int) == (k : Int)) = false := by simp; omega
              go_wp2_with fail
              refine (guess_any s k _ hs' hk1 hk4 hks).mono ?_
              rintro e w1 ⟨rfl, hb1⟩
              rw [← HN.out]
              go_wp2_with (first | (go_at_call 132; refine (rsign_any _ _).mono ?_; rintro e w' ⟨rfl, rfl⟩) | (go_at_call 133; refine (rbytes_any _ _ b0 b1).mono ?_; rintro e w' ⟨rfl, rfl⟩))
              have sb1 := hb1.size
              have sb := hbe.size
              go_roundw
              case rel => exact ⟨k + 1, by omega, by omega, by go_num, HNX.out (by rw [HCD.out]; simp [hle]), (hbe.trans (hb1.mono sb)).alloc (by omega) _⟩
              case measure => simp [intOf]; omega
        · have HF : Hid (fst s.data.toList = (-1, 1)) := rf_no _ HNE.out fun j h1 h2 h3 => HC.out j h1 (by rw [len_data] at h3; omega)
          go_wp2
          go_ret2
          exact ⟨by rw [HF.out]; rfl, hbe⟩
      · have HF : Hid (fst s.data.toList = (-1, 1)) := rf_no _ HNE.out fun j h1 h2 h3 => HC.out j h1 (by omega)
        have hlt' : decide ((k : Int) ≤ 4) = false := by simpa using hlt
        go_wp2
        go_ret2
        exact ⟨by rw [HF.out]; rfl, hbe⟩

end Go.Proofs.YtaphijgbebhdlaaGreatDoor.Utf
end

section
/- the reference's First at a place within a text. -/
namespace Go.Proofs.YtaphijgbebhdlaaGreatDoor.Utf
open Go.RowKit
set_option linter.unusedSimpArgs false
set_option linter.unusedVariables false

theorem rfirstAt_any (s : ByteArray) (p : Nat) (w : World) (hs : s.size ≤ maxLen) : Calls Tryz.prog 111 #[.string (s.extract p s.size)] w fun e w' => e = .returned (.tuple #[.int .i64 (fst (s.data.toList.drop p)).1, .int .i64 (fst (s.data.toList.drop p)).2]) ∧ Below w.heap.size w w' := by
  have h := rfirst_any (s.extract p s.size) w (by have e := congrArg List.length (drop_data s p); rw [len_data, List.length_drop, len_data] at e; omega)
  rw [drop_data] at h
  exact h

end Go.Proofs.YtaphijgbebhdlaaGreatDoor.Utf
end

section
/- utf.Encode, by its contract. -/
namespace Go.Proofs.YtaphijgbebhdlaaGreatDoor.Utf
open Go.RowKit
set_option linter.unusedSimpArgs false
set_option linter.unusedVariables false

end Go.Proofs.YtaphijgbebhdlaaGreatDoor.Utf
end

section
/- The reference's Encode and Decode, by their contracts. -/
namespace Go.Proofs.YtaphijgbebhdlaaGreatDoor.Utf
open Go.RowKit
set_option linter.unusedSimpArgs false
set_option linter.unusedVariables false
set_option maxRecDepth 100000

set_option maxHeartbeats 1000000 in
theorem rdecode_any (s : ByteArray) (w : World) (hs : s.size ≤ 140737488355328) (hx : (dec s.data.toList).1.length ≤ 17592186044416) : Calls Tryz.prog 92 #[.string s] w fun e w' => DecRes s.data.toList w e w' := by
  have hs' : s.size ≤ maxLen := by unfold maxLen; omega
  have HX : Hid ((dec s.data.toList).1.length ≤ 17592186044416) := hx
  clear hx
  obtain ⟨i0, hi, hz0, hz1, hz2⟩ := info_parts Tryz.info3
  go_enter Tryz.func92, Tryz.ntmps92
  go_wp2
  go_loopw [4, 5] (fun v i wr => ∃ (p : Nat) (xs : List Int), p ≤ s.size ∧ xs.length ≤ p ∧ i = .int .i64 p ∧ wr.ownsRow (w.heap.size + 1) 3 1 v xs.length (xs.map (Value.int .i64)) ∧ dec s.data.toList = (xs ++ (dec (s.data.toList.drop p)).1, (dec (s.data.toList.drop p)).2.map (· + p)) ∧
      Below (w.heap.size + 1) (w.alloc (.cells #[.int .i64 0, .int .i64 0] 141)) wr ∧ w.heap.size + 1 ≤ wr.heap.size) (fun _ i _ => s.size - (intOf i).toNat)
  case atStart => exact ⟨0, [], Nat.zero_le _, Nat.le_refl _, rfl, World.ownsRow_nil _ _ _ _, by simp, Below.refl _ _, by simp⟩
  case round =>
    obtain ⟨p, xs, hp, hxl, rfl, hown, hd, hbe, hsz⟩ := hrel
    have HD : Hid (dec s.data.toList = (xs ++ (dec (s.data.toList.drop p)).1, (dec (s.data.toList.drop p)).2.map (· + p))) := hd
    clear hd
    have hc0 : wr.cell? ⟨w.heap.size, 0, none⟩ = some (.int .i64 0) := (hbe.cell (p := ⟨w.heap.size, 0, none⟩) (by simp)).trans (by rw [cell_of_row _ w.heap.size 0 _ _ (0, 0) (heap_alloc_new w _)]; rfl)
    have hc1 : wr.cell? ⟨w.heap.size, 1, none⟩ = some (.int .i64 0) := (hbe.cell (p := ⟨w.heap.size, 1, none⟩) (by simp)).trans (by rw [cell_of_row _ w.heap.size 1 _ _ (0, 0) (heap_alloc_new w _)]; rfl)
    have hf0 : wr.frozen? ⟨w.heap.size, 0, none⟩ = false := (hbe.frozen (p := ⟨w.heap.size, 0, none⟩) (by simp)).trans (by simp)
    have hf1 : wr.frozen? ⟨w.heap.size, 1, none⟩ = false := (hbe.frozen (p := ⟨w.heap.size, 1, none⟩) (by simp)).trans (by simp)
    by_cases hlt : p < s.size
    · have hne := drop_ne s p hlt
      have hf := fk_pos _ hne
      rw [List.length_drop, len_data] at hf
      obtain ⟨f1, f2, f3, f4⟩ := hf
      have hb0 : 0 ≤ (fst (s.data.toList.drop p)).2 := by omega
      have hb4 : (fst (s.data.toList.drop p)).2 ≤ 4 := by omega
      have hb5 : (p : Int) + (fst (s.data.toList.drop p)).2 ≤ s.size := by omega
      have H4 : Hid (((fk (s.data.toList.drop p) : Nat) : Int) = (fst (s.data.toList.drop p)).2) := f4
      clear f4
      by_cases hn : (fst (s.data.toList.drop p)).1 < 0
      · have HB : Hid ((dec s.data.toList).2 = some p) := by
          have h1 := HD.out
          rw [dec_bad _ hne hn] at h1
          rw [h1]; simp [Hid]
        clear hne
        go_wp2_with (first | (go_at_call 111; refine (rfirstAt_any _ _ _ hs').mono ?_; rintro e w0 ⟨rfl, hb1⟩; have ic0 := (hb1.cell (p := ⟨w.heap.size, 0, none⟩) hsz).trans hc0; have ic1 := (hb1.cell (p := ⟨w.heap.size, 1, none⟩) hsz).trans hc1; have if0 := (hb1.frozen (p := ⟨w.heap.size, 0, none⟩) hsz).trans hf0; have if1 := (hb1.frozen (p := ⟨w.heap.size, 1, none⟩) hsz).trans hf1; have jown := own_later hown hb1; have jbe := hbe.trans (hb1.mono hsz); have jsz := Nat.le_trans hsz hb1.size))
        refine bodyPost_ret (v := .tuple #[.slice none 0 0, .agg #[.int .i64 8, .int .i64 p]]) (by simp [results, Tryz.results92, go_sem, ic0, ic1]) rfl ?_
        refine ⟨.slice none 0 0, by rw [HB.out]; rfl, ?_, ?_⟩
        · have e : decXs s.data.toList = [] := by unfold decXs; rw [HB.out]; rfl
          rw [e]; exact World.ownsRow_nil _ _ _ _
        exact ((((Below.refl _ _).alloc (Nat.le_refl _) _).trans (jbe.mono (Nat.le_succ _))).setCell (Nat.le_refl _) _).setCell (Nat.le_refl _) _
      · have HN := dec_split HD.out hne hn
        have HN : Hid (dec s.data.toList = ((xs ++ [(fst (s.data.toList.drop p)).1]) ++ (dec (s.data.toList.drop (p + fk (s.data.toList.drop p)))).1, (dec (s.data.toList.drop (p + fk (s.data.toList.drop p)))).2.map (· + (p + fk (s.data.toList.drop p))))) := HN
        have hxx : xs.length + 1 ≤ 17592186044416 := by
          have h1 := HX.out
          rw [HN.out] at h1
          simp only [List.length_append, List.length_cons, List.length_nil] at h1
          omega
        clear HD hne
        go_wp2_with (first | (go_at_call 111; refine (rfirstAt_any _ _ _ hs').mono ?_; rintro e w0 ⟨rfl, hb1⟩; have ic0 := (hb1.cell (p := ⟨w.heap.size, 0, none⟩) hsz).trans hc0; have ic1 := (hb1.cell (p := ⟨w.heap.size, 1, none⟩) hsz).trans hc1; have if0 := (hb1.frozen (p := ⟨w.heap.size, 0, none⟩) hsz).trans hf0; have if1 := (hb1.frozen (p := ⟨w.heap.size, 1, none⟩) hsz).trans hf1; have jown := own_later hown hb1; have jbe := hbe.trans (hb1.mono hsz); have jsz := Nat.le_trans hsz hb1.size) | (at_builtin; refine wpList_append_own _ rfl _ _ 45 rfl (w.heap.size + 1) 3 i0 (.int .i64 0) 1 8 Tryz.underlying45 hi hz0 hz1 hz2 rfl (by decide) _ _ _ rfl (jown.alloc _) ⟨w0.heap.size, 0, none⟩ 1 1 [Value.int .i64 (fst (s.data.toList.drop p)).1] rfl rfl (new_cells _ _ _) (new_one _) ?_ ?_ ?_ ?_))
        · unfold maxLen; omega
        · omega
        · simp; omega
        intro v' w1 hown' hgrow _
        have R := step1 jown jbe jsz hown' hgrow
        obtain ⟨R1, R2, R3⟩ := R
        clear hown' hgrow hown hbe hc0 hc1 hf0 hf1 ic0 ic1 if0 if1 jown jbe jsz hb1
        go_wp2
        have h4 := H4.out
        go_roundw
        case rel => exact ⟨p + fk (s.data.toList.drop p), xs ++ [(fst (s.data.toList.drop p)).1], by omega, by simp; omega, by rw [← H4.out]; go_num, R1, HN.out, R2, R3⟩
        case measure => simp [intOf]; omega
    · have HB : Hid (dec s.data.toList = (xs, none)) := by
        have h1 := HD.out
        rw [List.drop_of_length_le (by rw [len_data]; omega), dec_nil] at h1
        simp at h1; exact h1
      clear HD
      go_wp2
      refine bodyPost_ret (v := .tuple #[u4, .agg #[.int .i64 0, .int .i64 0]]) (by simp [results, Tryz.results92, go_sem, hc0, hc1]) rfl ?_
      refine ⟨u4, by rw [HB.out]; rfl, ?_, ?_⟩
      · have e : decXs s.data.toList = xs := by unfold decXs; rw [HB.out]; rfl
        rw [e]
        exact ownsRow_lower (ownsRow_setCell_below (ownsRow_setCell_below hown (Nat.lt_succ_self _) _) (Nat.lt_succ_self _) _) (Nat.le_succ _)
      · exact ((((Below.refl _ _).alloc (Nat.le_refl _) _).trans (hbe.mono (Nat.le_succ _))).setCell (Nat.le_refl _) _).setCell (Nat.le_refl _) _



end Go.Proofs.YtaphijgbebhdlaaGreatDoor.Utf
end

section
/- The reference's Decode, as its results are used. -/
namespace Go.Proofs.YtaphijgbebhdlaaGreatDoor.Quo
open Utf Rws
open Go.RowKit
set_option linter.unusedSimpArgs false
set_option linter.unusedVariables false
set_option maxRecDepth 100000

/-- the reference's Decode, as its results are used -/
theorem rdec_no (l : List UInt8) (w : World) (hl : l.length ≤ 4194304) {p : Nat} (hd : (dec l).2 = some p) : Calls Tryz.prog 92 #[.string (mk l)] w fun e w' => e = .returned (.tuple #[.slice none 0 0, .agg #[.int .i64 8, .int .i64 (p : Int)]]) ∧ Below w.heap.size w w' ∨ ∃ a cap, e = .returned (.tuple #[.slice a 0 cap, .agg #[.int .i64 8, .int .i64 (p : Int)]]) ∧ Below w.heap.size w w' := by
  have hdl := dec_len l.length l (Nat.le_refl _)
  have HD := rdecode_any (mk l) w (by rw [mk_size]; omega) (by rw [mk_data]; omega)
  rw [mk_data] at HD
  refine HD.mono ?_
  rintro e w' ⟨v, h1, h2, h3⟩
  rw [hd] at h1
  have hx : decXs l = [] := by unfold decXs; rw [if_neg (by rw [hd]; simp)]
  rw [hx] at h2
  obtain ⟨a, cap, rfl, _⟩ := ints_of_own h2
  exact .inr ⟨a, cap, h1, h3⟩
theorem rdec_yes (l : List UInt8) (w : World) (hl : l.length ≤ 4194304) (zs : List Int) (hz : zs = (dec l).1) (hd : (dec l).2 = none) : Calls Tryz.prog 92 #[.string (mk l)] w fun e w' => ∃ a cap, e = .returned (.tuple #[.slice a zs.length cap, .agg #[.int .i64 0, .int .i64 0]]) ∧ Ints w' a zs.length zs ∧ Below w.heap.size w w' := by
  have hdl := dec_len l.length l (Nat.le_refl _)
  have HD := rdecode_any (mk l) w (by rw [mk_size]; omega) (by rw [mk_data]; omega)
  rw [mk_data] at HD
  refine HD.mono ?_
  rintro e w' ⟨v, h1, h2, h3⟩
  rw [hd] at h1
  unfold decXs at h2
  rw [if_pos hd, ← hz] at h2
  obtain ⟨a, cap, rfl, hI⟩ := ints_of_own h2
  exact ⟨a, cap, h1, hI, h3⟩
end Go.Proofs.YtaphijgbebhdlaaGreatDoor.Quo
end
