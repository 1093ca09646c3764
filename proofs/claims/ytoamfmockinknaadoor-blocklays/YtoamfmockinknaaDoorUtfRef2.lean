/- The reference's guess, begins, First, by their contracts. -/
import Derived.Test.YtoamfmockinknaaDoorUtfRef
namespace Go.Proofs.YtoamfmockinknaaDoor.Utf
open Go.RowKit
set_option linter.unusedSimpArgs false
set_option linter.unusedVariables false

def fb (m : Nat) : Int := if m = 1 then 0 else if m = 2 then 192 else if m = 3 then 224 else 240
def gss (l : List UInt8) (m : Nat) : Nat → Int
  | 0 => ((l.getD 0 0).toNat : Int) - fb m
  | k + 1 => gss l m k * 64 + ((l.getD (k + 1) 0).toNat : Int) - 128
theorem fb_bd (m : Nat) : 0 ≤ fb m ∧ fb m ≤ 240 := by
  unfold fb; split; · decide
  split; · decide
  split <;> decide
theorem gss_bd (l : List UInt8) (m k : Nat) (hk : k ≤ 3) : -100000000 ≤ gss l m k ∧ gss l m k ≤ 100000000 := by
  have hf := fb_bd m
  have b0 := (l.getD 0 0).toNat_lt
  have b1 := (l.getD 1 0).toNat_lt
  have b2 := (l.getD 2 0).toNat_lt
  have b3 := (l.getD 3 0).toNat_lt
  rcases (show k = 0 ∨ k = 1 ∨ k = 2 ∨ k = 3 by omega) with rfl | rfl | rfl | rfl <;> simp only [gss, Nat.zero_add, Nat.reduceAdd] <;> omega

set_option maxHeartbeats 1000000 in
theorem guess_any (s : ByteArray) (m : Nat) (w : World) (hs : s.size ≤ maxLen) (h1 : 1 ≤ m) (h4 : m ≤ 4) (hm : m ≤ s.size) :
    Calls Tryd.prog 59 #[.string s, .int .i64 m] w fun e w' => e = .returned (.int .i64 (gss s.data.toList m (m - 1))) ∧ Below w.heap.size w w' := by
  unfold maxLen at hs
  have hd := getD_byte s 0 (by omega)
  have hb0 : (s[0].toNat : Int) < 256 := by have := s[0].toNat_lt; omega
  have hp : 0 < s.size := by omega
  have H0 : Hid (gss s.data.toList m 0 = (s[0].toNat : Int) - fb m) := by show _ = _; rw [← hd]; rfl
  clear hd
  have hcell : (w.alloc (Obj.cells #[Value.int IntKind.i64 0, Value.int IntKind.i64 0, Value.int IntKind.i64 192, Value.int IntKind.i64 224, Value.int IntKind.i64 240] 3)).cell? ⟨w.heap.size, m, none⟩ = some (.int .i64 (fb m)) := by
    rw [cell_of_row _ w.heap.size m _ 3 (0, 0) (heap_alloc_new w _)]
    rcases (show m = 1 ∨ m = 2 ∨ m = 3 ∨ m = 4 by omega) with rfl | rfl | rfl | rfl <;> rfl
  have hfb := fb_bd m
  go_enter Tryd.func59, Tryd.ntmps59
  go_wp2
  go_quiet (fail)
  go_wp2
  clear hcell
  go_loop [6, 7] (fun g i => ∃ k : Nat, 1 ≤ k ∧ k ≤ m ∧ i = .int .i64 k ∧ g = .int .i64 (gss s.data.toList m (k - 1))) (fun _ i => (4 - intOf i).toNat)
  case atStart => exact ⟨1, by omega, by omega, rfl, by rw [← H0.out]⟩
  case round =>
    obtain ⟨k, hk1, hk2, rfl, rfl⟩ := hrel
    have hg := gss_bd s.data.toList m (k - 1) (by omega)
    by_cases hlt : k < m
    · have hks : k < s.size := by omega
      have hbk : (s[k].toNat : Int) < 256 := by have := s[k].toNat_lt; omega
      have HS : Hid (gss s.data.toList m k = gss s.data.toList m (k - 1) * 64 + (s[k].toNat : Int) - 128) := by
        rw [← getD_byte s k hks]
        obtain ⟨j, rfl⟩ : ∃ j, k = j + 1 := ⟨k - 1, by omega⟩
        rfl
      go_wp2
      go_round
      case rel => exact ⟨k + 1, by omega, by omega, by go_num, by rw [Nat.add_sub_cancel, HS.out]⟩
      case measure => simp [intOf]; omega
    · go_wp2
      go_ret
      have e : k = m := by omega
      subst e
      exact ⟨rfl, below_drewN ((Below.refl _ _).alloc (Nat.le_refl _) _) _⟩

theorem strOf_extract (s : ByteArray) (k : Nat) (h : k ≤ s.size) : (s.extract 0 k).toList = s.data.toList.take k := by
  have e : s = ⟨s.data.toList.toArray⟩ := by simp
  rw [ByteArray.toList_eq]
  conv => lhs; rw [e]
  rw [ByteArray.extract_mk]
  simp

def pref (n : Int) (l : List UInt8) : Bool := l.take (byt n).length == u8s (byt n)

theorem begins_any (s : ByteArray) (n : Int) (w : World) (hs : s.size ≤ maxLen) (h0 : 0 ≤ n) (h1 : n ≤ 1114111) (hl : (byt n).length ≤ s.size) :
    Calls Tryd.prog 62 #[.string s, .int .i64 n] w fun e w' => e = .returned (.bool (pref n s.data.toList)) ∧ Below w.heap.size w w' := by
  have hx := strOf_extract s _ hl
  have hsz := strOfNums_size (byt n)
  have hcv : ∀ w : World, (convert 60 9 (.slice (some ⟨w.heap.size, 0, none⟩) (byt n).length (byt n).length)).run Tryd.prog (w.alloc (.cells ((byt n).map (Value.int .u8)).toArray 5)) = .ok (.string (strOfNums (byt n))) (w.alloc (.cells ((byt n).map (Value.int .u8)).toArray 5)) := by
    intro w
    refine run_convert_bytes_arg _ 60 5 Tryd.underlying60 Tryd.underlying5 w.heap.size 0 _ _ (byt n) rfl ?_ 9 Tryd.underlying9
    intro i hi
    rw [Nat.zero_add, cell_of_row _ w.heap.size i _ 5 (0, 0) (heap_alloc_new w _)]
    simp [List.getD_eq_getElem?_getD, List.getElem?_eq_getElem hi]
  have HP : Hid (pref n s.data.toList = (s.data.toList.take (byt n).length == u8s (byt n))) := rfl
  have h4 := (byt_len n).2
  unfold maxLen at hs
  go_enter Tryd.func62, Tryd.ntmps62
  go_wp2_with (first | (go_at_call 61; refine (rbytes_any _ _ h0 h1).mono ?_; rintro e w' ⟨rfl, rfl⟩))
  go_ret
  exact ⟨ret_bool (by rw [HP.out, ByteArray.toList_eq]; rfl), (Below.refl _ _).alloc (Nat.le_refl _) _⟩

/-- whether so many bytes are a sign's -/
def cond (l : List UInt8) (m : Nat) : Bool := sgn (gss l m (m - 1)) && ((byt (gss l m (m - 1))).length == m) && pref (gss l m (m - 1)) l

theorem gss_enc {n : Int} (h0 : 0 ≤ n) (h1 : n ≤ 1114111) (r : List UInt8) : gss (u8s (byt n) ++ r) (byt n).length ((byt n).length - 1) = n := by
  rcases byt_parts h0 h1 with ⟨e, c⟩ | ⟨e, c, c'⟩ | ⟨e, c, c'⟩ | ⟨e, c⟩ <;> rw [e] <;>
    simp only [u8s, List.map_cons, List.map_nil, List.length_cons, List.length_nil, List.cons_append, List.nil_append, gss, List.getD_cons_zero, List.getD_cons_succ, Nat.zero_add, Nat.reduceAdd, Nat.reduceSub, fb, Nat.reduceEqDiff, if_true, if_false]
  · rw [toNat_u8 h0 (by omega)]; omega
  · rw [toNat_u8 (by omega) (by omega), toNat_u8 (by omega) (by omega)]; omega
  · rw [toNat_u8 (by omega) (by omega), toNat_u8 (by omega) (by omega), toNat_u8 (by omega) (by omega)]; omega
  · rw [toNat_u8 (by omega) (by omega), toNat_u8 (by omega) (by omega), toNat_u8 (by omega) (by omega), toNat_u8 (by omega) (by omega)]; omega

theorem rf_yes (l : List UInt8) (m : Nat) (h : cond l m = true) : fst l = (gss l m (m - 1), (m : Int)) := by
  unfold cond pref at h
  simp only [Bool.and_eq_true, beq_iff_eq] at h
  obtain ⟨⟨h1, h2⟩, h3⟩ := h
  have e : l = u8s (byt (gss l m (m - 1))) ++ l.drop (byt (gss l m (m - 1))).length := by rw [← h3]; exact (List.take_append_drop _ _).symm
  have hf := fst_enc h1 (l.drop (byt (gss l m (m - 1))).length)
  rw [← e] at hf
  rw [hf, h2]

theorem fst_neg (l : List UInt8) (h : l ≠ []) (hn : (fst l).1 < 0) : fst l = (-1, 1) := by
  have h0 : l.length ≠ 0 := fun e => h (List.eq_nil_iff_length_eq_zero.2 e)
  unfold fst at hn ⊢
  rw [if_neg h0] at hn ⊢
  split at hn
  · rename_i c; rw [if_pos c]
  · rename_i c
    rw [if_neg c]
    split at hn
    · rename_i d
      have := sgn_bd d.2.1
      simp only at hn; omega
    · rename_i d; rw [if_neg d]

theorem rf_no (l : List UInt8) (h : l ≠ []) (hc : ∀ j, 1 ≤ j → j ≤ 4 → j ≤ l.length → cond l j = false) : fst l = (-1, 1) := by
  by_cases hn : (fst l).1 < 0
  · exact fst_neg l h hn
  · exfalso
    obtain ⟨s1, s2, s3⟩ := fst_sound l (by omega)
    obtain ⟨b0, b1, _⟩ := sgn_bd s1
    have hl := byt_len (fst l).1
    have hb := fst_bd l
    have hg := gss_enc b0 b1 (l.drop (byt (fst l).1).length)
    rw [← s3] at hg
    have := hc (byt (fst l).1).length hl.1 hl.2 (by omega)
    unfold cond pref at this
    rw [hg, s1] at this
    simp at this
    apply this
    have key : ∀ (n : Int) (r : List UInt8), l = u8s (byt n) ++ r → l.take (byt n).length = u8s (byt n) := by
      intro n r e
      have e2 : (byt n).length = (u8s (byt n)).length := by simp [u8s]
      rw [e, e2]
      exact List.take_left
    exact key _ _ s3

set_option maxHeartbeats 1000000 in
theorem rfirst_any (s : ByteArray) (w : World) (hs : s.size ≤ maxLen) : Calls Tryd.prog 38 #[.string s] w fun e w' => e = .returned (.tuple #[.int .i64 (fst s.data.toList).1, .int .i64 (fst s.data.toList).2]) ∧ Below w.heap.size w w' := by
  have hs' := hs
  unfold maxLen at hs
  by_cases h0 : s.size = 0
  · have hie : s.toList.isEmpty = true := by
      have := len_data s
      rw [ByteArray.toList_eq, List.isEmpty_iff, List.eq_nil_iff_length_eq_zero]; omega
    have hf := fst_nil s.data.toList (by rw [len_data]; exact h0)
    rw [hf]; clear hf
    go_enter Tryd.func38, Tryd.ntmps38
    go_wp2
    go_ret2
    exact ⟨rfl, Below.refl _ _⟩
  · have hp : 0 < s.size := by omega
    have hie : s.toList.isEmpty = false := by
      have := len_data s
      rw [ByteArray.toList_eq, Bool.eq_false_iff]; intro h; rw [List.isEmpty_iff, List.eq_nil_iff_length_eq_zero] at h; omega
    have HNE : Hid (s.data.toList ≠ []) := by
      intro e
      have h := len_data s
      rw [e, List.length_nil] at h
      omega
    clear h0
    go_enter Tryd.func38, Tryd.ntmps38
    go_wp2
    go_loopw [4] (fun i wr => ∃ k : Nat, 1 ≤ k ∧ k ≤ 5 ∧ i = .int .i64 k ∧ (∀ j, 1 ≤ j → j < k → cond s.data.toList j = false) ∧ Below w.heap.size w wr) (fun i _ => (5 - intOf i).toNat)
    case atStart => exact ⟨1, by omega, by omega, rfl, fun j h h' => by omega, Below.refl _ _⟩
    case round =>
      obtain ⟨k, hk1, hk5, rfl, hc, hbe⟩ := hrel
      have HC : Hid (∀ j, 1 ≤ j → j < k → cond s.data.toList j = false) := hc
      clear hc
      by_cases hlt : (k : Int) ≤ 4
      · by_cases hls : (k : Int) ≤ s.size
        · have hks : k ≤ s.size := by omega
          have hk4 : k ≤ 4 := by omega
          obtain ⟨n, hn⟩ : ∃ n, n = gss s.data.toList k (k - 1) := ⟨_, rfl⟩
          have HN : Hid (n = gss s.data.toList k (k - 1)) := hn
          have hcd : cond s.data.toList k = (sgn n && ((byt n).length == k) && pref n s.data.toList) := by unfold cond; rw [hn]
          have HCD : Hid (cond s.data.toList k = (sgn n && ((byt n).length == k) && pref n s.data.toList)) := hcd
          have HNX : Hid (cond s.data.toList k = false → ∀ j, 1 ≤ j → j < k + 1 → cond s.data.toList j = false) := by
            intro hf j h1 h2
            by_cases e : j = k
            · subst e; exact hf
            · exact HC.out j h1 (by omega)
          clear hn hcd
          cases hsg : sgn n
          · go_wp2_with fail
            refine (guess_any s k _ hs' hk1 hk4 hks).mono ?_
            rintro e w1 ⟨rfl, hb1⟩
            rw [← HN.out]
            go_wp2_with (first | (go_at_call 60; refine (rsign_any _ _).mono ?_; rintro e w' ⟨rfl, rfl⟩))
            go_roundw
            case rel => exact ⟨k + 1, by omega, by omega, by go_num, HNX.out (by rw [HCD.out, hsg]; rfl), hbe.trans (hb1.mono hbe.size)⟩
            case measure => simp [intOf]; omega
          · obtain ⟨b0, b1, _⟩ := sgn_bd hsg
            by_cases hle : (byt n).length = k
            · have hle' : (((byt n).length : Int) == (k : Int)) = true := by simp; omega
              have hlk : (byt n).length ≤ s.size := by omega
              have HLE : Hid ((byt n).length = k) := hle
              clear hle
              cases hpf : pref n s.data.toList
              · go_wp2_with fail
                refine (guess_any s k _ hs' hk1 hk4 hks).mono ?_
                rintro e w1 ⟨rfl, hb1⟩
                rw [← HN.out]
                go_wp2_with (first | (go_at_call 60; refine (rsign_any _ _).mono ?_; rintro e w' ⟨rfl, rfl⟩) | (go_at_call 61; refine (rbytes_any _ _ b0 b1).mono ?_; rintro e w' ⟨rfl, rfl⟩) | (go_at_call 62; refine (begins_any _ _ _ hs' b0 b1 hlk).mono ?_; rintro e w3 ⟨rfl, hb3⟩))
                have sb1 := hb1.size
                have sb := hbe.size
                go_roundw
                case rel => exact ⟨k + 1, by omega, by omega, by go_num, HNX.out (by rw [HCD.out, hpf]; simp), ((hbe.trans (hb1.mono sb)).alloc (by omega) _).trans (hb3.mono (by simp; omega))⟩
                case measure => simp [intOf]; omega
              · have HF : Hid (fst s.data.toList = (n, (k : Int))) := by
                  have := rf_yes s.data.toList k (by rw [HCD.out, hsg, hpf, HLE.out]; simp)
                  rw [← HN.out] at this
                  exact this
                go_wp2_with fail
                refine (guess_any s k _ hs' hk1 hk4 hks).mono ?_
                rintro e w1 ⟨rfl, hb1⟩
                rw [← HN.out]
                go_wp2_with (first | (go_at_call 60; refine (rsign_any _ _).mono ?_; rintro e w' ⟨rfl, rfl⟩) | (go_at_call 61; refine (rbytes_any _ _ b0 b1).mono ?_; rintro e w' ⟨rfl, rfl⟩) | (go_at_call 62; refine (begins_any _ _ _ hs' b0 b1 hlk).mono ?_; rintro e w3 ⟨rfl, hb3⟩))
                have sb1 := hb1.size
                have sb := hbe.size
                go_ret2
                exact ⟨by rw [HF.out]; rfl, ((hbe.trans (hb1.mono sb)).alloc (by omega) _).trans (hb3.mono (by simp; omega))⟩
            · have hle' : (((byt n).length : Int) == (k : Int)) = false := by simp; omega
              go_wp2_with fail
              refine (guess_any s k _ hs' hk1 hk4 hks).mono ?_
              rintro e w1 ⟨rfl, hb1⟩
              rw [← HN.out]
              go_wp2_with (first | (go_at_call 60; refine (rsign_any _ _).mono ?_; rintro e w' ⟨rfl, rfl⟩) | (go_at_call 61; refine (rbytes_any _ _ b0 b1).mono ?_; rintro e w' ⟨rfl, rfl⟩))
              have sb1 := hb1.size
              have sb := hbe.size
              go_roundw
              case rel => exact ⟨k + 1, by omega, by omega, by go_num, HNX.out (by rw [HCD.out]; simp [hle]), (hbe.trans (hb1.mono sb)).alloc (by omega) _⟩
              case measure => simp [intOf]; omega
        · have HF : Hid (fst s.data.toList = (-1, 1)) := rf_no _ HNE.out fun j h1 h2 h3 => HC.out j h1 (by rw [len_data] at h3; omega)
          go_wp2
          go_ret2
          exact ⟨by rw [HF.out]; rfl, hbe⟩
      · have HF : Hid (fst s.data.toList = (-1, 1)) := rf_no _ HNE.out fun j h1 h2 h3 => HC.out j h1 (by omega)
        have hlt' : decide ((k : Int) ≤ 4) = false := by simpa using hlt
        go_wp2
        go_ret2
        exact ⟨by rw [HF.out]; rfl, hbe⟩

end Go.Proofs.YtoamfmockinknaaDoor.Utf
