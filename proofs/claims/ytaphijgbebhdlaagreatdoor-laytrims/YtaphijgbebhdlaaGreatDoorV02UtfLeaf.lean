/- Several texts as one: UtfLeaf, UtfFirst, UtfAt, UtfRest, UtfChk, PlainLeafY. -/
import Derived.Test.YtaphijgbebhdlaaGreatDoorRows
import Derived.Test.YtaphijgbebhdlaaGreatDoorV00UtfPlain
import Derived.WalkKit
import Derived.WalkSpells
import Derived.WalkLawsBesides
import Derived.Laws.BitsAllLaws
import Derived.Test.YtaphijgbebhdlaaGreatDoorV01RowsPlain
import Derived.Laws.StandIn
import Derived.Lib.Bytealg
section
/- The small functions of package utf and of its reference, each by a contract: what it returns, whatever world it is called in. -/
namespace Go.Proofs.YtaphijgbebhdlaaGreatDoor.Utf
open Go.RowKit
set_option linter.unusedSimpArgs false
set_option linter.unusedVariables false

theorem within_any (n a b : Int) (w : World) : Calls Tryz.prog 136 #[.int .i64 n, .int .i64 a, .int .i64 b] w fun e w' => e = .returned (.bool (inR n a b)) ∧ w = w' := by
  unfold inR
  by_cases h1 : a ≤ n
  · go_enter Tryz.func136, Tryz.ntmps136
    go_wp2
    go_ret
    exact ⟨by simp [h1], rfl⟩
  · have h1' : decide (a ≤ n) = false := by simpa using h1
    go_enter Tryz.func136, Tryz.ntmps136
    go_wp2
    go_ret
    exact ⟨by simp [h1], rfl⟩

theorem isSign_any (n : Int) (w : World) : Calls Tryz.prog 123 #[.int .i64 n] w fun e w' => e = .returned (.bool (sgn n)) ∧ w = w' := by
  unfold sgn
  cases h : inR n 0 1114111
  · go_enter Tryz.func123, Tryz.ntmps123
    go_wp2_with (go_at_call 136; refine (within_any _ _ _ _).mono ?_; rintro e w' ⟨rfl, rfl⟩)
    go_ret
    exact ⟨by simp, rfl⟩
  · go_enter Tryz.func123, Tryz.ntmps123
    go_wp2_with (go_at_call 136; refine (within_any _ _ _ _).mono ?_; rintro e w' ⟨rfl, rfl⟩)
    go_ret
    exact ⟨by simp, rfl⟩

theorem width_any (n : Int) (w : World) : Calls Tryz.prog 124 #[.int .i64 n] w fun e w' => e = .returned (.int .i64 (wid n)) ∧ w = w' := by
  unfold wid
  by_cases h1 : n < 128
  · go_enter Tryz.func124, Tryz.ntmps124
    go_wp2
    go_ret
    exact ⟨by simp, rfl⟩
  by_cases h2 : n < 2048
  · go_enter Tryz.func124, Tryz.ntmps124
    go_wp2
    go_ret
    exact ⟨by simp, rfl⟩
  by_cases h3 : n < 65536
  · go_enter Tryz.func124, Tryz.ntmps124
    go_wp2
    go_ret
    exact ⟨by simp, rfl⟩
  · go_enter Tryz.func124, Tryz.ntmps124
    go_wp2
    go_ret
    exact ⟨by simp, rfl⟩

theorem all8 {p : Nat → Bool} (h : ∀ n : Fin 256, p n.val = true) (b : UInt8) : p b.toNat = true := h ⟨b.toNat, b.toNat_lt⟩
theorem bit_rest (b : UInt8) : (bits .andNot .u8 (b.toNat : Int) 63 == 128) = isRestB b := by
  have h := all8 (p := fun n => (bits .andNot .u8 (n : Int) 63 == 128) == (decide (128 ≤ n) && decide (n < 192))) (by decide +kernel) b
  simpa [isRestB] using h
theorem bit_h2 (b : UInt8) : (bits .andNot .u8 (b.toNat : Int) 31 == 192) = (decide (192 ≤ b.toNat) && decide (b.toNat < 224)) := by
  have h := all8 (p := fun n => (bits .andNot .u8 (n : Int) 31 == 192) == (decide (192 ≤ n) && decide (n < 224))) (by decide +kernel) b
  simpa using h
theorem bit_h3 (b : UInt8) : (bits .andNot .u8 (b.toNat : Int) 15 == 224) = (decide (224 ≤ b.toNat) && decide (b.toNat < 240)) := by
  have h := all8 (p := fun n => (bits .andNot .u8 (n : Int) 15 == 224) == (decide (224 ≤ n) && decide (n < 240))) (by decide +kernel) b
  simpa using h
theorem bit_h4 (b : UInt8) : (bits .andNot .u8 (b.toNat : Int) 7 == 240) = (decide (240 ≤ b.toNat) && decide (b.toNat < 248)) := by
  have h := all8 (p := fun n => (bits .andNot .u8 (n : Int) 7 == 240) == (decide (240 ≤ n) && decide (n < 248))) (by decide +kernel) b
  simpa using h

theorem isRest_any (b : UInt8) (w : World) : Calls Tryz.prog 122 #[.int .u8 b.toNat] w fun e w' => e = .returned (.bool (isRestB b)) ∧ w = w' := by
  have H := bit_rest b
  go_enter Tryz.func122, Tryz.ntmps122
  go_wp2
  go_ret
  exact ⟨rfl, rfl⟩

theorem ret_two {k k' : IntKind} {a b c d : Int} (h : a = b) (h' : c = d) : Ending.returned (.tuple #[.int k a, .int k' c]) = .returned (.tuple #[.int k b, .int k' d]) := by rw [h, h']

theorem head_any (b : UInt8) (w : World) : Calls Tryz.prog 121 #[.int .u8 b.toNat] w fun e w' => e = .returned (.tuple #[.int .i64 (hdV b), .int .i64 (hdL b)]) ∧ w = w' := by
  have hb : (b.toNat : Int) < 256 := by have := b.toNat_lt; omega
  have HV : Hid (hdV b = if b.toNat < 128 then (b.toNat : Int) else if b.toNat < 192 then 0 else if b.toNat < 224 then b.toNat - 192 else if b.toNat < 240 then b.toNat - 224 else if b.toNat < 248 then b.toNat - 240 else 0) := rfl
  have HL : Hid (hdL b = if b.toNat < 128 then 1 else if b.toNat < 192 then 0 else if b.toNat < 224 then 2 else if b.toNat < 240 then 3 else if b.toNat < 248 then 4 else 0) := rfl
  have e2 := bit_h2 b
  have e3 := bit_h3 b
  have e4 := bit_h4 b
  by_cases c1 : (b.toNat : Int) < 128
  · clear e2 e3 e4
    go_enter Tryz.func121, Tryz.ntmps121
    go_wp2
    go_ret2
    exact ⟨ret_two (by rw [HV.out, if_pos (by omega)]) (by rw [HL.out, if_pos (by omega)]), rfl⟩
  by_cases c2 : b.toNat < 192
  · have f2 : (bits .andNot .u8 (b.toNat : Int) 31 == 192) = false := by rw [e2]; simp; omega
    have f3 : (bits .andNot .u8 (b.toNat : Int) 15 == 224) = false := by rw [e3]; simp; omega
    have f4 : (bits .andNot .u8 (b.toNat : Int) 7 == 240) = false := by rw [e4]; simp; omega
    clear e2 e3 e4
    go_enter Tryz.func121, Tryz.ntmps121
    go_wp2
    go_ret2
    exact ⟨ret_two (by rw [HV.out, if_neg (by omega), if_pos (by omega)]) (by rw [HL.out, if_neg (by omega), if_pos (by omega)]), rfl⟩
  by_cases c3 : b.toNat < 224
  · have f2 : (bits .andNot .u8 (b.toNat : Int) 31 == 192) = true := by rw [e2]; simp; omega
    clear e2 e3 e4
    go_enter Tryz.func121, Tryz.ntmps121
    go_wp2
    go_ret2
    exact ⟨ret_two (by rw [HV.out, if_neg (by omega), if_neg (by omega), if_pos (by omega)]; omega) (by rw [HL.out, if_neg (by omega), if_neg (by omega), if_pos (by omega)]), rfl⟩
  by_cases c4 : b.toNat < 240
  · have f2 : (bits .andNot .u8 (b.toNat : Int) 31 == 192) = false := by rw [e2]; simp; omega
    have f3 : (bits .andNot .u8 (b.toNat : Int) 15 == 224) = true := by rw [e3]; simp; omega
    clear e2 e3 e4
    go_enter Tryz.func121, Tryz.ntmps121
    go_wp2
    go_ret2
    exact ⟨ret_two (by rw [HV.out, if_neg (by omega), if_neg (by omega), if_neg (by omega), if_pos (by omega)]; omega) (by rw [HL.out, if_neg (by omega), if_neg (by omega), if_neg (by omega), if_pos (by omega)]), rfl⟩
  by_cases c5 : b.toNat < 248
  · have f2 : (bits .andNot .u8 (b.toNat : Int) 31 == 192) = false := by rw [e2]; simp; omega
    have f3 : (bits .andNot .u8 (b.toNat : Int) 15 == 224) = false := by rw [e3]; simp; omega
    have f4 : (bits .andNot .u8 (b.toNat : Int) 7 == 240) = true := by rw [e4]; simp; omega
    clear e2 e3 e4
    go_enter Tryz.func121, Tryz.ntmps121
    go_wp2
    go_ret2
    exact ⟨ret_two (by rw [HV.out, if_neg (by omega), if_neg (by omega), if_neg (by omega), if_neg (by omega), if_pos (by omega)]; omega) (by rw [HL.out, if_neg (by omega), if_neg (by omega), if_neg (by omega), if_neg (by omega), if_pos (by omega)]), rfl⟩
  · have f2 : (bits .andNot .u8 (b.toNat : Int) 31 == 192) = false := by rw [e2]; simp; omega
    have f3 : (bits .andNot .u8 (b.toNat : Int) 15 == 224) = false := by rw [e3]; simp; omega
    have f4 : (bits .andNot .u8 (b.toNat : Int) 7 == 240) = false := by rw [e4]; simp; omega
    clear e2 e3 e4
    go_enter Tryz.func121, Tryz.ntmps121
    go_wp2
    go_ret2
    exact ⟨ret_two (by rw [HV.out, if_neg (by omega), if_neg (by omega), if_neg (by omega), if_neg (by omega), if_neg (by omega)]) (by rw [HL.out, if_neg (by omega), if_neg (by omega), if_neg (by omega), if_neg (by omega), if_neg (by omega)]), rfl⟩

end Go.Proofs.YtaphijgbebhdlaaGreatDoor.Utf
end

section
/- utf.Printable, utf.First, by their contracts. -/
namespace Go.Proofs.YtaphijgbebhdlaaGreatDoor.Utf
open Go.RowKit
set_option linter.unusedSimpArgs false
set_option linter.unusedVariables false

theorem getD_byte (s : ByteArray) (k : Nat) (h : k < s.size) : s.data.toList.getD k 0 = s[k] := by
  have h' : k < s.data.toList.length := by simpa using h
  rw [List.getD_eq_getElem?_getD, List.getElem?_eq_getElem h']; rfl
theorem len_data (s : ByteArray) : s.data.toList.length = s.size := by simp

theorem wrap_small (n : Nat) (h : n < 9223372036854775808) : IntKind.i64.wrap (n : Int) = (n : Int) := by
  have e : (n : Int) % 2 ^ 64 = n := Int.emod_eq_of_lt (by omega) (by omega)
  simp only [IntKind.wrap, IntKind.bits, IntKind.signed, e]
  rw [if_neg]
  simp
  omega
theorem or_join (x : Int) (b : UInt8) (h0 : 0 ≤ x) (h1 : x ≤ 33554431) : bits .or .i64 (x * 64) (wrap64 (bits .and .u8 (b.toNat : Int) 63)) = x * 64 + (b.toNat : Int) % 64 := by
  have e1 : bits .and .u8 (b.toNat : Int) 63 = (b.toNat : Int) % 64 := by
    have := b.toNat_lt
    have h := u8_and_nat b.toNat 63 (by omega) (by omega)
    rw [nat_mask6] at h
    simpa using h
  have e0 : wrap64 ((b.toNat : Int) % 64) = (b.toNat : Int) % 64 := by unfold wrap64; omega
  rw [e1, e0]
  obtain ⟨n, rfl⟩ := Int.eq_ofNat_of_zero_le h0
  have e2 : ((n : Int) * 64) = ((n * 64 : Nat) : Int) := by omega
  have e3 : (b.toNat : Int) % 64 = ((b.toNat % 64 : Nat) : Int) := by omega
  rw [e2, e3]
  show IntKind.i64.wrap ((BitVec.ofInt 64 ((n * 64 : Nat) : Int) ||| BitVec.ofInt 64 ((b.toNat % 64 : Nat) : Int)).toNat : Int) = _
  rw [BitVec.toNat_or, ofInt_u64 _ (by omega), ofInt_u64 _ (by omega), nat_join 6 _ _ (by omega) (by omega), wrap_small _ (by omega)]
  omega

theorem first_any (s : ByteArray) (w : World) (hs : s.size ≤ maxLen) : Calls Tryz.prog 102 #[.string s] w fun e w' => e = .returned (.tuple #[.int .i64 (fst s.data.toList).1, .int .i64 (fst s.data.toList).2]) ∧ w = w' := by
  unfold maxLen at hs
  by_cases h0 : s.size = 0
  · have hie : s.toList.isEmpty = true := by
      have := len_data s
      rw [ByteArray.toList_eq, List.isEmpty_iff, List.eq_nil_iff_length_eq_zero]; omega
    have hf := fst_nil s.data.toList (by rw [len_data]; exact h0)
    rw [hf]; clear hf
    go_enter Tryz.func102, Tryz.ntmps102
    go_wp2
    go_ret2
    exact ⟨rfl, rfl⟩
  · have hp : 0 < s.size := by omega
    have hie : s.toList.isEmpty = false := by
      have := len_data s
      rw [ByteArray.toList_eq, Bool.eq_false_iff]; intro h; rw [List.isEmpty_iff, List.eq_nil_iff_length_eq_zero] at h; omega
    have hd := getD_byte s 0 hp
    have hno : Hid (hdL s[0] = 0 ∨ (s.size : Int) < hdL s[0] → fst s.data.toList = (-1, 1)) := fun h => fst_no _ (by rw [len_data]; omega) (by rw [hd, len_data]; exact h)
    have hL := hdL_cases s[0]
    have hL0 : 0 ≤ hdL s[0] := by omega
    have hL4 : hdL s[0] ≤ 4 := by omega
    have HD : Hid (s.data.toList.getD 0 0 = s[0]) := hd
    clear hd hL h0
    by_cases c1 : hdL s[0] = 0
    · have c1' : (hdL s[0] == 0) = true := by simpa using c1
      have hf := hno.out (.inl c1)
      rw [hf]; clear hf hno c1
      go_enter Tryz.func102, Tryz.ntmps102
      go_wp2_with (first | (go_at_call 121; refine (head_any _ _).mono ?_; rintro e w' ⟨rfl, rfl⟩))
      go_ret2
      exact ⟨rfl, rfl⟩
    have c1' : (hdL s[0] == 0) = false := by simpa using c1
    have hL1 : 1 ≤ hdL s[0] := by omega
    clear c1
    by_cases c2 : (s.size : Int) < hdL s[0]
    · have hf := hno.out (.inr c2)
      rw [hf]; clear hf hno
      go_enter Tryz.func102, Tryz.ntmps102
      go_wp2_with (first | (go_at_call 121; refine (head_any _ _).mono ?_; rintro e w' ⟨rfl, rfl⟩))
      go_ret2
      exact ⟨rfl, rfl⟩
    clear hno
    have hV := hdV_bd s[0]
    go_enter Tryz.func102, Tryz.ntmps102
    go_wp2_with (first | (go_at_call 121; refine (head_any _ _).mono ?_; rintro e w' ⟨rfl, rfl⟩))
    go_loop [4, 6] (fun sg i => ∃ k : Nat, 1 ≤ k ∧ (k : Int) ≤ hdL s[0] ∧ i = .int .i64 k ∧ sg = .int .i64 (accL s.data.toList (k - 1)) ∧ okL s.data.toList k = true) (fun _ i => (4 - intOf i).toNat)
    case atStart => exact ⟨1, by omega, by omega, rfl, by rw [← HD.out]; rfl, rfl⟩
    case round =>
      obtain ⟨k, hk1, hk2, rfl, rfl, hok⟩ := hrel
      have HO : Hid (okL s.data.toList k = true) := hok
      clear hok
      have hab := accL_bd s.data.toList
      have hA0 : 0 ≤ accL s.data.toList (k - 1) := by
        rcases (show k = 1 ∨ k = 2 ∨ k = 3 ∨ k = 4 by omega) with h | h | h | h <;> subst h <;> simp <;> omega
      have hA1 : accL s.data.toList (k - 1) ≤ 33554431 := by
        rcases (show k = 1 ∨ k = 2 ∨ k = 3 ∨ k = 4 by omega) with h | h | h | h <;> subst h <;> simp <;> omega
      clear hab
      by_cases hlt : (k : Int) < hdL s[0]
      · have hks : k < s.size := by omega
        cases hr : isRestB s[k]
        · have hf : fst s.data.toList = (-1, 1) := fst_bad _ (by rw [HD.out]; exact hL1) (by rw [HD.out, len_data]; omega) (.inl (okL_bad _ hk1 (by rw [HD.out]; omega) (by rw [getD_byte s k hks]; exact hr)))
          have HF : Hid (fst s.data.toList = (-1, 1)) := hf
          clear hf
          go_wp2_with (first | (go_at_call 122; refine (isRest_any _ _).mono ?_; rintro e w' ⟨rfl, rfl⟩))
          go_ret2
          exact ⟨by rw [HF.out]; rfl, rfl⟩
        · have hj := or_join (accL s.data.toList (k - 1)) s[k] hA0 hA1
          have HJ : Hid (bits .or .i64 (accL s.data.toList (k - 1) * 64) (wrap64 (bits .and .u8 (s[k].toNat : Int) 63)) = accL s.data.toList (k - 1) * 64 + (s[k].toNat : Int) % 64) := hj
          clear hj
          go_wp2_with (first | (go_at_call 122; refine (isRest_any _ _).mono ?_; rintro e w' ⟨rfl, rfl⟩))
          go_round
          case rel =>
            refine ⟨k + 1, by omega, by omega, by go_num, ?_, okL_next _ HO.out (by rw [getD_byte s k hks]; exact hr)⟩
            rw [HJ.out, ← getD_byte s k hks]
            obtain ⟨m, rfl⟩ : ∃ m, k = m + 1 := ⟨k - 1, by omega⟩
            rfl
          case measure => simp [intOf]; omega
      · have hkk : (hdL (s.data.toList.getD 0 0)).toNat = k := by rw [HD.out]; omega
        have f1 : 1 ≤ hdL (s.data.toList.getD 0 0) := by rw [HD.out]; exact hL1
        have f2 : hdL (s.data.toList.getD 0 0) ≤ (s.data.toList.length : Int) := by rw [HD.out, len_data]; omega
        have HB : Hid (sgn (accL s.data.toList (k - 1)) = false ∨ wid (accL s.data.toList (k - 1)) ≠ hdL s[0] → fst s.data.toList = (-1, 1)) :=
          fun h => fst_bad _ f1 f2 (.inr (by rw [hkk, HD.out]; exact h))
        have HY : Hid (sgn (accL s.data.toList (k - 1)) = true → wid (accL s.data.toList (k - 1)) = hdL s[0] → fst s.data.toList = (accL s.data.toList (k - 1), hdL s[0])) := by
          intro g1 g2
          have := fst_yes _ f1 f2 (by rw [hkk, HD.out]; exact ⟨HO.out, g1, g2⟩)
          rw [this, hkk, HD.out]
        clear hkk f1 f2
        go_wp2_with (first | (go_at_call 123; refine (isSign_any _ _).mono ?_; rintro e w' ⟨rfl, rfl⟩) | (go_at_call 124; refine (width_any _ _).mono ?_; rintro e w' ⟨rfl, rfl⟩))
        · go_ret2
          have g : (wid (accL s.data.toList (k - 1)) != hdL s[0]) = true := by assumption
          exact ⟨by rw [HB.out (.inr (by simpa using g))]; rfl, rfl⟩
        · go_ret2
          have g : (wid (accL s.data.toList (k - 1)) != hdL s[0]) = false := by assumption
          have g' : sgn (accL s.data.toList (k - 1)) = true := by assumption
          exact ⟨by rw [HY.out g' (by simpa using g)]; rfl, rfl⟩
        · go_ret2
          have g' : ¬ sgn (accL s.data.toList (k - 1)) = true := by assumption
          exact ⟨by rw [HB.out (.inl (by simpa using g'))]; rfl, rfl⟩

theorem printable_any (n : Int) (w : World) : Calls Tryz.prog 113 #[.int .i64 n] w fun e w' => e = .returned (.bool (prn n)) ∧ w = w' := by
  go_enter Tryz.func113, Tryz.ntmps113
  go_wp2_with (go_at_call 136; refine (within_any _ _ _ _).mono ?_; rintro e w' ⟨rfl, rfl⟩)
  all_goals go_ret
  all_goals refine ⟨?_, rfl⟩
  all_goals first | (simp_all [prn]; done) | skip
  refine congrArg (fun b => Ending.returned (Value.bool b)) ?_
  have e1 : (n == 9) = false := by assumption
  have e2 : (n == 10) = false := by assumption
  have e3 : (n == 13) = false := by assumption
  have e4 : (n == 133) = false := by assumption
  have e5 : (n == 65279) = false := by assumption
  have e6 : ¬ inR n 32 126 = true := by assumption
  have e7 : ¬ inR n 160 55295 = true := by assumption
  have e8 : ¬ inR n 57344 65533 = true := by assumption
  simp only [Bool.not_eq_true] at e6 e7 e8
  unfold prn
  rw [e1, e2, e3, e4, e5, e6, e7, e8]
  simp

end Go.Proofs.YtaphijgbebhdlaaGreatDoor.Utf
end

section
/- utf.First at a place within a text; small words. -/
namespace Go.Proofs.YtaphijgbebhdlaaGreatDoor.Utf
open Go.RowKit
set_option linter.unusedSimpArgs false
set_option linter.unusedVariables false

theorem below_drewN {B : Nat} {a w : World} (h : Below B a w) (n : Nat) : Below B a (w.drewN n) := ⟨h.os, h.tape, h.output, h.size, h.block⟩
theorem drop_data (s : ByteArray) (p : Nat) : (s.extract p s.size).data.toList = s.data.toList.drop p := by
  have e : s = ⟨s.data.toList.toArray⟩ := by simp
  have h := ByteArray.extract_mk s.data.toList p s.size
  rw [← e] at h
  rw [h, List.take_of_length_le]
  have := len_data s
  rw [List.length_drop]; omega

theorem drop_ne (s : ByteArray) (p : Nat) (h : p < s.size) : s.data.toList.drop p ≠ [] := by
  intro e
  have := congrArg List.length e
  rw [List.length_drop, len_data] at this
  simp at this; omega

theorem firstAt_any (s : ByteArray) (p : Nat) (w : World) (hs : s.size ≤ maxLen) : Calls Tryz.prog 102 #[.string (s.extract p s.size)] w fun e w' => e = .returned (.tuple #[.int .i64 (fst (s.data.toList.drop p)).1, .int .i64 (fst (s.data.toList.drop p)).2]) ∧ w = w' := by
  have h := first_any (s.extract p s.size) w (by have e := congrArg List.length (drop_data s p); rw [len_data, List.length_drop, len_data] at e; omega)
  rw [drop_data] at h
  exact h

def why (o : Option Nat) : Int := match o with | none => 0 | some _ => 8
def pos (o : Option Nat) : Int := match o with | none => 0 | some p => p
theorem chk_nil : chk [] = none := rfl


end Go.Proofs.YtaphijgbebhdlaaGreatDoor.Utf
end

section
/- utf.rest, by its contract. -/
namespace Go.Proofs.YtaphijgbebhdlaaGreatDoor.Utf
open Go.RowKit
set_option linter.unusedSimpArgs false
set_option linter.unusedVariables false

end Go.Proofs.YtaphijgbebhdlaaGreatDoor.Utf
end

section
/- utf.Check, by its contract. -/
namespace Go.Proofs.YtaphijgbebhdlaaGreatDoor.Utf
open Go.RowKit
set_option linter.unusedSimpArgs false
set_option linter.unusedVariables false

theorem check_any (s : ByteArray) (w : World) (hs : s.size ≤ maxLen) : Calls Tryz.prog 95 #[.string s] w fun e w' => e = .returned (.agg #[.int .i64 (why (chk s.data.toList)), .int .i64 (pos (chk s.data.toList))]) ∧ Below w.heap.size w w' := by
  have hs' := hs
  unfold maxLen at hs
  go_enter Tryz.func95, Tryz.ntmps95
  go_wp2
  go_loop [3] (fun i => ∃ p : Nat, p ≤ s.size ∧ i = .int .i64 p ∧ chk s.data.toList = (chk (s.data.toList.drop p)).map (· + p)) (fun i => s.size - (intOf i).toNat)
  case atStart => exact ⟨0, Nat.zero_le _, rfl, by simp⟩
  case round =>
    obtain ⟨p, hp, rfl, hc⟩ := hrel
    have HC : Hid (chk s.data.toList = (chk (s.data.toList.drop p)).map (· + p)) := hc
    clear hc
    by_cases hlt : p < s.size
    · have hne := drop_ne s p hlt
      have hf := fk_pos _ hne
      have hcn := chk_next _ hne
      rw [List.drop_drop] at hcn
      rw [List.length_drop, len_data] at hf
      obtain ⟨f1, f2, f3, f4⟩ := hf
      have hb0 : 0 ≤ (fst (s.data.toList.drop p)).2 := by omega
      have hb4 : (fst (s.data.toList.drop p)).2 ≤ 4 := by omega
      have hb5 : (p : Int) + (fst (s.data.toList.drop p)).2 ≤ s.size := by omega
      have H4 : Hid (((fk (s.data.toList.drop p) : Nat) : Int) = (fst (s.data.toList.drop p)).2) := f4
      clear f4 hne
      cases hpr : prn (fst (s.data.toList.drop p)).1
      · rw [hpr] at hcn
        have HN : Hid (chk s.data.toList = some p) := by have := HC.out; rw [hcn] at this; simp at this; exact this
        clear hcn
        go_wp2_with (first | (go_at_call 102; refine (firstAt_any _ _ _ hs').mono ?_; rintro e w' ⟨rfl, rfl⟩) | (go_at_call 113; refine (printable_any _ _).mono ?_; rintro e w' ⟨rfl, rfl⟩))
        refine bodyPost_ret (v := .agg #[.int .i64 8, .int .i64 p]) (by simp [results, Tryz.results95, go_sem]) rfl ⟨by rw [HN.out]; rfl, ?_⟩
        exact (Below.refl _ _).alloc (Nat.le_refl _) _
      · rw [hpr] at hcn
        have HN : Hid (chk s.data.toList = (chk (s.data.toList.drop (p + fk (s.data.toList.drop p)))).map (· + (p + fk (s.data.toList.drop p)))) := by
          have := HC.out; rw [hcn] at this; simp [Option.map_map] at this; rw [this]; congr 1; funext x; simp; omega
        clear hcn
        go_wp2_with (first | (go_at_call 102; refine (firstAt_any _ _ _ hs').mono ?_; rintro e w' ⟨rfl, rfl⟩) | (go_at_call 113; refine (printable_any _ _).mono ?_; rintro e w' ⟨rfl, rfl⟩))
        have h4 := H4.out
        go_round
        case rel => exact ⟨p + fk (s.data.toList.drop p), by omega, by rw [← H4.out]; go_num, HN.out⟩
        case measure => simp [intOf]; omega
    · have HN : Hid (chk s.data.toList = none) := by
        have := HC.out
        rw [List.drop_of_length_le (by rw [len_data]; omega), chk_nil] at this
        exact this
      go_wp2
      refine bodyPost_ret (v := .agg #[.int .i64 0, .int .i64 0]) (by simp [results, Tryz.results95, go_sem]) rfl ⟨by rw [HN.out]; rfl, ?_⟩
      exact (Below.refl _ _).alloc (Nat.le_refl _) _

end Go.Proofs.YtaphijgbebhdlaaGreatDoor.Utf
end

section
/- The library's searches and trims at the bytes that plain hands over, by their contracts. -/
namespace Go.Proofs.YtaphijgbebhdlaaGreatDoor.Pln
open Utf Rws
open Go.RowKit
set_option linter.unusedSimpArgs false
set_option linter.unusedVariables false
set_option maxRecDepth 100000

theorem mk_getD (l : List UInt8) (k : Nat) (h : k < (mk l).size) : (mk l)[k]'h = l.getD k 0 := by
  rw [mk_get, List.getD_eq_getElem?_getD, List.getElem?_eq_getElem (by rw [mk_size] at h; exact h)]; rfl
theorem ret_str {a b : ByteArray} (h : a = b) : Ending.returned (.string a) = .returned (.string b) := by rw [h]
theorem has_cons (c b : UInt8) (r : List UInt8) : has c (b :: r) = (b == c || has c r) := by simp [has]
theorem index_eq (l : List UInt8) (c : UInt8) : Lib.indexByte l c = idx c l := by
  induction l with
  | nil => rfl
  | cons b r ih =>
    unfold Lib.indexByte
    unfold idx
    rw [has_cons, List.takeWhile_cons]
    by_cases hb : b = c
    · subst hb; simp
    · have h1 : (b == c) = false := by simpa using hb
      have h2 : (b != c) = true := by simpa using hb
      rw [h1, h2, ih]
      simp only [Bool.false_or, Bool.false_eq_true, if_false, if_true]
      unfold idx
      cases h : has c r
      · simp
      · simp only [if_true, List.length_cons]
        rw [if_neg (by simp)]
        push_cast
        omega
theorem idx_has (c : UInt8) (l : List UInt8) : decide (0 ≤ idx c l) = has c l := by
  cases h : has c l
  · rw [idx_no h]; rfl
  · rw [idx_yes h]; simp

/-- the model's own entry -/
theorem run_ix (s : ByteArray) (c : UInt8) (w : World) : (callFunc 154 #[.string s, .int .u8 c.toNat]).run Tryz.prog w = .ok (.value (.int .i64 (idx c s.data.toList))) w := by
  rw [run_callFunc_indexByte Tryz.func154 (by kernel_rfl) (by kernel_rfl) (by kernel_rfl) (by kernel_rfl), run_indexByte_string, Lib.firstIdx_eq, index_eq]
  simp [Result.andThen]

theorem indexByteL_any (s : ByteArray) (c : UInt8) (w : World) : Calls Tryz.prog 141 #[.string s, .int .u8 c.toNat] w fun e w' => e = .returned (.int .i64 (idx c s.data.toList)) ∧ w = w' := by
  have h := run_ix s c w
  go_enter Tryz.func141, Tryz.ntmps141
  go_wp2
  go_ret
  exact ⟨rfl, rfl⟩

theorem indexByte_any (s : ByteArray) (c : UInt8) (w : World) : Calls Tryz.prog 115 #[.string s, .int .u8 c.toNat] w fun e w' => e = .returned (.int .i64 (idx c s.data.toList)) ∧ w = w' := by
  go_enter Tryz.func115, Tryz.ntmps115
  go_wp2_with (first | (go_at_call 141; refine (indexByteL_any _ _ _).mono ?_; rintro e w' ⟨rfl, rfl⟩))
  go_ret
  exact ⟨rfl, rfl⟩

/-- plain.isOneOf -/
theorem isOneOf_any (s : ByteArray) (c : UInt8) (w : World) : Calls Tryz.prog 97 #[.int .u8 c.toNat, .string s] w fun e w' => e = .returned (.bool (has c s.data.toList)) ∧ w = w' := by
  go_enter Tryz.func97, Tryz.ntmps97
  go_wp2_with (first | (go_at_call 115; refine (indexByte_any _ _ _).mono ?_; rintro e w' ⟨rfl, rfl⟩))
  go_ret
  exact ⟨by rw [idx_has]; rfl, rfl⟩

theorem b32 (b : UInt8) : ((b.toNat : Int) == 32) = is32 b := by
  unfold is32
  rw [Bool.eq_iff_iff]
  simp only [beq_iff_eq]
  constructor
  · intro h; apply UInt8.toNat_inj.1; have : b.toNat = 32 := by omega
    rw [this]; rfl
  · rintro rfl; rfl

/-- strings.HasPrefix at "- " -/
theorem take2_eq (l : List UInt8) (h : 2 ≤ l.length) : ((mk l).extract 0 2).toList = l.take 2 := by
  rw [ByteArray.toList_eq, mk_ext, mk_data]; simp
theorem hasPrefixL_any (l : List UInt8) (w : World) : Calls Tryz.prog 116 #[.string (mk l), .string ⟨#[45, 32]⟩] w fun e w' => e = .returned (.bool (l.take 2 == [45, 32])) ∧ w = w' := by
  have hsz := mk_size l
  by_cases h : 2 ≤ l.length
  · have ht := take2_eq l h
    go_enter Tryz.func116, Tryz.ntmps116
    go_wp2
    go_ret
    exact ⟨by simp [ht], rfl⟩
  · have hf : (l.take 2 == [45, 32]) = false := by
      rw [beq_eq_false_iff_ne]; intro e
      have := congrArg List.length e
      simp at this; omega
    go_enter Tryz.func116, Tryz.ntmps116
    go_wp2
    go_ret
    exact ⟨by simp [hf], rfl⟩
theorem hasPrefix_any (l : List UInt8) (w : World) : Calls Tryz.prog 98 #[.string (mk l), .string ⟨#[45, 32]⟩] w fun e w' => e = .returned (.bool (l.take 2 == [45, 32])) ∧ w = w' := by
  go_enter Tryz.func98, Tryz.ntmps98
  go_wp2_with (first | (go_at_call 116; refine (hasPrefixL_any _ _).mono ?_; rintro e w' ⟨rfl, rfl⟩))
  go_ret
  exact ⟨rfl, rfl⟩

end Go.Proofs.YtaphijgbebhdlaaGreatDoor.Pln
end
