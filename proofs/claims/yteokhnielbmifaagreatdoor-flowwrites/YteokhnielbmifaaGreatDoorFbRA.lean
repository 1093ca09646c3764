/- Several texts as one: PlainRefC, UtfRef, UtfRef2, UtfRef3a, UtfRef3, PlainRef2, PlainRef3, PlainRef4. -/
import Derived.Test.YteokhnielbmifaaGreatDoorFbI
import Derived.Test.YteokhnielbmifaaGreatDoorFbF
import Derived.Test.YteokhnielbmifaaGreatDoorFbJ
import Derived.Test.YteokhnielbmifaaGreatDoorFbA
import Derived.BigQuiet
import Derived.Deep.QuietTactic
import Derived.Laws.BytesArg
section
/- The reference's Has, colon, ends, Cut, by their contracts. -/
namespace Go.Proofs.YteokhnielbmifaaGreatDoor.Pln
open Utf Rws
open Go.RowKit
set_option linter.unusedSimpArgs false
set_option linter.unusedVariables false
set_option maxRecDepth 100000

theorem beq_toNat (a b : UInt8) : ((a.toNat : Int) == (b.toNat : Int)) = (a == b) := by
  rw [Bool.eq_iff_iff]
  simp only [beq_iff_eq]
  constructor
  · intro h; apply UInt8.toNat_inj.1; omega
  · rintro rfl; rfl
theorem has_take_snoc (c : UInt8) (l : List UInt8) (n : Nat) (h : n < l.length) : has c (l.take (n + 1)) = (has c (l.take n) || l.getD n 0 == c) := by
  unfold has
  rw [List.take_succ_eq_append_getElem h, List.any_append, List.getD_eq_getElem?_getD, List.getElem?_eq_getElem h]; simp
theorem has_hit (c : UInt8) (l : List UInt8) (n : Nat) (h : n < l.length) (hc : (l.getD n 0 == c) = true) : has c l = true := by
  unfold has
  rw [List.any_eq_true]
  rw [List.getD_eq_getElem?_getD, List.getElem?_eq_getElem h] at hc
  exact ⟨l[n], List.getElem_mem h, hc⟩

theorem rhas_any (l : List UInt8) (c : UInt8) (w : World) (hs : l.length ≤ 562949953421312) : Calls Tryz.prog 56 #[.string (mk l), .int .u8 c.toNat] w fun e w' => e = .returned (.bool (has c l)) ∧ w = w' := by
  have hsz := mk_size l
  go_enter Tryz.func56, Tryz.ntmps56
  go_wp2
  go_loop [5] (fun i => ∃ n : Nat, n ≤ l.length ∧ i = .int .i64 n ∧ has c (l.take n) = false) (fun i => l.length - (intOf i).toNat)
  case atStart => exact ⟨0, Nat.zero_le _, rfl, rfl⟩
  case round =>
    obtain ⟨n, hn1, rfl, ht⟩ := hrel
    have HT : Hid (has c (l.take n) = false) := ht
    clear ht
    by_cases hlt : n < l.length
    · have hg : ∀ h, (mk l)[n]'h = l.getD n 0 := fun h => mk_getD l n h
      have hlt' : n < (mk l).size := by rw [mk_size]; exact hlt
      have hb := beq_toNat (l.getD n 0) c
      have hsn := has_take_snoc c l n hlt
      rw [HT.out, Bool.false_or] at hsn
      have HSN : Hid (has c (l.take (n + 1)) = (l.getD n 0 == c)) := hsn
      have HH : Hid ((l.getD n 0 == c) = true → has c l = true) := has_hit c l n hlt
      clear hsn
      generalize l.getD n 0 = b at hg hb HSN HH
      cases hbc : (b == c)
      · rw [hbc] at hb HSN
        go_wp2
        go_round
        case rel => exact ⟨n + 1, by omega, by go_num, HSN.out⟩
        case measure => simp [intOf]; omega
      · rw [hbc] at hb
        go_wp2
        go_ret
        rw [HH.out hbc]
        exact ⟨rfl, rfl⟩
    · have HN : Hid (has c l = false) := by
        have := HT.out
        rw [List.take_of_length_le (by omega)] at this
        exact this
      go_wp2
      go_ret
      rw [HN.out]
      exact ⟨rfl, rfl⟩

/-- a colon that ends -/
def coB (l : List UInt8) (f : Bool) (i : Nat) : Bool := l.getD i 0 == 58 && (i + 1 == l.length || l.getD (i + 1) 0 == 32 || (f && fl (l.getD (i + 1) 0)))
theorem rhas_fl (b : UInt8) (w : World) : Calls Tryz.prog 56 #[.string ⟨#[44, 91, 93, 123, 125]⟩, .int .u8 b.toNat] w fun e w' => e = .returned (.bool (fl b)) ∧ w = w' := rhas_any flows b w (by decide)
theorem rhas_mrk (b : UInt8) (w : World) : Calls Tryz.prog 56 #[.string ⟨#[63, 58, 44, 91, 93, 123, 125, 35, 38, 42, 33, 124, 62, 39, 34, 37, 64, 96]⟩, .int .u8 b.toNat] w fun e w' => e = .returned (.bool (mrk b)) ∧ w = w' := rhas_any marks b w (by decide)

theorem rcolon_any (l : List UInt8) (f : Bool) (i : Nat) (w : World) (hs : l.length ≤ 562949953421312) (hi : i < l.length) : Calls Tryz.prog 86 #[.string (mk l), .int .i64 i, .bool f] w fun e w' => e = .returned (.bool (coB l f i)) ∧ w = w' := by
  have hsz := mk_size l
  have hg : ∀ h, (mk l)[i]'h = l.getD i 0 := fun h => mk_getD l i h
  have hlt : i < (mk l).size := by rw [mk_size]; exact hi
  have hb := b58 (l.getD i 0)
  cases c1 : (l.getD i 0 == 58)
  · have HE : Hid (coB l f i = false) := by unfold coB; rw [c1]; rfl
    rw [c1] at hb
    clear c1
    generalize l.getD i 0 = b at hg hb
    go_enter Tryz.func86, Tryz.ntmps86
    go_wp2
    go_ret
    rw [HE.out]
    exact ⟨rfl, rfl⟩
  · have HE : Hid (coB l f i = (i + 1 == l.length || l.getD (i + 1) 0 == 32 || (f && fl (l.getD (i + 1) 0)))) := by unfold coB; rw [c1]; rfl
    rw [c1] at hb
    clear c1
    generalize l.getD i 0 = b at hg hb
    by_cases h1 : i + 1 = l.length
    · have HE2 : Hid (coB l f i = true) := by rw [HE.out]; simp [h1, Hid]
      have hq : ((i : Int) + 1 == (l.length : Int)) = true := by rw [beq_iff_eq]; omega
      clear h1
      go_enter Tryz.func86, Tryz.ntmps86
      go_wp2
      go_ret
      rw [HE2.out]
      exact ⟨rfl, rfl⟩
    · have hq : ((i : Int) + 1 == (l.length : Int)) = false := by rw [beq_eq_false_iff_ne]; omega
      have h2 : i + 1 < l.length := by omega
      have hlm : i + 1 < (mk l).size := by omega
      have hg2 : ∀ h, (mk l)[i + 1]'h = l.getD (i + 1) 0 := fun h => mk_getD l (i + 1) h
      have hb2 := b32 (l.getD (i + 1) 0)
      have HE2 : Hid (coB l f i = (is32 (l.getD (i + 1) 0) || (f && fl (l.getD (i + 1) 0)))) := by
        rw [HE.out]
        have e : (i + 1 == l.length) = false := by simp; omega
        rw [e]; rfl
      clear HE h1
      generalize l.getD (i + 1) 0 = b2 at hg2 hb2 HE2
      cases e3 : is32 b2
      · rw [e3] at hb2 HE2
        cases f
        · go_enter Tryz.func86, Tryz.ntmps86
          go_wp2
          go_ret
          rw [HE2.out]
          exact ⟨rfl, rfl⟩
        · go_enter Tryz.func86, Tryz.ntmps86
          go_wp2_with (first | (go_at_call 56; refine (rhas_fl _ _).mono ?_; rintro e w' ⟨rfl, rfl⟩))
          go_ret
          rw [HE2.out]
          exact ⟨rfl, rfl⟩
      · rw [e3] at hb2 HE2
        go_enter Tryz.func86, Tryz.ntmps86
        go_wp2
        go_ret
        rw [HE2.out]
        exact ⟨rfl, rfl⟩

theorem en_colon (l : List UInt8) (f : Bool) (i : Nat) : en l f i = (coB l f i || ((l.getD i 0 == 35) && decide (0 < i) && (l.getD (i - 1) 0 == 32)) || (f && fl (l.getD i 0))) := by
  unfold en coB
  generalize l.getD i 0 = b
  generalize l.getD (i + 1) 0 = b1
  generalize l.getD (i - 1) 0 = b2
  by_cases c1 : b = 58
  · subst c1
    have e2 : ((58 : UInt8) == 35) = false := by decide
    rw [e2, fl_58]; simp
  · have e1 : (b == 58) = false := by simpa using c1
    rw [e1]
    by_cases c2 : b = 35
    · subst c2
      rw [fl_35]; simp
    · have e2 : (b == 35) = false := by simpa using c2
      rw [e2]; simp

theorem rends_any (l : List UInt8) (f : Bool) (i : Nat) (w : World) (hs : l.length ≤ 562949953421312) (hi : i < l.length) : Calls Tryz.prog 57 #[.string (mk l), .int .i64 i, .bool f] w fun e w' => e = .returned (.bool (en l f i)) ∧ w = w' := by
  have hsz := mk_size l
  have hg : ∀ h, (mk l)[i]'h = l.getD i 0 := fun h => mk_getD l i h
  have hlt : i < (mk l).size := by rw [mk_size]; exact hi
  have HE0 := en_colon l f i
  have hC := rcolon_any l f i w hs hi
  cases c0 : coB l f i
  · rw [c0] at HE0 hC
    have HC : Hid (Calls Tryz.prog 86 #[.string (mk l), .int .i64 i, .bool f] w fun e w' => e = .returned (.bool false) ∧ w = w') := hC
    clear hC c0
    have hb := b35 (l.getD i 0)
    have HF := rhas_fl (l.getD i 0) w
    have HFF : Hid (Calls Tryz.prog 56 #[.string ⟨#[44, 91, 93, 123, 125]⟩, .int .u8 ((l.getD i 0).toNat : Int)] w fun e w' => e = .returned (.bool (fl (l.getD i 0))) ∧ w = w') := HF
    clear HF
    cases c1 : (l.getD i 0 == 35)
    · rw [c1] at HE0 hb
      have HE : Hid (en l f i = (f && fl (l.getD i 0))) := by rw [HE0]; simp [Hid]
      clear HE0 c1
      generalize l.getD i 0 = b at hg hb HE HFF
      cases f
      · go_enter Tryz.func57, Tryz.ntmps57
        go_wp2_with (first | (go_at_call 86; refine HC.out.mono ?_; rintro e w' ⟨rfl, rfl⟩))
        go_ret
        rw [HE.out]
        exact ⟨rfl, rfl⟩
      · go_enter Tryz.func57, Tryz.ntmps57
        go_wp2_with (first | (go_at_call 86; refine HC.out.mono ?_; rintro e w' ⟨rfl, rfl⟩) | (go_at_call 56; refine HFF.out.mono ?_; rintro e w' ⟨rfl, rfl⟩))
        go_ret
        rw [HE.out]
        exact ⟨rfl, rfl⟩
    · have e35 : l.getD i 0 = 35 := by simpa using c1
      have hfl : fl (l.getD i 0) = false := by rw [e35]; exact fl_35
      rw [hfl] at HFF HE0
      rw [c1] at HE0 hb
      clear c1 e35 hfl
      generalize l.getD i 0 = b at hg hb HFF
      by_cases h0 : 0 < i
      · obtain ⟨m, rfl⟩ : ∃ m, i = m + 1 := ⟨i - 1, by omega⟩
        have hlm : m < (mk l).size := by omega
        have hg2 : ∀ h, (mk l)[m]'h = l.getD m 0 := fun h => mk_getD l m h
        have hb2 := b32 (l.getD m 0)
        have HE : Hid (en l f (m + 1) = is32 (l.getD m 0)) := by rw [HE0]; simp; rfl
        clear HE0
        generalize l.getD m 0 = b2 at hg2 hb2 HE
        cases e2 : is32 b2
        · rw [e2] at hb2 HE
          cases f
          · go_enter Tryz.func57, Tryz.ntmps57
            go_wp2_with (first | (go_at_call 86; refine HC.out.mono ?_; rintro e w' ⟨rfl, rfl⟩))
            go_ret
            rw [HE.out]
            exact ⟨rfl, rfl⟩
          · go_enter Tryz.func57, Tryz.ntmps57
            go_wp2_with (first | (go_at_call 86; refine HC.out.mono ?_; rintro e w' ⟨rfl, rfl⟩) | (go_at_call 56; refine HFF.out.mono ?_; rintro e w' ⟨rfl, rfl⟩))
            go_ret
            rw [HE.out]
            exact ⟨rfl, rfl⟩
        · rw [e2] at hb2 HE
          go_enter Tryz.func57, Tryz.ntmps57
          go_wp2_with (first | (go_at_call 86; refine HC.out.mono ?_; rintro e w' ⟨rfl, rfl⟩))
          go_ret
          rw [HE.out]
          exact ⟨rfl, rfl⟩
      · obtain rfl : i = 0 := by omega
        have HE : Hid (en l f 0 = false) := by rw [HE0]; simp [Hid]
        clear HE0
        cases f
        · go_enter Tryz.func57, Tryz.ntmps57
          go_wp2_with (first | (go_at_call 86; refine HC.out.mono ?_; rintro e w' ⟨rfl, rfl⟩))
          go_ret
          rw [HE.out]
          exact ⟨rfl, rfl⟩
        · go_enter Tryz.func57, Tryz.ntmps57
          go_wp2_with (first | (go_at_call 86; refine HC.out.mono ?_; rintro e w' ⟨rfl, rfl⟩) | (go_at_call 56; refine HFF.out.mono ?_; rintro e w' ⟨rfl, rfl⟩))
          go_ret
          rw [HE.out]
          exact ⟨rfl, rfl⟩
  · rw [c0] at HE0 hC
    have HC : Hid (Calls Tryz.prog 86 #[.string (mk l), .int .i64 i, .bool f] w fun e w' => e = .returned (.bool true) ∧ w = w') := hC
    have HE : Hid (en l f i = true) := by rw [HE0]; rfl
    clear hC c0 HE0
    go_enter Tryz.func57, Tryz.ntmps57
    go_wp2_with (first | (go_at_call 86; refine HC.out.mono ?_; rintro e w' ⟨rfl, rfl⟩))
    go_ret
    rw [HE.out]
    exact ⟨rfl, rfl⟩

theorem take_snoc (l : List UInt8) (e : Nat) (h : e < l.length) : l.take (e + 1) = l.take e ++ [l.getD e 0] := by
  rw [List.take_succ_eq_append_getElem h, List.getD_eq_getElem?_getD, List.getElem?_eq_getElem h]; rfl

end Go.Proofs.YteokhnielbmifaaGreatDoor.Pln
end

section
/- The reference's small functions: Sign, Printable, bytes, guess, begins, First, by their contracts. -/
namespace Go.Proofs.YteokhnielbmifaaGreatDoor.Utf
open Go.RowKit
set_option linter.unusedSimpArgs false
set_option linter.unusedVariables false

theorem ret_bool {a b : Bool} (h : a = b) : Ending.returned (.bool a) = .returned (.bool b) := by rw [h]

theorem rsign_any (n : Int) (w : World) : Calls Tryz.prog 119 #[.int .i64 n] w fun e w' => e = .returned (.bool (sgn n)) ∧ w = w' := by
  have hs : Hid (sgn n = (decide (0 ≤ n) && decide (n ≤ 1114111) && !(decide (55296 ≤ n) && decide (n ≤ 57343)))) := rfl
  rcases (show n < 0 ∨ 1114111 < n ∨ (0 ≤ n ∧ n < 55296) ∨ (55296 ≤ n ∧ n ≤ 57343) ∨ (57343 < n ∧ n ≤ 1114111) by omega) with h | h | h | h | h
  · have e : sgn n = false := by rw [hs.out]; simp; omega
    rw [e]; clear e hs
    go_enter Tryz.func119, Tryz.ntmps119
    go_wp2
    go_ret
    exact ⟨ret_bool (by first | rfl | (simp; omega)), rfl⟩
  · have e : sgn n = false := by rw [hs.out]; simp; omega
    rw [e]; clear e hs
    have h0 : 0 ≤ n := by omega
    go_enter Tryz.func119, Tryz.ntmps119
    go_wp2
    go_ret
    exact ⟨ret_bool (by first | rfl | (simp; omega)), rfl⟩
  · have e : sgn n = true := by rw [hs.out]; simp; omega
    rw [e]; clear e hs
    obtain ⟨h1, h2⟩ := h
    go_enter Tryz.func119, Tryz.ntmps119
    go_wp2
    go_ret
    exact ⟨ret_bool (by first | rfl | (simp; omega)), rfl⟩
  · have e : sgn n = false := by rw [hs.out]; simp; omega
    rw [e]; clear e hs
    obtain ⟨h1, h2⟩ := h
    go_enter Tryz.func119, Tryz.ntmps119
    go_wp2
    go_ret
    exact ⟨ret_bool (by first | rfl | (simp; omega)), rfl⟩
  · have e : sgn n = true := by rw [hs.out]; simp; omega
    rw [e]; clear e hs
    obtain ⟨h1, h2⟩ := h
    go_enter Tryz.func119, Tryz.ntmps119
    go_wp2
    go_ret
    exact ⟨ret_bool (by first | rfl | (simp; omega)), rfl⟩

theorem prn_rng (n : Int) (h1 : n ≠ 9) (h2 : n ≠ 10) (h3 : n ≠ 13) (h4 : n ≠ 133) (h5 : n ≠ 65279) : prn n = decide ((32 ≤ n ∧ n ≤ 126) ∨ (160 ≤ n ∧ n ≤ 55295) ∨ (57344 ≤ n ∧ n ≤ 65533) ∨ (65536 ≤ n ∧ n ≤ 1114111)) := by
  unfold prn inR
  have e1 : (n == 9) = false := by simpa using h1
  have e2 : (n == 10) = false := by simpa using h2
  have e3 : (n == 13) = false := by simpa using h3
  have e4 : (n == 133) = false := by simpa using h4
  have e5 : (n == 65279) = false := by simpa using h5
  rw [e1, e2, e3, e4, e5]
  simp [Bool.or_assoc]

set_option maxHeartbeats 2000000 in
theorem rprintable_any (n : Int) (w : World) : Calls Tryz.prog 85 #[.int .i64 n] w fun e w' => e = .returned (.bool (prn n)) ∧ w = w' := by
  by_cases h1 : n = 9
  · subst h1; go_enter Tryz.func85, Tryz.ntmps85; go_wp2; go_ret; exact ⟨ret_bool (by decide +kernel), rfl⟩
  by_cases h2 : n = 10
  · subst h2; go_enter Tryz.func85, Tryz.ntmps85; go_wp2; go_ret; exact ⟨ret_bool (by decide +kernel), rfl⟩
  by_cases h3 : n = 13
  · subst h3; go_enter Tryz.func85, Tryz.ntmps85; go_wp2; go_ret; exact ⟨ret_bool (by decide +kernel), rfl⟩
  by_cases h4 : n = 133
  · subst h4; go_enter Tryz.func85, Tryz.ntmps85; go_wp2; go_ret; exact ⟨ret_bool (by decide +kernel), rfl⟩
  by_cases h5 : n = 65279
  · subst h5; go_enter Tryz.func85, Tryz.ntmps85; go_wp2; go_ret; exact ⟨ret_bool (by decide +kernel), rfl⟩
  have hr := prn_rng n h1 h2 h3 h4 h5
  have e1 : (n == 9) = false := by simpa using h1
  have e2 : (n == 10) = false := by simpa using h2
  have e3 : (n == 13) = false := by simpa using h3
  have e4 : (n == 133) = false := by simpa using h4
  have e5 : (n == 65279) = false := by simpa using h5
  clear h1 h2 h3 h4 h5
  rcases (show n < 32 ∨ (32 ≤ n ∧ n ≤ 126) ∨ (126 < n ∧ n < 160) ∨ (160 ≤ n ∧ n ≤ 55295) ∨ (55295 < n ∧ n < 57344) ∨ (57344 ≤ n ∧ n ≤ 65533) ∨ (65533 < n ∧ n < 65536) ∨ (65536 ≤ n ∧ n ≤ 1114111) ∨ 1114111 < n by omega) with h | h | h | h | h | h | h | h | h
  · have e : prn n = false := by rw [hr]; simp; omega
    rw [e]; clear e hr
    go_enter Tryz.func85, Tryz.ntmps85
    go_wp2
    go_ret
    exact ⟨ret_bool (by first | rfl | (simp; omega)), rfl⟩
  · obtain ⟨h1, h2⟩ := h
    have e : prn n = true := by rw [hr]; simp; omega
    rw [e]; clear e hr
    go_enter Tryz.func85, Tryz.ntmps85
    go_wp2
    go_ret
    exact ⟨ret_bool (by first | rfl | (simp; omega)), rfl⟩
  · obtain ⟨h1, h2⟩ := h
    have e : prn n = false := by rw [hr]; simp; omega
    rw [e]; clear e hr
    go_enter Tryz.func85, Tryz.ntmps85
    go_wp2
    go_ret
    exact ⟨ret_bool (by first | rfl | (simp; omega)), rfl⟩
  · obtain ⟨h1, h2⟩ := h
    have e : prn n = true := by rw [hr]; simp; omega
    rw [e]; clear e hr
    go_enter Tryz.func85, Tryz.ntmps85
    go_wp2
    go_ret
    exact ⟨ret_bool (by first | rfl | (simp; omega)), rfl⟩
  · obtain ⟨h1, h2⟩ := h
    have e : prn n = false := by rw [hr]; simp; omega
    rw [e]; clear e hr
    go_enter Tryz.func85, Tryz.ntmps85
    go_wp2
    go_ret
    exact ⟨ret_bool (by first | rfl | (simp; omega)), rfl⟩
  · obtain ⟨h1, h2⟩ := h
    have e : prn n = true := by rw [hr]; simp; omega
    rw [e]; clear e hr
    go_enter Tryz.func85, Tryz.ntmps85
    go_wp2
    go_ret
    exact ⟨ret_bool (by first | rfl | (simp; omega)), rfl⟩
  · obtain ⟨h1, h2⟩ := h
    have e : prn n = false := by rw [hr]; simp; omega
    rw [e]; clear e hr
    go_enter Tryz.func85, Tryz.ntmps85
    go_wp2
    go_ret
    exact ⟨ret_bool (by first | rfl | (simp; omega)), rfl⟩
  · obtain ⟨h1, h2⟩ := h
    have e : prn n = true := by rw [hr]; simp; omega
    rw [e]; clear e hr
    go_enter Tryz.func85, Tryz.ntmps85
    go_wp2
    go_ret
    exact ⟨ret_bool (by first | rfl | (simp; omega)), rfl⟩
  · have e : prn n = false := by rw [hr]; simp; omega
    rw [e]; clear e hr
    go_enter Tryz.func85, Tryz.ntmps85
    go_wp2
    go_ret
    exact ⟨ret_bool (by first | rfl | (simp; omega)), rfl⟩

theorem rbytes_any (n : Int) (w : World) (h0 : 0 ≤ n) (h1 : n ≤ 1114111) : Calls Tryz.prog 120 #[.int .i64 n] w fun e w' =>
    e = .returned (.slice (some ⟨w.heap.size, 0, none⟩) (byt n).length (byt n).length) ∧ w.alloc (.cells ((byt n).map (Value.int .u8)).toArray 5) = w' := by
  rcases byt_parts h0 h1 with ⟨e, c⟩ | ⟨e, c, c'⟩ | ⟨e, c, c'⟩ | ⟨e, c⟩ <;> rw [e] <;> clear e
  all_goals
    go_enter Tryz.func120, Tryz.ntmps120
    go_wp2
    go_ret
    exact ⟨rfl, rfl⟩

end Go.Proofs.YteokhnielbmifaaGreatDoor.Utf
end

section
/- The reference's guess, begins, First, by their contracts. -/
namespace Go.Proofs.YteokhnielbmifaaGreatDoor.Utf
open Go.RowKit
set_option linter.unusedSimpArgs false
set_option linter.unusedVariables false

def fb (m : Nat) : Int := if m = 1 then 0 else if m = 2 then 192 else if m = 3 then 224 else 240
def gss (l : List UInt8) (m : Nat) : Nat → Int
  | 0 => ((l.getD 0 0).toNat : Int) - fb m
  | k + 1 => gss l m k * 64 + ((l.getD (k + 1) 0).toNat : Int) - 128
theorem fb_bd (m : Nat) : 0 ≤ fb m ∧ fb m ≤ 240 := by
  unfold fb; split; · decide
  split; · decide
  split <;> decide
theorem gss_bd (l : List UInt8) (m k : Nat) (hk : k ≤ 3) : -100000000 ≤ gss l m k ∧ gss l m k ≤ 100000000 := by
  have hf := fb_bd m
  have b0 := (l.getD 0 0).toNat_lt
  have b1 := (l.getD 1 0).toNat_lt
  have b2 := (l.getD 2 0).toNat_lt
  have b3 := (l.getD 3 0).toNat_lt
  rcases (show k = 0 ∨ k = 1 ∨ k = 2 ∨ k = 3 by omega) with rfl | rfl | rfl | rfl <;> simp only [gss, Nat.zero_add, Nat.reduceAdd] <;> omega

set_option maxHeartbeats 1000000 in
theorem guess_any (s : ByteArray) (m : Nat) (w : World) (hs : s.size ≤ maxLen) (h1 : 1 ≤ m) (h4 : m ≤ 4) (hm : m ≤ s.size) :
    Calls Tryz.prog 118 #[.string s, .int .i64 m] w fun e w' => e = .returned (.int .i64 (gss s.data.toList m (m - 1))) ∧ Below w.heap.size w w' := by
  unfold maxLen at hs
  have hd := getD_byte s 0 (by omega)
  have hb0 : (s[0].toNat : Int) < 256 := by have := s[0].toNat_lt; omega
  have hp : 0 < s.size := by omega
  have H0 : Hid (gss s.data.toList m 0 = (s[0].toNat : Int) - fb m) := by show _ = _; rw [← hd]; rfl
  clear hd
  have hcell : (w.alloc (Obj.cells #[Value.int IntKind.i64 0, Value.int IntKind.i64 0, Value.int IntKind.i64 192, Value.int IntKind.i64 224, Value.int IntKind.i64 240] 3)).cell? ⟨w.heap.size, m, none⟩ = some (.int .i64 (fb m)) := by
    rw [cell_of_row _ w.heap.size m _ 3 (0, 0) (heap_alloc_new w _)]
    rcases (show m = 1 ∨ m = 2 ∨ m = 3 ∨ m = 4 by omega) with rfl | rfl | rfl | rfl <;> rfl
  have hfb := fb_bd m
  go_enter Tryz.func118, Tryz.ntmps118
  go_wp2
  go_quiet (fail)
  go_wp2
  clear hcell
  go_loop [6, 7] (fun g i => ∃ k : Nat, 1 ≤ k ∧ k ≤ m ∧ i = .int .i64 k ∧ g = .int .i64 (gss s.data.toList m (k - 1))) (fun _ i => (4 - intOf i).toNat)
  case atStart => exact ⟨1, by omega, by omega, rfl, by rw [← H0.out]⟩
  case round =>
    obtain ⟨k, hk1, hk2, rfl, rfl⟩ := hrel
    have hg := gss_bd s.data.toList m (k - 1) (by omega)
    by_cases hlt : k < m
    · have hks : k < s.size := by omega
      have hbk : (s[k].toNat : Int) < 256 := by have := s[k].toNat_lt; omega
      have HS : Hid (gss s.data.toList m k = gss s.data.toList m (k - 1) * 64 + (s[k].toNat : Int) - 128) := by
        rw [← getD_byte s k hks]
        obtain ⟨j, rfl⟩ : ∃ j, k = j + 1 := ⟨k - 1, by omega⟩
        rfl
      go_wp2
      go_round
      case rel => exact ⟨k + 1, by omega, by omega, by go_num, by rw [Nat.add_sub_cancel, HS.out]⟩
      case measure => simp [intOf]; omega
    · go_wp2
      go_ret
      have e : k = m := by omega
      subst e
      exact ⟨rfl, below_drewN ((Below.refl _ _).alloc (Nat.le_refl _) _) _⟩

theorem strOf_extract (s : ByteArray) (k : Nat) (h : k ≤ s.size) : (s.extract 0 k).toList = s.data.toList.take k := by
  have e : s = ⟨s.data.toList.toArray⟩ := by simp
  rw [ByteArray.toList_eq]
  conv => lhs; rw [e]
  rw [ByteArray.extract_mk]
  simp

def pref (n : Int) (l : List UInt8) : Bool := l.take (byt n).length == u8s (byt n)

theorem begins_any (s : ByteArray) (n : Int) (w : World) (hs : s.size ≤ maxLen) (h0 : 0 ≤ n) (h1 : n ≤ 1114111) (hl : (byt n).length ≤ s.size) :
    Calls Tryz.prog 121 #[.string s, .int .i64 n] w fun e w' => e = .returned (.bool (pref n s.data.toList)) ∧ Below w.heap.size w w' := by
  have hx := strOf_extract s _ hl
  have hsz := strOfNums_size (byt n)
  have hcv : ∀ w : World, (convert 45 9 (.slice (some ⟨w.heap.size, 0, none⟩) (byt n).length (byt n).length)).run Tryz.prog (w.alloc (.cells ((byt n).map (Value.int .u8)).toArray 5)) = .ok (.string (strOfNums (byt n))) (w.alloc (.cells ((byt n).map (Value.int .u8)).toArray 5)) := by
    intro w
    refine run_convert_bytes_arg _ 45 5 Tryz.underlying45 Tryz.underlying5 w.heap.size 0 _ _ (byt n) rfl ?_ 9 Tryz.underlying9
    intro i hi
    rw [Nat.zero_add, cell_of_row _ w.heap.size i _ 5 (0, 0) (heap_alloc_new w _)]
    simp [List.getD_eq_getElem?_getD, List.getElem?_eq_getElem hi]
  have HP : Hid (pref n s.data.toList = (s.data.toList.take (byt n).length == u8s (byt n))) := rfl
  have h4 := (byt_len n).2
  unfold maxLen at hs
  go_enter Tryz.func121, Tryz.ntmps121
  go_wp2_with (first | (go_at_call 120; refine (rbytes_any _ _ h0 h1).mono ?_; rintro e w' ⟨rfl, rfl⟩))
  go_ret
  exact ⟨ret_bool (by rw [HP.out, ByteArray.toList_eq]; rfl), (Below.refl _ _).alloc (Nat.le_refl _) _⟩

/-- whether so many bytes are a sign's -/
def cond (l : List UInt8) (m : Nat) : Bool := sgn (gss l m (m - 1)) && ((byt (gss l m (m - 1))).length == m) && pref (gss l m (m - 1)) l

theorem gss_enc {n : Int} (h0 : 0 ≤ n) (h1 : n ≤ 1114111) (r : List UInt8) : gss (u8s (byt n) ++ r) (byt n).length ((byt n).length - 1) = n := by
  rcases byt_parts h0 h1 with ⟨e, c⟩ | ⟨e, c, c'⟩ | ⟨e, c, c'⟩ | ⟨e, c⟩ <;> rw [e] <;>
    simp only [u8s, List.map_cons, List.map_nil, List.length_cons, List.length_nil, List.cons_append, List.nil_append, gss, List.getD_cons_zero, List.getD_cons_succ, Nat.zero_add, Nat.reduceAdd, Nat.reduceSub, fb, Nat.reduceEqDiff, if_true, if_false]
  · rw [toNat_u8 h0 (by omega)]; omega
  · rw [toNat_u8 (by omega) (by omega), toNat_u8 (by omega) (by omega)]; omega
  · rw [toNat_u8 (by omega) (by omega), toNat_u8 (by omega) (by omega), toNat_u8 (by omega) (by omega)]; omega
  · rw [toNat_u8 (by omega) (by omega), toNat_u8 (by omega) (by omega), toNat_u8 (by omega) (by omega), toNat_u8 (by omega) (by omega)]; omega

theorem rf_yes (l : List UInt8) (m : Nat) (h : cond l m = true) : fst l = (gss l m (m - 1), (m : Int)) := by
  unfold cond pref at h
  simp only [Bool.and_eq_true, beq_iff_eq] at h
  obtain ⟨⟨h1, h2⟩, h3⟩ := h
  have e : l = u8s (byt (gss l m (m - 1))) ++ l.drop (byt (gss l m (m - 1))).length := by rw [← h3]; exact (List.take_append_drop _ _).symm
  have hf := fst_enc h1 (l.drop (byt (gss l m (m - 1))).length)
  rw [← e] at hf
  rw [hf, h2]

theorem fst_neg (l : List UInt8) (h : l ≠ []) (hn : (fst l).1 < 0) : fst l = (-1, 1) := by
  have h0 : l.length ≠ 0 := fun e => h (List.eq_nil_iff_length_eq_zero.2 e)
  unfold fst at hn ⊢
  rw [if_neg h0] at hn ⊢
  split at hn
  · rename_i c; rw [if_pos c]
  · rename_i c
    rw [if_neg c]
    split at hn
    · rename_i d
      have := sgn_bd d.2.1
      simp only at hn; omega
    · rename_i d; rw [if_neg d]

theorem rf_no (l : List UInt8) (h : l ≠ []) (hc : ∀ j, 1 ≤ j → j ≤ 4 → j ≤ l.length → cond l j = false) : fst l = (-1, 1) := by
  by_cases hn : (fst l).1 < 0
  · exact fst_neg l h hn
  · exfalso
    obtain ⟨s1, s2, s3⟩ := fst_sound l (by omega)
    obtain ⟨b0, b1, _⟩ := sgn_bd s1
    have hl := byt_len (fst l).1
    have hb := fst_bd l
    have hg := gss_enc b0 b1 (l.drop (byt (fst l).1).length)
    rw [← s3] at hg
    have := hc (byt (fst l).1).length hl.1 hl.2 (by omega)
    unfold cond pref at this
    rw [hg, s1] at this
    simp at this
    apply this
    have key : ∀ (n : Int) (r : List UInt8), l = u8s (byt n) ++ r → l.take (byt n).length = u8s (byt n) := by
      intro n r e
      have e2 : (byt n).length = (u8s (byt n)).length := by simp [u8s]
      rw [e, e2]
      exact List.take_left
    exact key _ _ s3

set_option maxHeartbeats 1000000 in
theorem rfirst_any (s : ByteArray) (w : World) (hs : s.size ≤ maxLen) : Calls Tryz.prog 84 #[.string s] w fun e w' => e = .returned (.tuple #[.int .i64 (fst s.data.toList).1, .int .i64 (fst s.data.toList).2]) ∧ Below w.heap.size w w' := by
  have hs' := hs
  unfold maxLen at hs
  by_cases h0 : s.size = 0
  · have hie : s.toList.isEmpty = true := by
      have := len_data s
      rw [ByteArray.toList_eq, List.isEmpty_iff, List.eq_nil_iff_length_eq_zero]; omega
    have hf := fst_nil s.data.toList (by rw [len_data]; exact h0)
    rw [hf]; clear hf
    go_enter Tryz.func84, Tryz.ntmps84
    go_wp2
    go_ret2
    exact ⟨rfl, Below.refl _ _⟩
  · have hp : 0 < s.size := by omega
    have hie : s.toList.isEmpty = false := by
      have := len_data s
      rw [ByteArray.toList_eq, Bool.eq_false_iff]; intro h; rw [List.isEmpty_iff, List.eq_nil_iff_length_eq_zero] at h; omega
    have HNE : Hid (s.data.toList ≠ []) := by
      intro e
      have h := len_data s
      rw [e, List.length_nil] at h
      omega
    clear h0
    go_enter Tryz.func84, Tryz.ntmps84
    go_wp2
    go_loopw [4] (fun i wr => ∃ k : Nat, 1 ≤ k ∧ k ≤ 5 ∧ i = .int .i64 k ∧ (∀ j, 1 ≤ j → j < k → cond s.data.toList j = false) ∧ Below w.heap.size w wr) (fun i _ => (5 - intOf i).toNat)
    case atStart => exact ⟨1, by omega, by omega, rfl, fun j h h' => by omega, Below.refl _ _⟩
    case round =>
      obtain ⟨k, hk1, hk5, rfl, hc, hbe⟩ := hrel
      have HC : Hid (∀ j, 1 ≤ j → j < k → cond s.data.toList j = false) := hc
      clear hc
      by_cases hlt : (k : Int) ≤ 4
      · by_cases hls : (k : Int) ≤ s.size
        · have hks : k ≤ s.size := by omega
          have hk4 : k ≤ 4 := by omega
          obtain ⟨n, hn⟩ : ∃ n, n = gss s.data.toList k (k - 1) := ⟨_, rfl⟩
          have HN : Hid (n = gss s.data.toList k (k - 1)) := hn
          have hcd : cond s.data.toList k = (sgn n && ((byt n).length == k) && pref n s.data.toList) := by unfold cond; rw [hn]
          have HCD : Hid (cond s.data.toList k = (sgn n && ((byt n).length == k) && pref n s.data.toList)) := hcd
          have HNX : Hid (cond s.data.toList k = false → ∀ j, 1 ≤ j → j < k + 1 → cond s.data.toList j = false) := by
            intro hf j h1 h2
            by_cases e : j = k
            · subst e; exact hf
            · exact HC.out j h1 (by omega)
          clear hn hcd
          cases hsg : sgn n
          · go_wp2_with fail
            refine (guess_any s k _ hs' hk1 hk4 hks).mono ?_
            rintro e w1 ⟨rfl, hb1⟩
            rw [← HN.out]
            go_wp2_with (first | (go_at_call 119; refine (rsign_any _ _).mono ?_; rintro e w' ⟨rfl, rfl⟩))
            go_roundw
            case rel => exact ⟨k + 1, by omega, by omega, by go_num, HNX.out (by rw [HCD.out, hsg]; rfl), hbe.trans (hb1.mono hbe.size)⟩
            case measure => simp [intOf]; omega
          · obtain ⟨b0, b1, _⟩ := sgn_bd hsg
            by_cases hle : (byt n).length = k
            · have hle' : (((byt n).length : Int) == (k : Int)) = true := by simp; omega
              have hlk : (byt n).length ≤ s.size := by omega
              have HLE : Hid ((byt n).length = k) := hle
              clear hle
              cases hpf : pref n s.data.toList
              · go_wp2_with fail
                refine (guess_any s k _ hs' hk1 hk4 hks).mono ?_
                rintro e w1 ⟨rfl, hb1⟩
                rw [← HN.out]
                go_wp2_with (first | (go_at_call 119; refine (rsign_any _ _).mono ?_; rintro e w' ⟨rfl, rfl⟩) | (go_at_call 120; refine (rbytes_any _ _ b0 b1).mono ?_; rintro e w' ⟨rfl, rfl⟩) | (go_at_call 121; refine (begins_any _ _ _ hs' b0 b1 hlk).mono ?_; rintro e w3 ⟨rfl, hb3⟩))
                have sb1 := hb1.size
                have sb := hbe.size
                go_roundw
                case rel => exact ⟨k + 1, by omega, by omega, by go_num, HNX.out (by rw [HCD.out, hpf]; simp), ((hbe.trans (hb1.mono sb)).alloc (by omega) _).trans (hb3.mono (by simp; omega))⟩
                case measure => simp [intOf]; omega
              · have HF : Hid (fst s.data.toList = (n, (k : Int))) := by
                  have := rf_yes s.data.toList k (by rw [HCD.out, hsg, hpf, HLE.out]; simp)
                  rw [← HN.out] at this
                  exact this
                go_wp2_with fail
                refine (guess_any s k _ hs' hk1 hk4 hks).mono ?_
                rintro e w1 ⟨rfl, hb1⟩
                rw [← HN.out]
                go_wp2_with (first | (go_at_call 119; refine (rsign_any _ _).mono ?_; rintro e w' ⟨rfl, rfl⟩) | (go_at_call 120; refine (rbytes_any _ _ b0 b1).mono ?_; rintro e w' ⟨rfl, rfl⟩) | (go_at_call 121; refine (begins_any _ _ _ hs' b0 b1 hlk).mono ?_; rintro e w3 ⟨rfl, hb3⟩))
                have sb1 := hb1.size
                have sb := hbe.size
                go_ret2
                exact ⟨by rw [HF.out]; rfl, ((hbe.trans (hb1.mono sb)).alloc (by omega) _).trans (hb3.mono (by simp; omega))⟩
            · have hle' : (((byt n).length : Int) == (k : Int)) = false := by simp; omega
              go_wp2_with fail
              refine (guess_any s k _ hs' hk1 hk4 hks).mono ?_
              rintro e w1 ⟨rfl, hb1⟩
              rw [← HN.out]
              go_wp2_with (first | (go_at_call 119; refine (rsign_any _ _).mono ?_; rintro e w' ⟨rfl, rfl⟩) | (go_at_call 120; refine (rbytes_any _ _ b0 b1).mono ?_; rintro e w' ⟨rfl, rfl⟩))
              have sb1 := hb1.size
              have sb := hbe.size
              go_roundw
              case rel => exact ⟨k + 1, by omega, by omega, by go_num, HNX.out (by rw [HCD.out]; simp [hle]), (hbe.trans (hb1.mono sb)).alloc (by omega) _⟩
              case measure => simp [intOf]; omega
        · have HF : Hid (fst s.data.toList = (-1, 1)) := rf_no _ HNE.out fun j h1 h2 h3 => HC.out j h1 (by rw [len_data] at h3; omega)
          go_wp2
          go_ret2
          exact ⟨by rw [HF.out]; rfl, hbe⟩
      · have HF : Hid (fst s.data.toList = (-1, 1)) := rf_no _ HNE.out fun j h1 h2 h3 => HC.out j h1 (by omega)
        have hlt' : decide ((k : Int) ≤ 4) = false := by simpa using hlt
        go_wp2
        go_ret2
        exact ⟨by rw [HF.out]; rfl, hbe⟩

end Go.Proofs.YteokhnielbmifaaGreatDoor.Utf
end

section
/- the reference's First at a place within a text. -/
namespace Go.Proofs.YteokhnielbmifaaGreatDoor.Utf
open Go.RowKit
set_option linter.unusedSimpArgs false
set_option linter.unusedVariables false

theorem rfirstAt_any (s : ByteArray) (p : Nat) (w : World) (hs : s.size ≤ maxLen) : Calls Tryz.prog 84 #[.string (s.extract p s.size)] w fun e w' => e = .returned (.tuple #[.int .i64 (fst (s.data.toList.drop p)).1, .int .i64 (fst (s.data.toList.drop p)).2]) ∧ Below w.heap.size w w' := by
  have h := rfirst_any (s.extract p s.size) w (by have e := congrArg List.length (drop_data s p); rw [len_data, List.length_drop, len_data] at e; omega)
  rw [drop_data] at h
  exact h

theorem prn_neg {n : Int} (h : n < 0) : prn n = false := by
  rw [prn_rng n (by omega) (by omega) (by omega) (by omega) (by omega)]
  simp; omega

end Go.Proofs.YteokhnielbmifaaGreatDoor.Utf
end

section
/- The reference's Count, Check, Decode, Encode, by their contracts. -/
namespace Go.Proofs.YteokhnielbmifaaGreatDoor.Utf
open Go.RowKit
set_option linter.unusedSimpArgs false
set_option linter.unusedVariables false

theorem rcheck_any (s : ByteArray) (w : World) (hs : s.size ≤ maxLen) : Calls Tryz.prog 55 #[.string s] w fun e w' => e = .returned (.agg #[.int .i64 (why (chk s.data.toList)), .int .i64 (pos (chk s.data.toList))]) ∧ Below w.heap.size w w' := by
  have hs' := hs
  unfold maxLen at hs
  go_enter Tryz.func55, Tryz.ntmps55
  go_wp2
  go_loopw [3] (fun i wr => ∃ p : Nat, Below (w.heap.size + 1) (w.alloc (.cells #[.int .i64 0, .int .i64 0] 37)) wr ∧ p ≤ s.size ∧ i = .int .i64 p ∧ chk s.data.toList = (chk (s.data.toList.drop p)).map (· + p)) (fun i _ => s.size - (intOf i).toNat)
  case atStart => exact ⟨0, Below.refl _ _, Nat.zero_le _, rfl, by simp⟩
  case round =>
    obtain ⟨p, hbe, hp, rfl, hc⟩ := hrel
    have HC : Hid (chk s.data.toList = (chk (s.data.toList.drop p)).map (· + p)) := hc
    clear hc
    have hc0 : wr.cell? ⟨w.heap.size, 0, none⟩ = some (.int .i64 0) := (hbe.cell (p := ⟨w.heap.size, 0, none⟩) (by simp)).trans (by rw [cell_of_row _ w.heap.size 0 _ _ (0, 0) (heap_alloc_new w _)]; rfl)
    have hc1 : wr.cell? ⟨w.heap.size, 1, none⟩ = some (.int .i64 0) := (hbe.cell (p := ⟨w.heap.size, 1, none⟩) (by simp)).trans (by rw [cell_of_row _ w.heap.size 1 _ _ (0, 0) (heap_alloc_new w _)]; rfl)
    have hf0 : wr.frozen? ⟨w.heap.size, 0, none⟩ = false := (hbe.frozen (p := ⟨w.heap.size, 0, none⟩) (by simp)).trans (by simp)
    have hf1 : wr.frozen? ⟨w.heap.size, 1, none⟩ = false := (hbe.frozen (p := ⟨w.heap.size, 1, none⟩) (by simp)).trans (by simp)
    have hsz : w.heap.size + 1 ≤ wr.heap.size := by have := hbe.size; simpa using this
    by_cases hlt : p < s.size
    · have hne := drop_ne s p hlt
      have hf := fk_pos _ hne
      have hcn := chk_next _ hne
      rw [List.drop_drop] at hcn
      rw [List.length_drop, len_data] at hf
      obtain ⟨f1, f2, f3, f4⟩ := hf
      have hb0 : 0 ≤ (fst (s.data.toList.drop p)).2 := by omega
      have hb4 : (fst (s.data.toList.drop p)).2 ≤ 4 := by omega
      have hb5 : (p : Int) + (fst (s.data.toList.drop p)).2 ≤ s.size := by omega
      have H4 : Hid (((fk (s.data.toList.drop p) : Nat) : Int) = (fst (s.data.toList.drop p)).2) := f4
      clear f4 hne
      cases hpr : prn (fst (s.data.toList.drop p)).1
      · rw [hpr] at hcn
        have HN : Hid (chk s.data.toList = some p) := by have := HC.out; rw [hcn] at this; simp at this; exact this
        clear hcn
        by_cases hneg : (fst (s.data.toList.drop p)).1 < 0
        · have hneg' : decide ((fst (s.data.toList.drop p)).1 < 0) = true := by simpa using hneg
          go_wp2_with (first | (go_at_call 84; refine (rfirstAt_any _ _ _ hs').mono ?_; rintro e w1 ⟨rfl, hb1⟩; have ic0 := (hb1.cell (p := ⟨w.heap.size, 0, none⟩) hsz).trans hc0; have ic1 := (hb1.cell (p := ⟨w.heap.size, 1, none⟩) hsz).trans hc1; have if0 := (hb1.frozen (p := ⟨w.heap.size, 0, none⟩) hsz).trans hf0; have if1 := (hb1.frozen (p := ⟨w.heap.size, 1, none⟩) hsz).trans hf1) | (go_at_call 85; refine (rprintable_any _ _).mono ?_; rintro e w' ⟨rfl, rfl⟩))
          refine bodyPost_ret (v := .agg #[.int .i64 8, .int .i64 p]) (by simp [results, Tryz.results55, go_sem, ic0, ic1]) rfl ⟨by rw [HN.out]; rfl, ?_⟩
          exact ((((Below.refl _ _).alloc (Nat.le_refl _) _).trans ((hbe.mono (Nat.le_succ _)).trans (hb1.mono (by omega)))).setCell (Nat.le_refl _) _).setCell (Nat.le_refl _) _
        · have hneg' : decide ((fst (s.data.toList.drop p)).1 < 0) = false := by simpa using hneg
          go_wp2_with (first | (go_at_call 84; refine (rfirstAt_any _ _ _ hs').mono ?_; rintro e w1 ⟨rfl, hb1⟩; have ic0 := (hb1.cell (p := ⟨w.heap.size, 0, none⟩) hsz).trans hc0; have ic1 := (hb1.cell (p := ⟨w.heap.size, 1, none⟩) hsz).trans hc1; have if0 := (hb1.frozen (p := ⟨w.heap.size, 0, none⟩) hsz).trans hf0; have if1 := (hb1.frozen (p := ⟨w.heap.size, 1, none⟩) hsz).trans hf1) | (go_at_call 85; refine (rprintable_any _ _).mono ?_; rintro e w' ⟨rfl, rfl⟩))
          refine bodyPost_ret (v := .agg #[.int .i64 8, .int .i64 p]) (by simp [results, Tryz.results55, go_sem, ic0, ic1]) rfl ⟨by rw [HN.out]; rfl, ?_⟩
          exact ((((Below.refl _ _).alloc (Nat.le_refl _) _).trans ((hbe.mono (Nat.le_succ _)).trans (hb1.mono (by omega)))).setCell (Nat.le_refl _) _).setCell (Nat.le_refl _) _
      · rw [hpr] at hcn
        have HN : Hid (chk s.data.toList = (chk (s.data.toList.drop (p + fk (s.data.toList.drop p)))).map (· + (p + fk (s.data.toList.drop p)))) := by
          have := HC.out; rw [hcn] at this; simp [Option.map_map] at this; rw [this]; congr 1; funext x; simp; omega
        clear hcn
        have hneg : ¬ (fst (s.data.toList.drop p)).1 < 0 := fun h => by rw [prn_neg h] at hpr; cases hpr
        have hneg' : decide ((fst (s.data.toList.drop p)).1 < 0) = false := by simpa using hneg
        go_wp2_with (first | (go_at_call 84; refine (rfirstAt_any _ _ _ hs').mono ?_; rintro e w1 ⟨rfl, hb1⟩; have ic0 := (hb1.cell (p := ⟨w.heap.size, 0, none⟩) hsz).trans hc0; have ic1 := (hb1.cell (p := ⟨w.heap.size, 1, none⟩) hsz).trans hc1; have if0 := (hb1.frozen (p := ⟨w.heap.size, 0, none⟩) hsz).trans hf0; have if1 := (hb1.frozen (p := ⟨w.heap.size, 1, none⟩) hsz).trans hf1) | (go_at_call 85; refine (rprintable_any _ _).mono ?_; rintro e w' ⟨rfl, rfl⟩))
        have h4 := H4.out
        go_roundw
        case rel => exact ⟨p + fk (s.data.toList.drop p), hbe.trans (hb1.mono (by omega)), by omega, by rw [← H4.out]; go_num, HN.out⟩
        case measure => simp [intOf]; omega
    · have HN : Hid (chk s.data.toList = none) := by
        have := HC.out
        rw [List.drop_of_length_le (by rw [len_data]; omega), chk_nil] at this
        exact this
      go_wp2
      refine bodyPost_ret (v := .agg #[.int .i64 0, .int .i64 0]) (by simp [results, Tryz.results55, go_sem, hc0, hc1]) rfl ⟨by rw [HN.out]; rfl, ?_⟩
      exact ((((Below.refl _ _).alloc (Nat.le_refl _) _).trans (hbe.mono (Nat.le_succ _))).setCell (Nat.le_refl _) _).setCell (Nat.le_refl _) _


end Go.Proofs.YteokhnielbmifaaGreatDoor.Utf
end

section
/- The reference's Is, by its contract. -/
namespace Go.Proofs.YteokhnielbmifaaGreatDoor.Pln
open Utf Rws
open Go.RowKit
set_option linter.unusedSimpArgs false
set_option linter.unusedVariables false
set_option maxRecDepth 100000

theorem b45 (b : UInt8) : ((b.toNat : Int) == 45) = (b == 45) := beq_toNat b 45
theorem b9 (b : UInt8) : ((b.toNat : Int) == 9) = (b == 9) := beq_toNat b 9
theorem b10 (b : UInt8) : ((b.toNat : Int) == 10) = (b == 10) := beq_toNat b 10
theorem b13 (b : UInt8) : ((b.toNat : Int) == 13) = (b == 13) := beq_toNat b 13

def okk (l : List UInt8) (f : Bool) (n : Nat) : Prop := ∀ j, j < n → c3 (l.getD j 0) = false ∧ en l f j = false
theorem okk_succ {l : List UInt8} {f : Bool} {n : Nat} (h : okk l f n) (h1 : c3 (l.getD n 0) = false) (h2 : en l f n = false) : okk l f (n + 1) := by
  intro j hj
  by_cases e : j = n
  · subst e; exact ⟨h1, h2⟩
  · exact h j (by omega)
theorem anyB_getD (l : List UInt8) : anyB l = true ↔ ∃ j, j < l.length ∧ c3 (l.getD j 0) = true := by
  unfold anyB
  rw [List.any_eq_true]
  constructor
  · rintro ⟨x, hx, hf⟩
    obtain ⟨j, hj, rfl⟩ := List.getElem_of_mem hx
    exact ⟨j, hj, by rw [List.getD_eq_getElem?_getD, List.getElem?_eq_getElem hj]; exact hf⟩
  · rintro ⟨j, hj, hf⟩
    rw [List.getD_eq_getElem?_getD, List.getElem?_eq_getElem hj] at hf
    exact ⟨l[j], List.getElem_mem hj, hf⟩
theorem okk_all {l : List UInt8} {f : Bool} (h : okk l f l.length) : (!anyB l && (fin l f == l.length)) = true := by
  rw [Bool.and_eq_true]
  refine ⟨?_, ?_⟩
  · cases e : anyB l
    · rfl
    · obtain ⟨j, hj, hc⟩ := (anyB_getD l).1 e
      rw [(h j hj).1] at hc; cases hc
  · rw [fin_len]; exact fun j hj => (h j hj).2
theorem okk_hit {l : List UInt8} {f : Bool} {n : Nat} (hn : n < l.length) (h : (c3 (l.getD n 0) || en l f n) = true) : (!anyB l && (fin l f == l.length)) = false := by
  rw [Bool.eq_false_iff]
  intro h2
  rw [Bool.and_eq_true, fin_len] at h2
  rw [Bool.or_eq_true] at h
  rcases h with h | h
  · rw [(anyB_getD l).2 ⟨n, hn, h⟩] at h2; cases h2.1
  · rw [h2.2 n hn] at h; cases h

theorem isP_no1 {l : List UInt8} {f : Bool} (h : pri l = false) : isP l f = false := by unfold isP; rw [h]; rfl
theorem isP_no2 {l : List UInt8} {f : Bool} (h : bg l = false) : isP l f = false := by unfold isP; rw [h]; simp
theorem isP_no3 {l : List UInt8} {f : Bool} (h : is32 (l.getD (l.length - 1) 0) = true) : isP l f = false := by
  unfold isP
  rw [show (l.getD (l.length - 1) 0 == 32) = is32 (l.getD (l.length - 1) 0) from rfl, h]; simp
theorem isP_no4 {l : List UInt8} {f : Bool} {n : Nat} (hn : n < l.length) (h : en l f n = true) : isP l f = false := by
  rw [Bool.eq_false_iff]
  intro h2
  have := (fin_len l f).1 (by rw [isP_fin h2]; simp) n hn
  rw [h] at this; cases this
theorem isP_pass {l : List UInt8} {f : Bool} (h1 : chk l = none) (h2 : bg l = true) (h3 : is32 (l.getD (l.length - 1) 0) = false) : isP l f = (!anyB l && (fin l f == l.length)) := by
  unfold isP pri
  rw [h1, h2, show (l.getD (l.length - 1) 0 == 32) = is32 (l.getD (l.length - 1) 0) from rfl, h3, anyB_has]
  simp
theorem head2 {l : List UInt8} (h0 : l ≠ []) (h1 : l ≠ [45]) (hh : l.getD 0 0 = 45) : 2 ≤ l.length := by
  match l, h0, h1, hh with
  | [], h0, _, _ => exact absurd rfl h0
  | [b], _, h1, hh => have : b = 45 := hh
                      subst this; exact absurd rfl h1
  | _ :: _ :: r, _, _, _ => simp
theorem take2_ne {l : List UInt8} (h : l.getD 0 0 = 45 → l.getD 1 0 ≠ 32) : (l.take 2 == [45, 32]) = false := by
  rw [beq_eq_false_iff_ne]
  intro e
  match l, h, e with
  | [], _, e => simp at e
  | [b], _, e => simp at e
  | b :: c :: r, h, e =>
    simp only [List.take_succ_cons, List.take_zero, List.cons.injEq, and_true] at e
    obtain ⟨rfl, rfl⟩ := e
    exact h rfl rfl
theorem take2_eq' {l : List UInt8} (hl : 2 ≤ l.length) (h0 : l.getD 0 0 = 45) (h1 : l.getD 1 0 = 32) : (l.take 2 == [45, 32]) = true := by
  match l, hl, h0, h1 with
  | b :: c :: r, _, h0, h1 =>
    have e0 : b = 45 := h0
    have e1 : c = 32 := h1
    subst e0 e1; rfl

set_option maxHeartbeats 4000000 in
theorem ris_any (l : List UInt8) (f : Bool) (w : World) (hs : l.length ≤ 140737488351232) : Calls Tryz.prog 32 #[.string (mk l), .bool f] w fun e w' => e = .returned (.bool (isP l f)) ∧ Below w.heap.size w w' := by
  have hs' : (mk l).size ≤ maxLen := by rw [mk_size]; unfold maxLen; omega
  have hK := rcheck_any (mk l) w hs'
  rw [mk_data] at hK
  have hsl : l.length ≤ 562949953421312 := by omega
  have q1 := eq_l l []
  have q2 := eq_l l [45]
  have q3 := eq_l l [45, 45, 45]
  cases hc : chk l with
  | some p =>
    have HE : Hid (isP l f = false) := isP_no1 (by unfold pri; rw [hc]; rfl)
    rw [hc] at hK
    have HK : Hid (Calls Tryz.prog 55 #[.string (mk l)] w fun e w' => e = .returned (.agg #[.int .i64 8, .int .i64 p]) ∧ Below w.heap.size w w') := hK
    clear hK hc q1 q2 q3
    go_enter Tryz.func32, Tryz.ntmps32
    go_wp2_with (first | (go_at_call 55; refine HK.out.mono ?_; rintro e w1 ⟨rfl, hb1⟩))
    go_ret
    rw [HE.out]
    exact ⟨rfl, hb1.alloc hb1.size _⟩
  | none =>
    rw [hc] at hK
    have HK : Hid (Calls Tryz.prog 55 #[.string (mk l)] w fun e w' => e = .returned (.agg #[.int .i64 0, .int .i64 0]) ∧ Below w.heap.size w w') := hK
    clear hK
    cases c1 : (l == [])
    · have h0 : l ≠ [] := by simpa using c1
      rw [c1] at q1
      cases c2 : (l == [45])
      · have h1 : l ≠ [45] := by simpa using c2
        rw [c2] at q2
        cases c3' : (l == [45, 45, 45])
        · rw [c3'] at q3
          have hl : 0 < l.length := List.length_pos_iff.2 h0
          obtain ⟨m, hm⟩ : ∃ m, l.length = m + 1 := ⟨l.length - 1, by omega⟩
          have HL : Hid (l.length = m + 1) := hm
          have hsz : (mk l).size = m + 1 := by rw [mk_size]; exact hm
          have hmb : m + 1 ≤ 140737488351232 := by omega
          have hg0 : ∀ h, (mk l)[0]'h = l.getD 0 0 := fun h => mk_getD l 0 h
          have hgm : ∀ h, (mk l)[m]'h = l.getD m 0 := fun h => mk_getD l m h
          have z0 := b32 (l.getD 0 0)
          have zm := b32 (l.getD m 0)
          have y0 := b45 (l.getD 0 0)
          have HM0 := fun w => rhas_mrk (l.getD 0 0) w
          have hbg : bg l = (!(is32 (l.getD 0 0)) && !(mrk (l.getD 0 0)) && !(l.take 2 == [45, 32])) := by unfold bg; rw [c1, c2, c3']; rfl
          have hn3 : is32 (l.getD m 0) = true → isP l f = false := fun h => isP_no3 (by rw [hm, show m + 1 - 1 = m by omega]; exact h)
          have hps : bg l = true → is32 (l.getD m 0) = false → isP l f = (!anyB l && (fin l f == l.length)) := fun h2 h3 => isP_pass hc h2 (by rw [hm, show m + 1 - 1 = m by omega]; exact h3)
          have hh2 := head2 h0 h1
          clear c1 c2 c3' h0 h1
          cases i0 : is32 (l.getD 0 0)
          · rw [i0] at z0 hbg
            cases im : is32 (l.getD m 0)
            · rw [im] at zm hps
              cases im0 : mrk (l.getD 0 0)
              · rw [im0] at HM0 hbg
                cases i45 : (l.getD 0 0 == 45)
                · -- no dash
                  have HQ : Hid (isP l f = (!anyB l && (fin l f == l.length))) := hps (by rw [hbg, take2_ne (fun e => by rw [e] at i45; exact absurd i45 (by decide))]; rfl) rfl
                  rw [i45] at y0
                  generalize l.getD 0 0 = b0 at hg0 z0 y0 HM0
                  generalize l.getD m 0 = bm at hgm zm
                  have HM : Hid (∀ w, Calls Tryz.prog 56 #[.string ⟨#[63, 58, 44, 91, 93, 123, 125, 35, 38, 42, 33, 124, 62, 39, 34, 37, 64, 96]⟩, .int .u8 (b0.toNat : Int)] w fun e w' => e = .returned (.bool false) ∧ w = w') := HM0
                  clear hbg hn3 hps hh2 hc hm HM0 i0 im im0 i45 hl hs
                  go_enter Tryz.func32, Tryz.ntmps32
                  go_wp2_with (first | (go_at_call 55; refine HK.out.mono ?_; rintro e w1 ⟨rfl, hb1⟩))
                  refine (HM.out _).mono ?_
                  rintro e w2 ⟨rfl, rfl⟩
                  go_wp2_with fail
                  go_loop [6] (fun i => ∃ n : Nat, n ≤ m + 1 ∧ i = .int .i64 n ∧ okk l f n) (fun i => m + 1 - (intOf i).toNat)
                  case atStart => exact ⟨0, Nat.zero_le _, rfl, fun j hj => absurd hj (by omega)⟩
                  case round =>
                    obtain ⟨n, hn1, rfl, ht⟩ := hrel
                    have HT : Hid (okk l f n) := ht
                    clear ht
                    by_cases hlt : n < m + 1
                    · have hltl : n < l.length := by rw [HL.out]; exact hlt
                      have hg : ∀ h, (mk l)[n]'h = l.getD n 0 := fun h => mk_getD l n h
                      have hlt' : n < (mk l).size := by omega
                      have HR : Hid (∀ w, Calls Tryz.prog 57 #[.string (mk l), .int .i64 n, .bool f] w fun e w' => e = .returned (.bool (en l f n)) ∧ w = w') := fun w => rends_any l f n w hsl hltl
                      have HH : Hid ((c3 (l.getD n 0) || en l f n) = true → isP l f = false) := fun h => by rw [HQ.out]; exact okk_hit hltl h
                      have HS : Hid (c3 (l.getD n 0) = false → en l f n = false → okk l f (n + 1)) := okk_succ HT.out
                      have e9 := b9 (l.getD n 0)
                      have e10 := b10 (l.getD n 0)
                      have e13 := b13 (l.getD n 0)
                      clear HT hltl
                      generalize l.getD n 0 = b at hg HH HS e9 e10 e13
                      generalize en l f n = V at HR HH HS
                      have H3 : Hid (c3 b = (b == 9 || b == 10 || b == 13)) := rfl
                      cases x9 : (b == 9)
                      · rw [x9] at e9 H3
                        cases x10 : (b == 10)
                        · rw [x10] at e10 H3
                          cases x13 : (b == 13)
                          · rw [x13] at e13 H3
                            cases V
                            · go_wp2_with (first | (go_at_call 57; refine (HR.out _).mono ?_; rintro e w5 ⟨rfl, rfl⟩))
                              go_round
                              case rel => exact ⟨n + 1, by omega, by go_num, HS.out H3.out (by first | rfl | trivial)⟩
                              case measure => simp [intOf]; omega
                            · go_wp2_with (first | (go_at_call 57; refine (HR.out _).mono ?_; rintro e w5 ⟨rfl, rfl⟩))
                              go_ret
                              rw [HH.out (by rw [H3.out]; rfl)]
                              exact ⟨rfl, hb1.alloc hb1.size _⟩
                          · rw [x13] at e13 H3
                            go_wp2
                            go_ret
                            rw [HH.out (by rw [H3.out]; rfl)]
                            exact ⟨rfl, hb1.alloc hb1.size _⟩
                        · rw [x10] at e10 H3
                          go_wp2
                          go_ret
                          rw [HH.out (by rw [H3.out]; rfl)]
                          exact ⟨rfl, hb1.alloc hb1.size _⟩
                      · rw [x9] at e9 H3
                        go_wp2
                        go_ret
                        rw [HH.out (by rw [H3.out]; rfl)]
                        exact ⟨rfl, hb1.alloc hb1.size _⟩
                    · have HN : Hid (isP l f = true) := by
                        have hn2 : n = l.length := by rw [HL.out]; omega
                        have h := HT.out
                        rw [hn2] at h
                        rw [HQ.out]; exact okk_all h
                      go_wp2
                      go_ret
                      rw [HN.out]
                      exact ⟨rfl, hb1.alloc hb1.size _⟩
                · have e45 : l.getD 0 0 = 45 := by simpa using i45
                  have h2 := hh2 e45
                  have hg1 : ∀ h, (mk l)[1]'h = l.getD 1 0 := fun h => mk_getD l 1 h
                  have h1m : 1 < (mk l).size := by omega
                  have z1 := b32 (l.getD 1 0)
                  have HF0 := fun w => rhas_fl (l.getD 1 0) w
                  rw [i45] at y0
                  cases i1 : is32 (l.getD 1 0)
                  · rw [i1] at z1
                    have hb2 : bg l = true := by
                      rw [hbg, take2_ne (fun _ e => by rw [e] at i1; exact absurd i1 (by decide))]; rfl
                    have HQ : Hid (isP l f = (!anyB l && (fin l f == l.length))) := hps hb2 rfl
                    cases f
                    · generalize l.getD 0 0 = b0 at hg0 z0 y0 HM0
                      generalize l.getD m 0 = bm at hgm zm
                      generalize l.getD 1 0 = b1 at hg1 z1
                      have HM : Hid (∀ w, Calls Tryz.prog 56 #[.string ⟨#[63, 58, 44, 91, 93, 123, 125, 35, 38, 42, 33, 124, 62, 39, 34, 37, 64, 96]⟩, .int .u8 (b0.toNat : Int)] w fun e w' => e = .returned (.bool false) ∧ w = w') := HM0
                      clear hbg hn3 hps hh2 hc hm HM0 i0 im im0 i45 hl hs e45 hb2 i1 HF0
                      go_enter Tryz.func32, Tryz.ntmps32
                      go_wp2_with (first | (go_at_call 55; refine HK.out.mono ?_; rintro e w1 ⟨rfl, hb1⟩))
                      refine (HM.out _).mono ?_
                      rintro e w2 ⟨rfl, rfl⟩
                      go_wp2_with fail
                      go_loop [6] (fun i => ∃ n : Nat, n ≤ m + 1 ∧ i = .int .i64 n ∧ okk l false n) (fun i => m + 1 - (intOf i).toNat)
                      case atStart => exact ⟨0, Nat.zero_le _, rfl, fun j hj => absurd hj (by omega)⟩
                      case round =>
                        obtain ⟨n, hn1, rfl, ht⟩ := hrel
                        have HT : Hid (okk l false n) := ht
                        clear ht
                        by_cases hlt : n < m + 1
                        · have hltl : n < l.length := by rw [HL.out]; exact hlt
                          have hg : ∀ h, (mk l)[n]'h = l.getD n 0 := fun h => mk_getD l n h
                          have hlt' : n < (mk l).size := by omega
                          have HR : Hid (∀ w, Calls Tryz.prog 57 #[.string (mk l), .int .i64 n, .bool false] w fun e w' => e = .returned (.bool (en l false n)) ∧ w = w') := fun w => rends_any l false n w hsl hltl
                          have HH : Hid ((c3 (l.getD n 0) || en l false n) = true → isP l false = false) := fun h => by rw [HQ.out]; exact okk_hit hltl h
                          have HS : Hid (c3 (l.getD n 0) = false → en l false n = false → okk l false (n + 1)) := okk_succ HT.out
                          have e9 := b9 (l.getD n 0)
                          have e10 := b10 (l.getD n 0)
                          have e13 := b13 (l.getD n 0)
                          clear HT hltl
                          generalize l.getD n 0 = b at hg HH HS e9 e10 e13
                          generalize en l false n = V at HR HH HS
                          have H3 : Hid (c3 b = (b == 9 || b == 10 || b == 13)) := rfl
                          cases x9 : (b == 9)
                          · rw [x9] at e9 H3
                            cases x10 : (b == 10)
                            · rw [x10] at e10 H3
                              cases x13 : (b == 13)
                              · rw [x13] at e13 H3
                                cases V
                                · go_wp2_with (first | (go_at_call 57; refine (HR.out _).mono ?_; rintro e w5 ⟨rfl, rfl⟩))
                                  go_round
                                  case rel => exact ⟨n + 1, by omega, by go_num, HS.out H3.out (by first | rfl | trivial)⟩
                                  case measure => simp [intOf]; omega
                                · go_wp2_with (first | (go_at_call 57; refine (HR.out _).mono ?_; rintro e w5 ⟨rfl, rfl⟩))
                                  go_ret
                                  rw [HH.out (by rw [H3.out]; rfl)]
                                  exact ⟨rfl, hb1.alloc hb1.size _⟩
                              · rw [x13] at e13 H3
                                go_wp2
                                go_ret
                                rw [HH.out (by rw [H3.out]; rfl)]
                                exact ⟨rfl, hb1.alloc hb1.size _⟩
                            · rw [x10] at e10 H3
                              go_wp2
                              go_ret
                              rw [HH.out (by rw [H3.out]; rfl)]
                              exact ⟨rfl, hb1.alloc hb1.size _⟩
                          · rw [x9] at e9 H3
                            go_wp2
                            go_ret
                            rw [HH.out (by rw [H3.out]; rfl)]
                            exact ⟨rfl, hb1.alloc hb1.size _⟩
                        · have HN : Hid (isP l false = true) := by
                            have hn2 : n = l.length := by rw [HL.out]; omega
                            have h := HT.out
                            rw [hn2] at h
                            rw [HQ.out]; exact okk_all h
                          go_wp2
                          go_ret
                          rw [HN.out]
                          exact ⟨rfl, hb1.alloc hb1.size _⟩
                    · cases ifl : fl (l.getD 1 0)
                      · rw [ifl] at HF0
                        generalize l.getD 0 0 = b0 at hg0 z0 y0 HM0
                        generalize l.getD m 0 = bm at hgm zm
                        generalize l.getD 1 0 = b1 at hg1 z1 HF0
                        have HM : Hid (∀ w, Calls Tryz.prog 56 #[.string ⟨#[63, 58, 44, 91, 93, 123, 125, 35, 38, 42, 33, 124, 62, 39, 34, 37, 64, 96]⟩, .int .u8 (b0.toNat : Int)] w fun e w' => e = .returned (.bool false) ∧ w = w') := HM0
                        have HF : Hid (∀ w, Calls Tryz.prog 56 #[.string ⟨#[44, 91, 93, 123, 125]⟩, .int .u8 (b1.toNat : Int)] w fun e w' => e = .returned (.bool false) ∧ w = w') := HF0
                        clear hbg hn3 hps hh2 hc hm HM0 i0 im im0 i45 hl hs e45 hb2 i1 HF0 ifl
                        go_enter Tryz.func32, Tryz.ntmps32
                        go_wp2_with (first | (go_at_call 55; refine HK.out.mono ?_; rintro e w1 ⟨rfl, hb1⟩))
                        refine (HM.out _).mono ?_
                        rintro e w2 ⟨rfl, rfl⟩
                        go_wp2_with fail
                        refine (HF.out _).mono ?_
                        rintro e w3 ⟨rfl, rfl⟩
                        go_wp2_with fail
                        go_loop [6] (fun i => ∃ n : Nat, n ≤ m + 1 ∧ i = .int .i64 n ∧ okk l true n) (fun i => m + 1 - (intOf i).toNat)
                        case atStart => exact ⟨0, Nat.zero_le _, rfl, fun j hj => absurd hj (by omega)⟩
                        case round =>
                          obtain ⟨n, hn1, rfl, ht⟩ := hrel
                          have HT : Hid (okk l true n) := ht
                          clear ht
                          by_cases hlt : n < m + 1
                          · have hltl : n < l.length := by rw [HL.out]; exact hlt
                            have hg : ∀ h, (mk l)[n]'h = l.getD n 0 := fun h => mk_getD l n h
                            have hlt' : n < (mk l).size := by omega
                            have HR : Hid (∀ w, Calls Tryz.prog 57 #[.string (mk l), .int .i64 n, .bool true] w fun e w' => e = .returned (.bool (en l true n)) ∧ w = w') := fun w => rends_any l true n w hsl hltl
                            have HH : Hid ((c3 (l.getD n 0) || en l true n) = true → isP l true = false) := fun h => by rw [HQ.out]; exact okk_hit hltl h
                            have HS : Hid (c3 (l.getD n 0) = false → en l true n = false → okk l true (n + 1)) := okk_succ HT.out
                            have e9 := b9 (l.getD n 0)
                            have e10 := b10 (l.getD n 0)
                            have e13 := b13 (l.getD n 0)
                            clear HT hltl
                            generalize l.getD n 0 = b at hg HH HS e9 e10 e13
                            generalize en l true n = V at HR HH HS
                            have H3 : Hid (c3 b = (b == 9 || b == 10 || b == 13)) := rfl
                            cases x9 : (b == 9)
                            · rw [x9] at e9 H3
                              cases x10 : (b == 10)
                              · rw [x10] at e10 H3
                                cases x13 : (b == 13)
                                · rw [x13] at e13 H3
                                  cases V
                                  · go_wp2_with (first | (go_at_call 57; refine (HR.out _).mono ?_; rintro e w5 ⟨rfl, rfl⟩))
                                    go_round
                                    case rel => exact ⟨n + 1, by omega, by go_num, HS.out H3.out (by first | rfl | trivial)⟩
                                    case measure => simp [intOf]; omega
                                  · go_wp2_with (first | (go_at_call 57; refine (HR.out _).mono ?_; rintro e w5 ⟨rfl, rfl⟩))
                                    go_ret
                                    rw [HH.out (by rw [H3.out]; rfl)]
                                    exact ⟨rfl, hb1.alloc hb1.size _⟩
                                · rw [x13] at e13 H3
                                  go_wp2
                                  go_ret
                                  rw [HH.out (by rw [H3.out]; rfl)]
                                  exact ⟨rfl, hb1.alloc hb1.size _⟩
                              · rw [x10] at e10 H3
                                go_wp2
                                go_ret
                                rw [HH.out (by rw [H3.out]; rfl)]
                                exact ⟨rfl, hb1.alloc hb1.size _⟩
                            · rw [x9] at e9 H3
                              go_wp2
                              go_ret
                              rw [HH.out (by rw [H3.out]; rfl)]
                              exact ⟨rfl, hb1.alloc hb1.size _⟩
                          · have HN : Hid (isP l true = true) := by
                              have hn2 : n = l.length := by rw [HL.out]; omega
                              have h := HT.out
                              rw [hn2] at h
                              rw [HQ.out]; exact okk_all h
                            go_wp2
                            go_ret
                            rw [HN.out]
                            exact ⟨rfl, hb1.alloc hb1.size _⟩
                      · have HE : Hid (isP l true = false) := isP_no4 (n := 1) (by omega) (by rw [en_colon, ifl]; simp)
                        rw [ifl] at HF0
                        generalize l.getD 0 0 = b0 at hg0 z0 y0 HM0
                        generalize l.getD m 0 = bm at hgm zm
                        generalize l.getD 1 0 = b1 at hg1 z1 HF0
                        have HM : Hid (∀ w, Calls Tryz.prog 56 #[.string ⟨#[63, 58, 44, 91, 93, 123, 125, 35, 38, 42, 33, 124, 62, 39, 34, 37, 64, 96]⟩, .int .u8 (b0.toNat : Int)] w fun e w' => e = .returned (.bool false) ∧ w = w') := HM0
                        have HF : Hid (∀ w, Calls Tryz.prog 56 #[.string ⟨#[44, 91, 93, 123, 125]⟩, .int .u8 (b1.toNat : Int)] w fun e w' => e = .returned (.bool true) ∧ w = w') := HF0
                        clear hbg hn3 hps hh2 hc hm HM0 i0 im im0 i45 hl hs e45 hb2 i1 HF0 ifl HQ
                        go_enter Tryz.func32, Tryz.ntmps32
                        go_wp2_with (first | (go_at_call 55; refine HK.out.mono ?_; rintro e w1 ⟨rfl, hb1⟩))
                        refine (HM.out _).mono ?_
                        rintro e w2 ⟨rfl, rfl⟩
                        go_wp2_with fail
                        refine (HF.out _).mono ?_
                        rintro e w3 ⟨rfl, rfl⟩
                        go_wp2_with fail
                        go_ret
                        rw [HE.out]
                        exact ⟨rfl, hb1.alloc hb1.size _⟩
                  · have HE : Hid (isP l f = false) := isP_no2 (by rw [hbg, take2_eq' h2 e45 (by simpa [is32] using i1)]; simp)
                    rw [i1] at z1
                    generalize l.getD 0 0 = b0 at hg0 z0 y0 HM0
                    generalize l.getD m 0 = bm at hgm zm
                    generalize l.getD 1 0 = b1 at hg1 z1
                    have HM : Hid (∀ w, Calls Tryz.prog 56 #[.string ⟨#[63, 58, 44, 91, 93, 123, 125, 35, 38, 42, 33, 124, 62, 39, 34, 37, 64, 96]⟩, .int .u8 (b0.toNat : Int)] w fun e w' => e = .returned (.bool false) ∧ w = w') := HM0
                    clear hbg hn3 hps hh2 hc hm HM0 i0 im im0 i45 hl hs e45 i1 HF0
                    go_enter Tryz.func32, Tryz.ntmps32
                    go_wp2_with (first | (go_at_call 55; refine HK.out.mono ?_; rintro e w1 ⟨rfl, hb1⟩))
                    refine (HM.out _).mono ?_
                    rintro e w2 ⟨rfl, rfl⟩
                    go_wp2_with fail
                    go_ret
                    rw [HE.out]
                    exact ⟨rfl, hb1.alloc hb1.size _⟩
              · have HE : Hid (isP l f = false) := isP_no2 (by rw [hbg, im0]; rfl)
                rw [im0] at HM0
                generalize l.getD 0 0 = b0 at hg0 z0 y0 HM0
                generalize l.getD m 0 = bm at hgm zm
                have HM : Hid (∀ w, Calls Tryz.prog 56 #[.string ⟨#[63, 58, 44, 91, 93, 123, 125, 35, 38, 42, 33, 124, 62, 39, 34, 37, 64, 96]⟩, .int .u8 (b0.toNat : Int)] w fun e w' => e = .returned (.bool true) ∧ w = w') := HM0
                clear hbg hn3 hps hh2 hc hm HM0 i0 im im0 hl hs y0
                go_enter Tryz.func32, Tryz.ntmps32
                go_wp2_with (first | (go_at_call 55; refine HK.out.mono ?_; rintro e w1 ⟨rfl, hb1⟩))
                refine (HM.out _).mono ?_
                rintro e w2 ⟨rfl, rfl⟩
                go_wp2_with fail
                go_ret
                rw [HE.out]
                exact ⟨rfl, hb1.alloc hb1.size _⟩
            · have HE : Hid (isP l f = false) := hn3 im
              rw [im] at zm
              generalize l.getD 0 0 = b0 at hg0 z0 y0
              generalize l.getD m 0 = bm at hgm zm
              clear hbg hn3 hps hh2 hc hm HM0 i0 im hl hs y0
              go_enter Tryz.func32, Tryz.ntmps32
              go_wp2_with (first | (go_at_call 55; refine HK.out.mono ?_; rintro e w1 ⟨rfl, hb1⟩))
              go_ret
              rw [HE.out]
              exact ⟨rfl, hb1.alloc hb1.size _⟩
          · have HE : Hid (isP l f = false) := isP_no2 (by rw [hbg, i0]; rfl)
            rw [i0] at z0
            generalize l.getD 0 0 = b0 at hg0 z0 y0
            generalize l.getD m 0 = bm at hgm zm
            clear hbg hn3 hps hh2 hc hm HM0 i0 hl hs y0 zm hgm
            go_enter Tryz.func32, Tryz.ntmps32
            go_wp2_with (first | (go_at_call 55; refine HK.out.mono ?_; rintro e w1 ⟨rfl, hb1⟩))
            go_ret
            rw [HE.out]
            exact ⟨rfl, hb1.alloc hb1.size _⟩
        · have HE : Hid (isP l f = false) := isP_no2 (by unfold bg; rw [c1, c2, c3']; rfl)
          rw [c3'] at q3
          clear c1 c2 c3' h0 h1 hc
          go_enter Tryz.func32, Tryz.ntmps32
          go_wp2_with (first | (go_at_call 55; refine HK.out.mono ?_; rintro e w1 ⟨rfl, hb1⟩))
          go_ret
          rw [HE.out]
          exact ⟨rfl, hb1.alloc hb1.size _⟩
      · have HE : Hid (isP l f = false) := isP_no2 (by unfold bg; rw [c1, c2]; rfl)
        rw [c2] at q2
        clear c1 c2 h0 hc q3
        go_enter Tryz.func32, Tryz.ntmps32
        go_wp2_with (first | (go_at_call 55; refine HK.out.mono ?_; rintro e w1 ⟨rfl, hb1⟩))
        go_ret
        rw [HE.out]
        exact ⟨rfl, hb1.alloc hb1.size _⟩
    · have HE : Hid (isP l f = false) := isP_no2 (by unfold bg; rw [c1]; rfl)
      rw [c1] at q1
      clear c1 hc q2 q3
      go_enter Tryz.func32, Tryz.ntmps32
      go_wp2_with (first | (go_at_call 55; refine HK.out.mono ?_; rintro e w1 ⟨rfl, hb1⟩))
      go_ret
      rw [HE.out]
      exact ⟨rfl, hb1.alloc hb1.size _⟩

end Go.Proofs.YteokhnielbmifaaGreatDoor.Pln
end

section
/- The reference's Text, by its contract. -/
namespace Go.Proofs.YteokhnielbmifaaGreatDoor.Pln
open Utf Rws
open Go.RowKit
set_option linter.unusedSimpArgs false
set_option linter.unusedVariables false
set_option maxRecDepth 100000

/-- a number's digits, but those of none where it is 0 -/
def dz (v : Nat) : List UInt8 := if v = 0 then [] else Lib.decDigits v
theorem dd_dz (v : Nat) : Lib.decDigits v = dz (v / 10) ++ [UInt8.ofNat (48 + v % 10)] := by
  unfold dz
  by_cases h : v < 10
  · rw [if_pos (by omega), dd_small h, show v % 10 = v by omega]; rfl
  · rw [if_neg (by omega)]; exact dd_big h
def fb : Value → Nat
  | .bool true => 1
  | _ => 0

theorem str_one (x : Int) : strOfNums [x] = mk [UInt8.ofNat x.toNat] := rfl
theorem app_mk1 (d : UInt8) (t : List UInt8) : mk [d] ++ mk t = mk (d :: t) := by
  apply ByteArray.ext
  simp [mk]

theorem conv1 (w : World) (x : Int) : (convert 45 9 (.slice (some ⟨w.heap.size, 0, none⟩) 1 1)).run Tryz.prog (w.alloc (.cells #[.int .u8 x] 5)) = .ok (.string (strOfNums [x])) (w.alloc (.cells #[.int .u8 x] 5)) := by
  refine run_convert_bytes_arg _ 45 5 Tryz.underlying45 Tryz.underlying5 w.heap.size 0 1 1 [x] rfl ?_ 9 Tryz.underlying9
  intro i hi
  obtain rfl : i = 0 := by omega
  simp [go_sem]

theorem rtext_pos (u : Nat) (w : World) (hu : u ≤ 9223372036854775807) : Calls Tryz.prog 87 #[.int .i64 u] w fun e w' => e = .returned (.string (mk (Lib.decDigits u))) ∧ Below w.heap.size w w' := by
  have hlen := dd_len 18 u (by omega)
  go_enter Tryz.func87, Tryz.ntmps87
  go_wp2
  go_loopw [0, 4, 5] (fun n s b wr => ∃ (v : Nat) (t : List UInt8) (c : Bool), v ≤ u ∧ n = .int .i64 v ∧ s = .string (mk t) ∧ b = .bool c ∧ Below w.heap.size w wr ∧ Lib.decDigits u = (if (c || decide (0 < v)) = true then Lib.decDigits v else []) ++ t) (fun n _ b _ => (intOf n).toNat * 2 + fb b)
  case atStart => exact ⟨u, [], true, Nat.le_refl _, rfl, rfl, rfl, Below.refl _ _, by simp⟩
  case round =>
    obtain ⟨v, t, c, hv, rfl, rfl, rfl, hbe, ht⟩ := hrel
    have htl : t.length ≤ 19 := by
      have := congrArg List.length ht
      rw [List.length_append] at this
      omega
    have htz := mk_size t
    cases hc : (c || decide (0 < v))
    · rw [hc] at ht
      have HT : Hid (Lib.decDigits u = t) := by rw [ht]; rfl
      clear ht
      obtain ⟨h1, h2⟩ : c = false ∧ ¬ 0 < v := by simpa using hc
      subst h1
      obtain rfl : v = 0 := by omega
      clear hc
      go_wp2
      go_ret
      rw [HT.out]
      exact ⟨rfl, hbe⟩
    · rw [hc, if_pos rfl] at ht
      obtain ⟨d, Hd⟩ : ∃ d, Hid (UInt8.ofNat (48 + v % 10) = d) := ⟨_, rfl⟩
      obtain ⟨T, HTT⟩ : ∃ T, Hid (T = d :: t) := ⟨d :: t, rfl⟩
      have HT : Hid (Lib.decDigits u = dz (v / 10) ++ (d :: t)) := by rw [ht, dd_dz v, Hd.out]; simp [Hid]
      clear ht
      have hcv : (convert 45 9 (.slice (some ⟨wr.heap.size, 0, none⟩) 1 1)).run Tryz.prog (wr.alloc (.cells #[.int .u8 (48 + (v : Int) % 10)] 5)) = .ok (.string (mk [d])) (wr.alloc (.cells #[.int .u8 (48 + (v : Int) % 10)] 5)) := by
        rw [conv1, str_one, show (48 + (v : Int) % 10).toNat = 48 + v % 10 by omega, Hd.out]
      have happ : mk [d] ++ mk t = mk T := by rw [HTT.out]; exact app_mk1 d t
      have hz1 : (mk [d]).size = 1 := rfl
      have hr1 : 0 ≤ (v : Int) % 10 := by omega
      have hr2 : (v : Int) % 10 < 10 := by omega
      cases c
      · have h0 : 0 < v := by simpa using hc
        clear hc
        go_wp2
        go_roundw
        case rel => exact ⟨v / 10, T, false, by omega, by go_num, rfl, rfl, hbe.alloc hbe.size _, by rw [HT.out, HTT.out]; unfold dz; by_cases h10 : v / 10 = 0 <;> simp [h10, Nat.pos_iff_ne_zero]⟩
        case measure => simp [intOf, fb]; omega
      · clear hc
        go_wp2
        go_roundw
        case rel => exact ⟨v / 10, T, false, by omega, by go_num, rfl, rfl, hbe.alloc hbe.size _, by rw [HT.out, HTT.out]; unfold dz; by_cases h10 : v / 10 = 0 <;> simp [h10, Nat.pos_iff_ne_zero]⟩
        case measure => simp [intOf, fb]; omega

theorem neg_tdiv (m : Nat) : (-(m : Int)).tdiv 10 = -((m / 10 : Nat) : Int) := by rw [Int.neg_tdiv]; rfl
theorem neg_tmod (m : Nat) : (-(m : Int)).tmod 10 = -((m % 10 : Nat) : Int) := by rw [Int.neg_tmod]; rfl
theorem itoa_dz (n : Int) (h : n < 0) : Lib.itoa n = 45 :: (dz (n.natAbs / 10) ++ [UInt8.ofNat (48 + n.natAbs % 10)]) := by rw [itoa_neg h, dd_dz]

theorem rtext_neg (n : Int) (w : World) (h : n < 0) (h0 : -9223372036854775808 ≤ n) : Calls Tryz.prog 87 #[.int .i64 n] w fun e w' => e = .returned (.string (mk (Lib.itoa n))) ∧ Below w.heap.size w w' := by
  obtain ⟨k, hk⟩ : ∃ k : Nat, k = n.natAbs / 10 := ⟨_, rfl⟩
  obtain ⟨r, hr⟩ : ∃ r : Nat, r = n.natAbs % 10 := ⟨_, rfl⟩
  have HI := itoa_dz n h
  rw [← hk, ← hr] at HI
  have hnm : n = -(n.natAbs : Int) := by omega
  have hdv : n.tdiv 10 = -(k : Int) := by rw [hk, hnm, neg_tdiv]; simp
  have hmd : n.tmod 10 = -(r : Int) := by rw [hr, hnm, neg_tmod]; simp
  clear hnm
  have hkb : (k : Int) ≤ 922337203685477580 := by omega
  have hr9 : (r : Int) ≤ 9 := by omega
  have hkz : n ≤ -10 ↔ 0 < k := by omega
  obtain ⟨d, Hd⟩ : ∃ d, Hid (UInt8.ofNat (48 + r) = d) := ⟨_, rfl⟩
  rw [Hd.out] at HI
  have hcv : ∀ w, (convert 45 9 (.slice (some ⟨World.heap w |>.size, 0, none⟩) 1 1)).run Tryz.prog (w.alloc (.cells #[.int .u8 (48 + (r : Int))] 5)) = .ok (.string (mk [d])) (w.alloc (.cells #[.int .u8 (48 + (r : Int))] 5)) := fun w => by
    rw [conv1, str_one, show (48 + (r : Int)).toNat = 48 + r by omega, Hd.out]
  clear hk hr
  have hz1 : (mk [d]).size = 1 := rfl
  by_cases hc : 0 < k
  · have hle : n ≤ -10 := hkz.2 hc
    have hdl := dd_len 18 k (by omega)
    have HIT : Hid (Lib.itoa n = 45 :: (Lib.decDigits k ++ [d])) := by rw [HI]; unfold dz; rw [if_neg (by omega)]; rfl
    clear HI hkz
    obtain ⟨A, HA⟩ : ∃ A, Hid (A = 45 :: Lib.decDigits k) := ⟨45 :: Lib.decDigits k, rfl⟩
    obtain ⟨B, HB⟩ : ∃ B, Hid (B = A ++ [d]) := ⟨A ++ [d], rfl⟩
    have hA : (⟨#[45]⟩ : ByteArray) ++ mk (Lib.decDigits k) = mk A := by rw [HA.out]; exact app_mk1 45 _
    have hB : mk A ++ mk [d] = mk B := by rw [HB.out]; apply ByteArray.ext; simp [mk]
    have hzk : (mk (Lib.decDigits k)).size = (Lib.decDigits k).length := mk_size _
    have hzA : (mk A).size = (Lib.decDigits k).length + 1 := by rw [mk_size, HA.out]; simp
    have HT : Hid (∀ w, Calls Tryz.prog 87 #[.int .i64 (k : Int)] w fun e w' => e = .returned (.string (mk (Lib.decDigits k))) ∧ Below w.heap.size w w') := fun w => rtext_pos k w (by omega)
    generalize mk (Lib.decDigits k) = D at hA hzk HT
    generalize (Lib.decDigits k).length = L at hzk hzA hdl
    go_enter Tryz.func87, Tryz.ntmps87
    go_wp2_with fail
    refine (HT.out _).mono ?_
    rintro e w1 ⟨rfl, hb1⟩
    have hcv1 := hcv w1
    go_wp2
    go_ret
    refine ⟨?_, hb1.alloc hb1.size _⟩
    rw [HIT.out]
    exact ret_str (by rw [HB.out, HA.out]; rfl)
  · have hle : ¬ n ≤ -10 := fun h => hc (hkz.1 h)
    have HIT : Hid (Lib.itoa n = [45, d]) := by
      rw [HI]; unfold dz; rw [if_pos (by omega)]; rfl
    clear HI hkz
    have hA : (⟨#[45]⟩ : ByteArray) ++ (⟨#[]⟩ : ByteArray) = ⟨#[45]⟩ := by decide
    have hB : (⟨#[45]⟩ : ByteArray) ++ mk [d] = mk [45, d] := app_mk1 45 [d]
    have hcv1 := hcv w
    go_enter Tryz.func87, Tryz.ntmps87
    go_wp2
    go_ret
    refine ⟨?_, (Below.refl _ _).alloc (Nat.le_refl _) _⟩
    rw [HIT.out]
    exact ret_str rfl

theorem rtext_any (n : Int) (w : World) (h : inI n) : Calls Tryz.prog 87 #[.int .i64 n] w fun e w' => e = .returned (.string (mk (Lib.itoa n))) ∧ Below w.heap.size w w' := by
  by_cases hn : n < 0
  · exact rtext_neg n w hn h.1
  · obtain ⟨u, rfl⟩ : ∃ u : Nat, n = u := ⟨n.toNat, by omega⟩
    rw [itoa_pos (by omega), Int.toNat_natCast]
    exact rtext_pos u w (by have := h.2; omega)

end Go.Proofs.YteokhnielbmifaaGreatDoor.Pln
end

section
/- The reference's Number, Resolve, by their contracts. -/
namespace Go.Proofs.YteokhnielbmifaaGreatDoor.Pln
open Utf Rws
open Go.RowKit
set_option linter.unusedSimpArgs false
set_option linter.unusedVariables false
set_option maxRecDepth 100000

/-- one digit more, below 0, going round -/
def stp (n : Int) (b : UInt8) : Int := wrap64 (wrap64 (n * 10) - ((b.toNat : Int) - 48))
def sgk (l : List UInt8) : Nat := if (l.getD 0 0 == 45) = true then 1 else 0
def rvf (l : List UInt8) : Int := (l.drop (sgk l)).foldl stp 0
def rn (l : List UInt8) : Int := if (l.getD 0 0 == 45) = true then rvf l else wrap64 (-(rvf l))

theorem wrap_in (x : Int) : inI (wrap64 x) := by unfold inI wrap64; omega
theorem wrap_id {x : Int} (h : inI x) : wrap64 x = x := by unfold inI at h; unfold wrap64; omega
theorem stp_in (n : Int) (b : UInt8) : inI (stp n b) := wrap_in _
theorem fold_in (l : List UInt8) (n : Int) (h : inI n) : inI (l.foldl stp n) := by
  induction l generalizing n with
  | nil => exact h
  | cons b r ih => exact ih _ (stp_in n b)
theorem rvf_in (l : List UInt8) : inI (rvf l) := fold_in _ 0 ⟨by decide, by decide⟩
theorem rn_in (l : List UInt8) : inI (rn l) := by
  unfold rn; split
  · exact rvf_in l
  · exact wrap_in _

theorem fold_dd (u : Nat) (h : u ≤ 9223372036854775808) : (Lib.decDigits u).foldl stp 0 = -(u : Int) := by
  induction u using Nat.strongRecOn with
  | ind u ih =>
    by_cases hu : u < 10
    · rw [dd_small hu]
      show stp 0 _ = _
      unfold stp
      rw [of48 u hu]
      unfold wrap64; omega
    · rw [dd_big hu, List.foldl_append, ih (u / 10) (by omega) (by omega)]
      show stp _ _ = _
      unfold stp
      rw [of48 (u % 10) (by omega), wrap_id (x := -((u / 10 : Nat) : Int) * 10) ⟨by omega, by omega⟩]
      rw [wrap_id ⟨by omega, by omega⟩]
      omega
theorem rn_itoa (v : Int) (h : inI v) : rn (Lib.itoa v) = v := by
  have hh := h
  unfold inI at hh
  by_cases hv : 0 ≤ v
  · have e := itoa_pos hv
    obtain ⟨c, r, e2, hc⟩ := dd_head v.toNat
    have hs : (Lib.itoa v).getD 0 0 = c := by rw [e, e2]; rfl
    have hn : (c == 45) = false := by
      rw [beq_eq_false_iff_ne]; rintro rfl; revert hc; decide
    unfold rn rvf sgk
    rw [hs, hn, e]
    simp only [Bool.false_eq_true, if_false, List.drop_zero]
    rw [fold_dd v.toNat (by omega), wrap_id ⟨by omega, by omega⟩]
    omega
  · have e := itoa_neg (v := v) (by omega)
    unfold rn rvf sgk
    rw [e]
    show (Lib.decDigits v.natAbs).foldl stp 0 = v
    rw [fold_dd v.natAbs (by omega)]
    omega
theorem numA_rn (l : List UInt8) : numA l = if Lib.itoa (rn l) = l then some (rn l) else none := by
  by_cases h : Lib.itoa (rn l) = l
  · rw [if_pos h]
    have := numA_itoa (rn l) (rn_in l)
    rw [h] at this; exact this
  · rw [if_neg h]
    cases hq : numA l with
    | none => rfl
    | some v =>
      obtain ⟨h1, h2⟩ := numA_some hq
      exfalso; apply h
      rw [← h1, rn_itoa v h2]
/-- what is a number's text has digits behind the sign, and not too many -/
theorem numA_len {l : List UInt8} (h : numA l ≠ none) : 1 ≤ l.length ∧ l.length ≤ 20 := by
  cases hq : numA l with
  | none => exact absurd hq h
  | some v =>
    obtain ⟨h1, h2⟩ := numA_some hq
    have a := itoa_len v h2
    have b := (itoa_dg v).2.1
    rw [h1] at a b
    exact ⟨List.length_pos_iff.2 b, a⟩
theorem numA_dig {l : List UInt8} (h : numA l ≠ none) (j : Nat) (hj : sgk l ≤ j) (hl : j < l.length) : dig (l.getD j 0) = true := by
  cases hq : numA l with
  | none => exact absurd hq h
  | some v =>
    obtain ⟨h1, h2⟩ := numA_some hq
    have hall : ∀ u, ∀ b ∈ Lib.decDigits u, dig b = true := fun u b hb => List.all_eq_true.1 (dd_dig u).1 b hb
    by_cases hv : 0 ≤ v
    · rw [itoa_pos hv] at h1
      exact hall v.toNat _ (by rw [h1]; exact getD_mem l j hl)
    · rw [itoa_neg (by omega)] at h1
      subst h1
      cases j with
      | zero => exact absurd hj (by show ¬ 1 ≤ 0; omega)
      | succ j =>
        have e : (45 :: Lib.decDigits v.natAbs).getD (j + 1) 0 = (Lib.decDigits v.natAbs).getD j 0 := rfl
        rw [e]
        exact hall _ _ (getD_mem _ j (by simpa using hl))
theorem take_drop_snoc (l : List UInt8) (k n : Nat) (hk : k ≤ n) (h : n < l.length) : (l.take (n + 1)).drop k = (l.take n).drop k ++ [l.getD n 0] := by
  rw [take_snoc l n h, List.drop_append_of_le_length (by rw [List.length_take]; omega)]

theorem rnumber_any (l : List UInt8) (w : World) (hs : l.length ≤ 140737488351232) : Calls Tryz.prog 58 #[.string (mk l)] w fun e w' => e = .returned (.tuple #[.int .i64 (numN l), .bool (numB l)]) ∧ Below w.heap.size w w' := by
  have hsz := mk_size l
  by_cases hlen : 1 ≤ l.length ∧ l.length ≤ 20
  · obtain ⟨hl1, hl2⟩ := hlen
    have hl1' : ¬ (l.length : Int) < 1 := by omega
    have hl2' : (l.length : Int) ≤ 20 := by omega
    have hg0 : ∀ h, (mk l)[0]'h = l.getD 0 0 := fun h => mk_getD l 0 h
    have h0z : 0 < (mk l).size := by rw [mk_size]; omega
    have y0 := b45 (l.getD 0 0)
    go_enter Tryz.func58, Tryz.ntmps58
    go_wp2
    go_loop [4, 5] (fun n i => ∃ j : Nat, j ≤ l.length ∧ i = .int .i64 j ∧ n = .int .i64 (((l.take j).drop (sgk l)).foldl stp 0)) (fun _ i => l.length - (intOf i).toNat)
    case atStart => exact ⟨0, Nat.zero_le _, rfl, by simp⟩
    case round =>
      obtain ⟨j, hj, rfl, rfl⟩ := hrel
      have hin := fold_in ((l.take j).drop (sgk l)) 0 ⟨by decide, by decide⟩
      by_cases hlt : j < l.length
      · have hg : ∀ h, (mk l)[j]'h = l.getD j 0 := fun h => mk_getD l j h
        have hlt' : j < (mk l).size := by rw [mk_size]; exact hlt
        have HSN0 : Hid (sgk l ≤ j → ((l.take (j + 1)).drop (sgk l)).foldl stp 0 = stp (((l.take j).drop (sgk l)).foldl stp 0) (l.getD j 0)) := fun hk => by
          rw [take_drop_snoc l (sgk l) j hk hlt, List.foldl_append]; rfl
        have HDG0 : Hid (numA l ≠ none → sgk l ≤ j → dig (l.getD j 0) = true) := fun h1 h2 => numA_dig h1 j h2 hlt
        generalize hN : ((l.take j).drop (sgk l)).foldl stp 0 = N at hin HSN0 ⊢
        have hin1 := hin.1
        have hin2 := hin.2
        by_cases hj0 : j = 0
        · subst hj0
          cases c45 : (l.getD 0 0 == 45)
          · rw [c45] at y0
            have hk : sgk l = 0 := by unfold sgk; rw [c45]; rfl
            have HSN : Hid (((l.take (0 + 1)).drop (sgk l)).foldl stp 0 = stp N (l.getD 0 0)) := HSN0.out (by omega)
            have HDG : Hid (numA l ≠ none → dig (l.getD 0 0) = true) := fun h => HDG0.out h (by omega)
            have HK : Hid (sgk l = 0) := hk
            clear HSN0 HDG0 hN c45 hk
            generalize l.getD 0 0 = b at hg0 hg y0 HSN HDG
            clear hg
            obtain ⟨j, hj9⟩ : ∃ j, j = 0 := ⟨0, rfl⟩
            subst hj9
            cases hd : dig b
            · have HE : Hid (numN l = 0 ∧ numB l = false) := by
                have e : numA l = none := by
                  cases hq : numA l with
                  | none => rfl
                  | some v => exact absurd (HDG.out (by rw [hq]; simp)) (by rw [hd]; simp)
                unfold numN numB; rw [e]; exact ⟨rfl, rfl⟩
              have hdd : ¬ (48 ≤ b.toNat ∧ b.toNat ≤ 57) := by
                intro h9; unfold dig at hd; simp at hd; omega
              by_cases h48 : (b.toNat : Int) < 48
              · go_wp2
                go_ret2
                rw [HE.out.1, HE.out.2]
                exact ⟨rfl, Below.refl _ _⟩
              · have h57 : (57 : Int) < (b.toNat : Int) := by omega
                go_wp2
                go_ret2
                rw [HE.out.1, HE.out.2]
                exact ⟨rfl, Below.refl _ _⟩
            · obtain ⟨d1, d2⟩ : 48 ≤ b.toNat ∧ b.toNat ≤ 57 := by unfold dig at hd; simpa using hd
              have h48 : (48 : Int) ≤ (b.toNat : Int) := by omega
              have h57 : (b.toNat : Int) ≤ 57 := by omega
              clear d1 d2 hd HDG
              go_wp2
              go_round
              case rel => exact ⟨0 + 1, by omega, by go_num, by rw [HSN.out]; rfl⟩
              case measure => simp [intOf]; omega
          · rw [c45] at y0
            have hk : sgk l = 1 := by unfold sgk; rw [c45]; rfl
            have HN0 : Hid (((l.take 1).drop (sgk l)).foldl stp 0 = N) := by
              rw [← hN, hk]; simp [Hid]
            clear HSN0 HDG0 hN c45 hk
            generalize l.getD 0 0 = b at hg0 hg y0
            clear hg
            go_wp2
            go_round
            case rel => exact ⟨1, by omega, by go_num, by rw [HN0.out]⟩
            case measure => simp [intOf]; omega
        · have hk : sgk l ≤ j := by unfold sgk; split <;> omega
          have HSN : Hid (((l.take (j + 1)).drop (sgk l)).foldl stp 0 = stp N (l.getD j 0)) := HSN0.out hk
          have HDG : Hid (numA l ≠ none → dig (l.getD j 0) = true) := fun h => HDG0.out h hk
          have hjz : ((j : Int) == 0) = false := by rw [beq_eq_false_iff_ne]; omega
          clear HSN0 HDG0 hN hk hj0
          generalize l.getD j 0 = b at hg HSN HDG
          clear hg0 y0
          cases hd : dig b
          · have HE : Hid (numN l = 0 ∧ numB l = false) := by
              have e : numA l = none := by
                cases hq : numA l with
                | none => rfl
                | some v => exact absurd (HDG.out (by rw [hq]; simp)) (by rw [hd]; simp)
              unfold numN numB; rw [e]; exact ⟨rfl, rfl⟩
            have hdd : ¬ (48 ≤ b.toNat ∧ b.toNat ≤ 57) := by
              intro h9; unfold dig at hd; simp at hd; omega
            by_cases h48 : (b.toNat : Int) < 48
            · go_wp2
              go_ret2
              rw [HE.out.1, HE.out.2]
              exact ⟨rfl, Below.refl _ _⟩
            · have h57 : (57 : Int) < (b.toNat : Int) := by omega
              go_wp2
              go_ret2
              rw [HE.out.1, HE.out.2]
              exact ⟨rfl, Below.refl _ _⟩
          · obtain ⟨d1, d2⟩ : 48 ≤ b.toNat ∧ b.toNat ≤ 57 := by unfold dig at hd; simpa using hd
            have h48 : (48 : Int) ≤ (b.toNat : Int) := by omega
            have h57 : (b.toNat : Int) ≤ 57 := by omega
            clear d1 d2 hd HDG
            go_wp2
            go_round
            case rel => exact ⟨j + 1, by omega, by go_num, by rw [HSN.out]; rfl⟩
            case measure => simp [intOf]; omega
      · have e : (l.take j).drop (sgk l) = l.drop (sgk l) := by rw [List.take_of_length_le (by omega)]
        rw [e]
        have HRV : Hid (rvf l = (l.drop (sgk l)).foldl stp 0) := rfl
        rw [← HRV.out]
        clear e hin
        have hin := rvf_in l
        have hin1 := hin.1
        have hin2 := hin.2
        have hA := numA_rn l
        have hrn : rn l = if (l.getD 0 0 == 45) = true then rvf l else wrap64 (-(rvf l)) := rfl
        have hX := fun w => rtext_any (rn l) w (rn_in l)
        have heq := eq_mk (Lib.itoa (rn l)) l
        have hrin := rn_in l
        generalize rvf l = N at hin1 hin2 hrn ⊢
        cases c45 : (l.getD 0 0 == 45)
        · rw [c45] at y0 hrn
          have y1 : (((l.getD 0 0).toNat : Int) != 45) = true := by rw [bne, y0]; rfl
          have hR : wrap64 (-N) = rn l := by rw [hrn]; rfl
          clear hrn c45
          generalize rn l = R at hX heq hrin hR hA
          have hr1 := hrin.1
          have hr2 := hrin.2
          clear y0
          generalize l.getD 0 0 = b at hg0 y1
          have HX : Hid (∀ w, Calls Tryz.prog 87 #[.int .i64 R] w fun e w' => e = .returned (.string (mk (Lib.itoa R))) ∧ Below w.heap.size w w') := hX
          clear hX
          by_cases he : Lib.itoa R = l
          · have HE : Hid (numN l = R ∧ numB l = true) := by unfold numN numB; rw [hA, if_pos he]; exact ⟨rfl, rfl⟩
            have hq : ((mk (Lib.itoa R)).toList == (mk l).toList) = true := by rw [heq, he]; simp
            clear he hA heq
            generalize mk (Lib.itoa R) = D at HX hq
            go_wp2_with fail
            refine (HX.out _).mono ?_
            rintro e w1 ⟨rfl, hb1⟩
            go_wp2
            go_ret2
            rw [HE.out.1, HE.out.2]
            exact ⟨rfl, hb1⟩
          · have HE : Hid (numN l = 0 ∧ numB l = false) := by unfold numN numB; rw [hA, if_neg he]; exact ⟨rfl, rfl⟩
            have hq : ((mk (Lib.itoa R)).toList == (mk l).toList) = false := by rw [heq]; simpa using he
            clear he hA heq
            generalize mk (Lib.itoa R) = D at HX hq
            go_wp2_with fail
            refine (HX.out _).mono ?_
            rintro e w1 ⟨rfl, hb1⟩
            go_wp2
            go_ret2
            rw [HE.out.1, HE.out.2]
            exact ⟨rfl, hb1⟩
        · rw [c45] at y0 hrn
          have y1 : (((l.getD 0 0).toNat : Int) != 45) = false := by rw [bne, y0]; rfl
          have hR : rn l = N := by rw [hrn]; rfl
          rw [hR] at hX heq hrin hA
          clear hrn c45 hR
          clear y0
          generalize l.getD 0 0 = b at hg0 y1
          have HX : Hid (∀ w, Calls Tryz.prog 87 #[.int .i64 N] w fun e w' => e = .returned (.string (mk (Lib.itoa N))) ∧ Below w.heap.size w w') := hX
          clear hX
          by_cases he : Lib.itoa N = l
          · have HE : Hid (numN l = N ∧ numB l = true) := by unfold numN numB; rw [hA, if_pos he]; exact ⟨rfl, rfl⟩
            have hq : ((mk (Lib.itoa N)).toList == (mk l).toList) = true := by rw [heq, he]; simp
            clear he hA heq
            generalize mk (Lib.itoa N) = D at HX hq
            go_wp2_with fail
            refine (HX.out _).mono ?_
            rintro e w1 ⟨rfl, hb1⟩
            go_wp2
            go_ret2
            rw [HE.out.1, HE.out.2]
            exact ⟨rfl, hb1⟩
          · have HE : Hid (numN l = 0 ∧ numB l = false) := by unfold numN numB; rw [hA, if_neg he]; exact ⟨rfl, rfl⟩
            have hq : ((mk (Lib.itoa N)).toList == (mk l).toList) = false := by rw [heq]; simpa using he
            clear he hA heq
            generalize mk (Lib.itoa N) = D at HX hq
            go_wp2_with fail
            refine (HX.out _).mono ?_
            rintro e w1 ⟨rfl, hb1⟩
            go_wp2
            go_ret2
            rw [HE.out.1, HE.out.2]
            exact ⟨rfl, hb1⟩
  · have HE : Hid (numN l = 0 ∧ numB l = false) := by
      have e : numA l = none := by
        cases hq : numA l with
        | none => rfl
        | some v => exact absurd (numA_len (l := l) (by rw [hq]; simp)) hlen
      unfold numN numB; rw [e]; exact ⟨rfl, rfl⟩
    by_cases hl1 : (l.length : Int) < 1
    · clear hlen
      go_enter Tryz.func58, Tryz.ntmps58
      go_wp2
      go_ret2
      rw [HE.out.1, HE.out.2]
      exact ⟨rfl, Below.refl _ _⟩
    · have hl2 : (20 : Int) < (l.length : Int) := by omega
      clear hlen
      go_enter Tryz.func58, Tryz.ntmps58
      go_wp2
      go_ret2
      rw [HE.out.1, HE.out.2]
      exact ⟨rfl, Below.refl _ _⟩

theorem rresolve_any (l : List UInt8) (w : World) (hs : l.length ≤ 140737488351232) : Calls Tryz.prog 33 #[.string (mk l)] w fun e w' => e = .returned (.int .i64 (kind l)) ∧ Below w.heap.size w w' := by
  have q1 := eq_l l []
  have q2 := eq_l l [126]
  have q3 := eq_l l [110, 117, 108, 108]
  have q4 := eq_l l [116, 114, 117, 101]
  have q5 := eq_l l [102, 97, 108, 115, 101]
  have HN : Hid (∀ w, Calls Tryz.prog 58 #[.string (mk l)] w fun e w' => e = .returned (.tuple #[.int .i64 (numN l), .bool (numB l)]) ∧ Below w.heap.size w w') := fun w => rnumber_any l w hs
  have hkd : kind l = if (l == [] || l == [126] || l == [110, 117, 108, 108]) = true then 1 else if (l == [116, 114, 117, 101] || l == [102, 97, 108, 115, 101]) = true then 2 else if numB l = true then 3 else 4 := rfl
  generalize (l == []) = v1 at q1 hkd
  generalize (l == [126]) = v2 at q2 hkd
  generalize (l == [110, 117, 108, 108]) = v3 at q3 hkd
  generalize (l == [116, 114, 117, 101]) = v4 at q4 hkd
  generalize (l == [102, 97, 108, 115, 101]) = v5 at q5 hkd
  generalize numB l = v6 at HN hkd
  generalize numN l = n at HN
  cases v1
  · cases v2
    · cases v3
      · cases v4
        · cases v5
          · cases v6
            · have HE : Hid (kind l = 4) := hkd
              clear hkd
              go_enter Tryz.func33, Tryz.ntmps33
              go_wp2_with (first | (go_at_call 58; refine (HN.out _).mono ?_; rintro e w1 ⟨rfl, hb1⟩))
              go_ret
              rw [HE.out]
              exact ⟨rfl, hb1⟩
            · have HE : Hid (kind l = 3) := hkd
              clear hkd
              go_enter Tryz.func33, Tryz.ntmps33
              go_wp2_with (first | (go_at_call 58; refine (HN.out _).mono ?_; rintro e w1 ⟨rfl, hb1⟩))
              go_ret
              rw [HE.out]
              exact ⟨rfl, hb1⟩
          · have HE : Hid (kind l = 2) := hkd
            clear hkd
            go_enter Tryz.func33, Tryz.ntmps33
            go_wp2_with (first | (go_at_call 58; refine (HN.out _).mono ?_; rintro e w1 ⟨rfl, hb1⟩))
            go_ret
            rw [HE.out]
            exact ⟨rfl, hb1⟩
        · have HE : Hid (kind l = 2) := hkd
          clear hkd
          go_enter Tryz.func33, Tryz.ntmps33
          go_wp2_with (first | (go_at_call 58; refine (HN.out _).mono ?_; rintro e w1 ⟨rfl, hb1⟩))
          go_ret
          rw [HE.out]
          exact ⟨rfl, hb1⟩
      · have HE : Hid (kind l = 1) := hkd
        clear hkd
        go_enter Tryz.func33, Tryz.ntmps33
        go_wp2_with (first | (go_at_call 58; refine (HN.out _).mono ?_; rintro e w1 ⟨rfl, hb1⟩))
        go_ret
        rw [HE.out]
        exact ⟨rfl, hb1⟩
    · have HE : Hid (kind l = 1) := hkd
      clear hkd
      go_enter Tryz.func33, Tryz.ntmps33
      go_wp2_with (first | (go_at_call 58; refine (HN.out _).mono ?_; rintro e w1 ⟨rfl, hb1⟩))
      go_ret
      rw [HE.out]
      exact ⟨rfl, hb1⟩
  · have HE : Hid (kind l = 1) := hkd
    clear hkd
    go_enter Tryz.func33, Tryz.ntmps33
    go_wp2_with (first | (go_at_call 58; refine (HN.out _).mono ?_; rintro e w1 ⟨rfl, hb1⟩))
    go_ret
    rw [HE.out]
    exact ⟨rfl, hb1⟩

end Go.Proofs.YteokhnielbmifaaGreatDoor.Pln
end
