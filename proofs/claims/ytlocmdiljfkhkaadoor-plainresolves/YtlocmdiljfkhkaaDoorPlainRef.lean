/- The reference's Has, colon, ends, Cut, by their contracts. -/
import Derived.Test.YtlocmdiljfkhkaaDoorPlainEnd
namespace Go.Proofs.YtlocmdiljfkhkaaDoor.Pln
open Utf Rws
open Go.RowKit
set_option linter.unusedSimpArgs false
set_option linter.unusedVariables false
set_option maxRecDepth 100000

theorem beq_toNat (a b : UInt8) : ((a.toNat : Int) == (b.toNat : Int)) = (a == b) := by
  rw [Bool.eq_iff_iff]
  simp only [beq_iff_eq]
  constructor
  · intro h; apply UInt8.toNat_inj.1; omega
  · rintro rfl; rfl
theorem has_take_snoc (c : UInt8) (l : List UInt8) (n : Nat) (h : n < l.length) : has c (l.take (n + 1)) = (has c (l.take n) || l.getD n 0 == c) := by
  unfold has
  rw [List.take_succ_eq_append_getElem h, List.any_append, List.getD_eq_getElem?_getD, List.getElem?_eq_getElem h]; simp
theorem has_hit (c : UInt8) (l : List UInt8) (n : Nat) (h : n < l.length) (hc : (l.getD n 0 == c) = true) : has c l = true := by
  unfold has
  rw [List.any_eq_true]
  rw [List.getD_eq_getElem?_getD, List.getElem?_eq_getElem h] at hc
  exact ⟨l[n], List.getElem_mem h, hc⟩

theorem rhas_any (l : List UInt8) (c : UInt8) (w : World) (hs : l.length ≤ 562949953421312) : Calls Tryd.prog 21 #[.string (mk l), .int .u8 c.toNat] w fun e w' => e = .returned (.bool (has c l)) ∧ w = w' := by
  have hsz := mk_size l
  go_enter Tryd.func21, Tryd.ntmps21
  go_wp2
  go_loop [5] (fun i => ∃ n : Nat, n ≤ l.length ∧ i = .int .i64 n ∧ has c (l.take n) = false) (fun i => l.length - (intOf i).toNat)
  case atStart => exact ⟨0, Nat.zero_le _, rfl, rfl⟩
  case round =>
    obtain ⟨n, hn1, rfl, ht⟩ := hrel
    have HT : Hid (has c (l.take n) = false) := ht
    clear ht
    by_cases hlt : n < l.length
    · have hg : ∀ h, (mk l)[n]'h = l.getD n 0 := fun h => mk_getD l n h
      have hlt' : n < (mk l).size := by rw [mk_size]; exact hlt
      have hb := beq_toNat (l.getD n 0) c
      have hsn := has_take_snoc c l n hlt
      rw [HT.out, Bool.false_or] at hsn
      have HSN : Hid (has c (l.take (n + 1)) = (l.getD n 0 == c)) := hsn
      have HH : Hid ((l.getD n 0 == c) = true → has c l = true) := has_hit c l n hlt
      clear hsn
      generalize l.getD n 0 = b at hg hb HSN HH
      cases hbc : (b == c)
      · rw [hbc] at hb HSN
        go_wp2
        go_round
        case rel => exact ⟨n + 1, by omega, by go_num, HSN.out⟩
        case measure => simp [intOf]; omega
      · rw [hbc] at hb
        go_wp2
        go_ret
        rw [HH.out hbc]
        exact ⟨rfl, rfl⟩
    · have HN : Hid (has c l = false) := by
        have := HT.out
        rw [List.take_of_length_le (by omega)] at this
        exact this
      go_wp2
      go_ret
      rw [HN.out]
      exact ⟨rfl, rfl⟩

/-- a colon that ends -/
def coB (l : List UInt8) (f : Bool) (i : Nat) : Bool := l.getD i 0 == 58 && (i + 1 == l.length || l.getD (i + 1) 0 == 32 || (f && fl (l.getD (i + 1) 0)))
theorem rhas_fl (b : UInt8) (w : World) : Calls Tryd.prog 21 #[.string ⟨#[44, 91, 93, 123, 125]⟩, .int .u8 b.toNat] w fun e w' => e = .returned (.bool (fl b)) ∧ w = w' := rhas_any flows b w (by decide)
theorem rhas_mrk (b : UInt8) (w : World) : Calls Tryd.prog 21 #[.string ⟨#[63, 58, 44, 91, 93, 123, 125, 35, 38, 42, 33, 124, 62, 39, 34, 37, 64, 96]⟩, .int .u8 b.toNat] w fun e w' => e = .returned (.bool (mrk b)) ∧ w = w' := rhas_any marks b w (by decide)

theorem rcolon_any (l : List UInt8) (f : Bool) (i : Nat) (w : World) (hs : l.length ≤ 562949953421312) (hi : i < l.length) : Calls Tryd.prog 37 #[.string (mk l), .int .i64 i, .bool f] w fun e w' => e = .returned (.bool (coB l f i)) ∧ w = w' := by
  have hsz := mk_size l
  have hg : ∀ h, (mk l)[i]'h = l.getD i 0 := fun h => mk_getD l i h
  have hlt : i < (mk l).size := by rw [mk_size]; exact hi
  have hb := b58 (l.getD i 0)
  cases c1 : (l.getD i 0 == 58)
  · have HE : Hid (coB l f i = false) := by unfold coB; rw [c1]; rfl
    rw [c1] at hb
    clear c1
    generalize l.getD i 0 = b at hg hb
    go_enter Tryd.func37, Tryd.ntmps37
    go_wp2
    go_ret
    rw [HE.out]
    exact ⟨rfl, rfl⟩
  · have HE : Hid (coB l f i = (i + 1 == l.length || l.getD (i + 1) 0 == 32 || (f && fl (l.getD (i + 1) 0)))) := by unfold coB; rw [c1]; rfl
    rw [c1] at hb
    clear c1
    generalize l.getD i 0 = b at hg hb
    by_cases h1 : i + 1 = l.length
    · have HE2 : Hid (coB l f i = true) := by rw [HE.out]; simp [h1, Hid]
      have hq : ((i : Int) + 1 == (l.length : Int)) = true := by rw [beq_iff_eq]; omega
      clear h1
      go_enter Tryd.func37, Tryd.ntmps37
      go_wp2
      go_ret
      rw [HE2.out]
      exact ⟨rfl, rfl⟩
    · have hq : ((i : Int) + 1 == (l.length : Int)) = false := by rw [beq_eq_false_iff_ne]; omega
      have h2 : i + 1 < l.length := by omega
      have hlm : i + 1 < (mk l).size := by omega
      have hg2 : ∀ h, (mk l)[i + 1]'h = l.getD (i + 1) 0 := fun h => mk_getD l (i + 1) h
      have hb2 := b32 (l.getD (i + 1) 0)
      have HE2 : Hid (coB l f i = (is32 (l.getD (i + 1) 0) || (f && fl (l.getD (i + 1) 0)))) := by
        rw [HE.out]
        have e : (i + 1 == l.length) = false := by simp; omega
        rw [e]; rfl
      clear HE h1
      generalize l.getD (i + 1) 0 = b2 at hg2 hb2 HE2
      cases e3 : is32 b2
      · rw [e3] at hb2 HE2
        cases f
        · go_enter Tryd.func37, Tryd.ntmps37
          go_wp2
          go_ret
          rw [HE2.out]
          exact ⟨rfl, rfl⟩
        · go_enter Tryd.func37, Tryd.ntmps37
          go_wp2_with (first | (go_at_call 21; refine (rhas_fl _ _).mono ?_; rintro e w' ⟨rfl, rfl⟩))
          go_ret
          rw [HE2.out]
          exact ⟨rfl, rfl⟩
      · rw [e3] at hb2 HE2
        go_enter Tryd.func37, Tryd.ntmps37
        go_wp2
        go_ret
        rw [HE2.out]
        exact ⟨rfl, rfl⟩

theorem en_colon (l : List UInt8) (f : Bool) (i : Nat) : en l f i = (coB l f i || ((l.getD i 0 == 35) && decide (0 < i) && (l.getD (i - 1) 0 == 32)) || (f && fl (l.getD i 0))) := by
  unfold en coB
  generalize l.getD i 0 = b
  generalize l.getD (i + 1) 0 = b1
  generalize l.getD (i - 1) 0 = b2
  by_cases c1 : b = 58
  · subst c1
    have e2 : ((58 : UInt8) == 35) = false := by decide
    rw [e2, fl_58]; simp
  · have e1 : (b == 58) = false := by simpa using c1
    rw [e1]
    by_cases c2 : b = 35
    · subst c2
      rw [fl_35]; simp
    · have e2 : (b == 35) = false := by simpa using c2
      rw [e2]; simp

theorem rends_any (l : List UInt8) (f : Bool) (i : Nat) (w : World) (hs : l.length ≤ 562949953421312) (hi : i < l.length) : Calls Tryd.prog 26 #[.string (mk l), .int .i64 i, .bool f] w fun e w' => e = .returned (.bool (en l f i)) ∧ w = w' := by
  have hsz := mk_size l
  have hg : ∀ h, (mk l)[i]'h = l.getD i 0 := fun h => mk_getD l i h
  have hlt : i < (mk l).size := by rw [mk_size]; exact hi
  have HE0 := en_colon l f i
  have hC := rcolon_any l f i w hs hi
  cases c0 : coB l f i
  · rw [c0] at HE0 hC
    have HC : Hid (Calls Tryd.prog 37 #[.string (mk l), .int .i64 i, .bool f] w fun e w' => e = .returned (.bool false) ∧ w = w') := hC
    clear hC c0
    have hb := b35 (l.getD i 0)
    have HF := rhas_fl (l.getD i 0) w
    have HFF : Hid (Calls Tryd.prog 21 #[.string ⟨#[44, 91, 93, 123, 125]⟩, .int .u8 ((l.getD i 0).toNat : Int)] w fun e w' => e = .returned (.bool (fl (l.getD i 0))) ∧ w = w') := HF
    clear HF
    cases c1 : (l.getD i 0 == 35)
    · rw [c1] at HE0 hb
      have HE : Hid (en l f i = (f && fl (l.getD i 0))) := by rw [HE0]; simp [Hid]
      clear HE0 c1
      generalize l.getD i 0 = b at hg hb HE HFF
      cases f
      · go_enter Tryd.func26, Tryd.ntmps26
        go_wp2_with (first | (go_at_call 37; refine HC.out.mono ?_; rintro e w' ⟨rfl, rfl⟩))
        go_ret
        rw [HE.out]
        exact ⟨rfl, rfl⟩
      · go_enter Tryd.func26, Tryd.ntmps26
        go_wp2_with (first | (go_at_call 37; refine HC.out.mono ?_; rintro e w' ⟨rfl, rfl⟩) | (go_at_call 21; refine HFF.out.mono ?_; rintro e w' ⟨rfl, rfl⟩))
        go_ret
        rw [HE.out]
        exact ⟨rfl, rfl⟩
    · have e35 : l.getD i 0 = 35 := by simpa using c1
      have hfl : fl (l.getD i 0) = false := by rw [e35]; exact fl_35
      rw [hfl] at HFF HE0
      rw [c1] at HE0 hb
      clear c1 e35 hfl
      generalize l.getD i 0 = b at hg hb HFF
      by_cases h0 : 0 < i
      · obtain ⟨m, rfl⟩ : ∃ m, i = m + 1 := ⟨i - 1, by omega⟩
        have hlm : m < (mk l).size := by omega
        have hg2 : ∀ h, (mk l)[m]'h = l.getD m 0 := fun h => mk_getD l m h
        have hb2 := b32 (l.getD m 0)
        have HE : Hid (en l f (m + 1) = is32 (l.getD m 0)) := by rw [HE0]; simp; rfl
        clear HE0
        generalize l.getD m 0 = b2 at hg2 hb2 HE
        cases e2 : is32 b2
        · rw [e2] at hb2 HE
          cases f
          · go_enter Tryd.func26, Tryd.ntmps26
            go_wp2_with (first | (go_at_call 37; refine HC.out.mono ?_; rintro e w' ⟨rfl, rfl⟩))
            go_ret
            rw [HE.out]
            exact ⟨rfl, rfl⟩
          · go_enter Tryd.func26, Tryd.ntmps26
            go_wp2_with (first | (go_at_call 37; refine HC.out.mono ?_; rintro e w' ⟨rfl, rfl⟩) | (go_at_call 21; refine HFF.out.mono ?_; rintro e w' ⟨rfl, rfl⟩))
            go_ret
            rw [HE.out]
            exact ⟨rfl, rfl⟩
        · rw [e2] at hb2 HE
          go_enter Tryd.func26, Tryd.ntmps26
          go_wp2_with (first | (go_at_call 37; refine HC.out.mono ?_; rintro e w' ⟨rfl, rfl⟩))
          go_ret
          rw [HE.out]
          exact ⟨rfl, rfl⟩
      · obtain rfl : i = 0 := by omega
        have HE : Hid (en l f 0 = false) := by rw [HE0]; simp [Hid]
        clear HE0
        cases f
        · go_enter Tryd.func26, Tryd.ntmps26
          go_wp2_with (first | (go_at_call 37; refine HC.out.mono ?_; rintro e w' ⟨rfl, rfl⟩))
          go_ret
          rw [HE.out]
          exact ⟨rfl, rfl⟩
        · go_enter Tryd.func26, Tryd.ntmps26
          go_wp2_with (first | (go_at_call 37; refine HC.out.mono ?_; rintro e w' ⟨rfl, rfl⟩) | (go_at_call 21; refine HFF.out.mono ?_; rintro e w' ⟨rfl, rfl⟩))
          go_ret
          rw [HE.out]
          exact ⟨rfl, rfl⟩
  · rw [c0] at HE0 hC
    have HC : Hid (Calls Tryd.prog 37 #[.string (mk l), .int .i64 i, .bool f] w fun e w' => e = .returned (.bool true) ∧ w = w') := hC
    have HE : Hid (en l f i = true) := by rw [HE0]; rfl
    clear hC c0 HE0
    go_enter Tryd.func26, Tryd.ntmps26
    go_wp2_with (first | (go_at_call 37; refine HC.out.mono ?_; rintro e w' ⟨rfl, rfl⟩))
    go_ret
    rw [HE.out]
    exact ⟨rfl, rfl⟩

theorem take_snoc (l : List UInt8) (e : Nat) (h : e < l.length) : l.take (e + 1) = l.take e ++ [l.getD e 0] := by
  rw [List.take_succ_eq_append_getElem h, List.getD_eq_getElem?_getD, List.getElem?_eq_getElem h]; rfl

theorem rcut_any (l : List UInt8) (f : Bool) (w : World) (hs : l.length ≤ 562949953421312) : Calls Tryd.prog 14 #[.string (mk l), .bool f] w fun e w' => e = .returned (.tuple #[.string (mk (cutT l f)), .int .i64 (fin l f)]) ∧ w = w' := by
  have hsz := mk_size l
  have hfl := fin_le l f
  go_enter Tryd.func14, Tryd.ntmps14
  go_wp2
  go_loop [6] (fun i => ∃ n : Nat, n ≤ l.length ∧ i = .int .i64 n ∧ fin l f = fro l f (l.length - n) n) (fun i => l.length - (intOf i).toNat)
  case atStart => exact ⟨0, Nat.zero_le _, rfl, rfl⟩
  case round =>
    obtain ⟨n, hn1, rfl, ht⟩ := hrel
    have HT : Hid (fin l f = fro l f (l.length - n) n) := ht
    clear ht
    by_cases hgo : n < l.length ∧ en l f n = false
    · obtain ⟨hlt, he⟩ := hgo
      obtain ⟨k, hk⟩ : ∃ k, l.length - n = k + 1 := ⟨l.length - n - 1, by omega⟩
      have hkn : k = l.length - (n + 1) := by omega
      have HN : Hid (fin l f = fro l f (l.length - (n + 1)) (n + 1)) := by rw [HT.out, hk, fro, if_neg (by rw [he]; simp), hkn]; rfl
      clear hk hkn
      go_wp2_with (first | (go_at_call 26; refine (rends_any _ _ _ _ hs hlt).mono ?_; rintro e w' ⟨rfl, rfl⟩))
      go_round
      case rel => exact ⟨n + 1, by omega, by go_num, HN.out⟩
      case measure => simp [intOf]; omega
    · have hfn : fin l f = n := by
        rw [HT.out]
        by_cases hlt : n < l.length
        · obtain ⟨k, hk⟩ : ∃ k, l.length - n = k + 1 := ⟨l.length - n - 1, by omega⟩
          rw [hk, fro, if_pos]
          cases he : en l f n
          · exact absurd ⟨hlt, he⟩ hgo
          · rfl
        · rw [show l.length - n = 0 by omega, fro]
      have HFN : Hid (fin l f = n) := hfn
      have HR : Hid (cutT l f = trR is32 (l.take n)) := by unfold cutT; rw [hfn]; rfl
      clear HT hfn hfl
      by_cases hlt : n < l.length
      · have he : en l f n = true := by
          cases he : en l f n
          · exact absurd ⟨hlt, he⟩ hgo
          · rfl
        clear hgo
        go_wp2_with (first | (go_at_call 26; refine (rends_any _ _ _ _ hs hlt).mono ?_; rintro e w' ⟨rfl, rfl⟩))
        clear he hlt
        go_loop [7] (fun e => ∃ q : Nat, q ≤ n ∧ e = .int .i64 q ∧ trR is32 (l.take n) = trR is32 (l.take q)) (fun e => (intOf e).toNat)
        case atStart => exact ⟨n, Nat.le_refl _, rfl, rfl⟩
        case round =>
          obtain ⟨q, hq, rfl, ht⟩ := hrel
          have HT : Hid (trR is32 (l.take n) = trR is32 (l.take q)) := ht
          clear ht
          cases q with
          | zero =>
            go_wp2
            go_ret2
            have e2 : cutT l f = [] := by rw [HR.out, HT.out]; rfl
            rw [e2, HFN.out]
            exact ⟨rfl, rfl⟩
          | succ q =>
            have hlt : q < (mk l).size := by rw [mk_size]; omega
            have hle2 : q + 1 ≤ 562949953421312 := by omega
            have hg : ∀ h, (mk l)[q]'h = l.getD q 0 := fun h => mk_getD l q h
            have hte := take_snoc l q (by omega)
            have hb := b32 (l.getD q 0)
            have HG : Hid (l.take (q + 1) = l.take q ++ [l.getD q 0]) := hte
            clear hte
            generalize l.getD q 0 = b at hg HG hb
            cases hb2 : is32 b
            · have HN : Hid (trR is32 (l.take q ++ [b]) = l.take q ++ [b]) := by rw [trR_snoc, hb2]; rfl
              rw [hb2] at hb
              go_wp2
              go_ret2
              have e1 : (mk l).extract 0 (q + 1) = mk (l.take (q + 1)) := by rw [mk_ext]; simp
              have e2 : cutT l f = l.take (q + 1) := by rw [HR.out, HT.out, HG.out, HN.out]
              rw [e2, HFN.out, ← e1]
              exact ⟨rfl, rfl⟩
            · have HN : Hid (trR is32 (l.take q ++ [b]) = trR is32 (l.take q)) := by rw [trR_snoc, hb2]; rfl
              rw [hb2] at hb
              go_wp2
              go_round
              case rel => exact ⟨q, by omega, by go_num, by rw [HT.out, HG.out, HN.out]⟩
              case measure => simp [intOf]
      · clear hgo
        go_wp2
        clear hlt
        go_loop [7] (fun e => ∃ q : Nat, q ≤ n ∧ e = .int .i64 q ∧ trR is32 (l.take n) = trR is32 (l.take q)) (fun e => (intOf e).toNat)
        case atStart => exact ⟨n, Nat.le_refl _, rfl, rfl⟩
        case round =>
          obtain ⟨q, hq, rfl, ht⟩ := hrel
          have HT : Hid (trR is32 (l.take n) = trR is32 (l.take q)) := ht
          clear ht
          cases q with
          | zero =>
            go_wp2
            go_ret2
            have e2 : cutT l f = [] := by rw [HR.out, HT.out]; rfl
            rw [e2, HFN.out]
            exact ⟨rfl, rfl⟩
          | succ q =>
            have hlt : q < (mk l).size := by rw [mk_size]; omega
            have hle2 : q + 1 ≤ 562949953421312 := by omega
            have hg : ∀ h, (mk l)[q]'h = l.getD q 0 := fun h => mk_getD l q h
            have hte := take_snoc l q (by omega)
            have hb := b32 (l.getD q 0)
            have HG : Hid (l.take (q + 1) = l.take q ++ [l.getD q 0]) := hte
            clear hte
            generalize l.getD q 0 = b at hg HG hb
            cases hb2 : is32 b
            · have HN : Hid (trR is32 (l.take q ++ [b]) = l.take q ++ [b]) := by rw [trR_snoc, hb2]; rfl
              rw [hb2] at hb
              go_wp2
              go_ret2
              have e1 : (mk l).extract 0 (q + 1) = mk (l.take (q + 1)) := by rw [mk_ext]; simp
              have e2 : cutT l f = l.take (q + 1) := by rw [HR.out, HT.out, HG.out, HN.out]
              rw [e2, HFN.out, ← e1]
              exact ⟨rfl, rfl⟩
            · have HN : Hid (trR is32 (l.take q ++ [b]) = trR is32 (l.take q)) := by rw [trR_snoc, hb2]; rfl
              rw [hb2] at hb
              go_wp2
              go_round
              case rel => exact ⟨q, by omega, by go_num, by rw [HT.out, HG.out, HN.out]⟩
              case measure => simp [intOf]

end Go.Proofs.YtlocmdiljfkhkaaDoor.Pln
