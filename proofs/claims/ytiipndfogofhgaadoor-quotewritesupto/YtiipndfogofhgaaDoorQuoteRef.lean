/- The reference's may, digit, text, escape, by their contracts. -/
import Derived.Test.YtiipndfogofhgaaDoorQuoteDig
import Derived.Test.YtiipndfogofhgaaDoorQuoteEsc
import Derived.Test.YtiipndfogofhgaaDoorUtfRef4a
namespace Go.Proofs.YtiipndfogofhgaaDoor.Quo
open Utf Rws
open Go.RowKit
set_option linter.unusedSimpArgs false
set_option linter.unusedVariables false
set_option maxRecDepth 100000

theorem rmay_any (n : Int) (w : World) : Calls Tryd.prog 26 #[.int .i64 n] w fun e w' => e = .returned (.bool (may n)) ∧ w = w' := by
  have HM : Hid (may n = (prn n && !(n == 9) && !(n == 10) && !(n == 13))) := rfl
  cases c0 : prn n
  · go_enter Tryd.func26, Tryd.ntmps26
    go_wp2_with (first | (go_at_call 47; refine (rprintable_any _ _).mono ?_; rintro e w' ⟨rfl, rfl⟩))
    go_ret
    exact ⟨by rw [HM.out, c0]; rfl, rfl⟩
  cases c1 : (n == 9)
  · have d1 : (n != 9) = true := by rw [bne, c1]; rfl
    cases c2 : (n == 10)
    · have d2 : (n != 10) = true := by rw [bne, c2]; rfl
      cases c3 : (n == 13)
      · have d3 : (n != 13) = true := by rw [bne, c3]; rfl
        go_enter Tryd.func26, Tryd.ntmps26
        go_wp2_with (first | (go_at_call 47; refine (rprintable_any _ _).mono ?_; rintro e w' ⟨rfl, rfl⟩))
        go_ret
        exact ⟨by rw [HM.out, c0, c1, c2, c3]; rfl, rfl⟩
      · have d3 : (n != 13) = false := by rw [bne, c3]; rfl
        go_enter Tryd.func26, Tryd.ntmps26
        go_wp2_with (first | (go_at_call 47; refine (rprintable_any _ _).mono ?_; rintro e w' ⟨rfl, rfl⟩))
        go_ret
        exact ⟨by rw [HM.out, c0, c1, c2, c3]; rfl, rfl⟩
    · have d2 : (n != 10) = false := by rw [bne, c2]; rfl
      go_enter Tryd.func26, Tryd.ntmps26
      go_wp2_with (first | (go_at_call 47; refine (rprintable_any _ _).mono ?_; rintro e w' ⟨rfl, rfl⟩))
      go_ret
      exact ⟨by rw [HM.out, c0, c1, c2]; rfl, rfl⟩
  · have d1 : (n != 9) = false := by rw [bne, c1]; rfl
    go_enter Tryd.func26, Tryd.ntmps26
    go_wp2_with (first | (go_at_call 47; refine (rprintable_any _ _).mono ?_; rintro e w' ⟨rfl, rfl⟩))
    go_ret
    exact ⟨by rw [HM.out, c0, c1]; rfl, rfl⟩

theorem rdigit_any (c : UInt8) (w : World) : Calls Tryd.prog 41 #[.int .u8 (c.toNat : Int)] w fun e w' => e = .returned (.int .i64 (dig c)) ∧ w = w' := by
  have hb : c.toNat < 256 := c.toNat_lt
  obtain ⟨x, hx⟩ : ∃ x, x = c.toNat := ⟨_, rfl⟩
  have HX : Hid (dig c = if 48 ≤ x ∧ x ≤ 57 then (x : Int) - 48 else if 97 ≤ x ∧ x ≤ 102 then (x : Int) - 87 else if 65 ≤ x ∧ x ≤ 70 then (x : Int) - 55 else -1) := by rw [hx]; exact rfl
  rw [← hx] at hb ⊢
  clear hx
  by_cases a : x < 48
  · have HV : Hid (dig c = -1) := by rw [HX.out, if_neg (by omega), if_neg (by omega), if_neg (by omega)]; exact rfl
    go_enter Tryd.func41, Tryd.ntmps41
    go_wp2
    go_ret
    exact ⟨by rw [HV.out]; rfl, rfl⟩
  by_cases a2 : x ≤ 57
  · have HV : Hid (dig c = (x : Int) - 48) := by rw [HX.out, if_pos (by omega)]; exact rfl
    go_enter Tryd.func41, Tryd.ntmps41
    go_wp2
    go_ret
    exact ⟨by rw [HV.out]; simp, rfl⟩
  by_cases a3 : x < 65
  · have HV : Hid (dig c = -1) := by rw [HX.out, if_neg (by omega), if_neg (by omega), if_neg (by omega)]; exact rfl
    go_enter Tryd.func41, Tryd.ntmps41
    go_wp2
    go_ret
    exact ⟨by rw [HV.out]; rfl, rfl⟩
  by_cases a4 : x ≤ 70
  · have HV : Hid (dig c = (x : Int) - 65 + 10) := by rw [HX.out, if_neg (by omega), if_neg (by omega), if_pos (by omega)]; unfold Hid; omega
    go_enter Tryd.func41, Tryd.ntmps41
    go_wp2
    go_ret
    exact ⟨by rw [HV.out]; simp, rfl⟩
  by_cases a5 : x < 97
  · have HV : Hid (dig c = -1) := by rw [HX.out, if_neg (by omega), if_neg (by omega), if_neg (by omega)]; exact rfl
    go_enter Tryd.func41, Tryd.ntmps41
    go_wp2
    go_ret
    exact ⟨by rw [HV.out]; rfl, rfl⟩
  by_cases a6 : x ≤ 102
  · have HV : Hid (dig c = (x : Int) - 97 + 10) := by rw [HX.out, if_neg (by omega), if_pos (by omega)]; unfold Hid; omega
    go_enter Tryd.func41, Tryd.ntmps41
    go_wp2
    go_ret
    exact ⟨by rw [HV.out]; simp, rfl⟩
  · have HV : Hid (dig c = -1) := by rw [HX.out, if_neg (by omega), if_neg (by omega), if_neg (by omega)]; exact rfl
    go_enter Tryd.func41, Tryd.ntmps41
    go_wp2
    go_ret
    exact ⟨by rw [HV.out]; rfl, rfl⟩

theorem rtext_any (n : Int) (w : World) : Calls Tryd.prog 24 #[.int .i64 n] w fun e w' => e = .returned (.string (mk (sgb n))) ∧ Below w.heap.size w w' := by
  have HE := rencode_any (some ⟨w.heap.size, 0, none⟩) 1 1 [n] (w.alloc (.cells #[.int .i64 n] 3)) (ints_one w n 3) (by decide)
  have hb0 : Below w.heap.size w (w.alloc (.cells #[.int .i64 n] 3)) := below_alloc _ _
  have e1 : encS [n] = mk (sgb n) := by
    unfold encS sgb
    rw [allS_one, bytes_one]
    split <;> rfl
  rw [e1] at HE
  have HC : Hid (Calls Tryd.prog 43 #[.slice (some ⟨w.heap.size, 0, none⟩) 1 1] (w.alloc (.cells #[.int .i64 n] 3)) fun e w' => e = .returned (.tuple #[.string (mk (sgb n)), .int .i64 (encE [n])]) ∧ Below w.heap.size w w') := HE.mono (by
    rintro e w' ⟨h1, h2⟩
    exact ⟨h1, hb0.trans (h2.mono (by simp))⟩)
  clear HE hb0 e1
  go_enter Tryd.func24, Tryd.ntmps24
  go_wp2_with (first | (go_at_call 43; refine HC.out.mono ?_; rintro e w1 ⟨rfl, hb1⟩))
  go_ret
  exact ⟨rfl, hb1⟩

theorem blit (c d : UInt8) : ((c.toNat : Int) == (d.toNat : Int)) = (c == d) := by
  rw [Bool.eq_iff_iff, beq_iff_eq, beq_iff_eq, ← UInt8.toNat_inj]; omega

theorem getD_dropR (l : List UInt8) (p i : Nat) : (l.drop p).getD i 0 = l.getD (p + i) 0 := by
  rw [List.getD_eq_getElem?_getD, List.getD_eq_getElem?_getD, List.getElem?_drop]
set_option maxHeartbeats 4000000 in
theorem rescape_any (m : List UInt8) (w : World) (hl : m.length ≤ 9223372036854775000) :
    Calls Tryd.prog 23 #[.string (mk m)] w fun e w' => e = .returned (.tuple #[.int .i64 (escR m).1, .int .i64 ((escR m).2.1 : Int), .int .i64 ((escR m).2.2 : Int)]) ∧ w = w' := by
  have hsz := mk_size m
  obtain ⟨N, hN⟩ : ∃ N, N = m.length := ⟨_, rfl⟩
  rw [← hN] at hsz hl
  by_cases h2 : N < 2
  · have HV : Hid (escR m = (0, 0, 4)) := by unfold escR; rw [if_pos (by omega)]; exact rfl
    clear hN
    go_enter Tryd.func23, Tryd.ntmps23
    go_wp2
    refine bodyPost_ret (v := .tuple #[.int .i64 0, .int .i64 0, .int .i64 4]) (by simp [results, Tryd.results23, go_sem]) rfl ⟨?_, rfl⟩
    rw [HV.out]; rfl
  have hg : ∀ h, (mk m)[1]'h = m.getD 1 0 := fun h => getD_mk m 1 h
  have hVm : ∀ n, mnt (m.getD 1 0) = some n → escR m = (n, 2, 0) := fun n hn => mnt_esc (by omega) hn
  have hVd : mnt (m.getD 1 0) = none → escR m = if dgs (m.getD 1 0) = 0 then (0, 0, 3) else escH m (dgs (m.getD 1 0)) := fun hn => dgs_esc (by omega) hn
  generalize m.getD 1 0 = c at *
  by_cases h34 : c = 34
  · have hc := h34
    have q34 : ((c.toNat : Int) == 34) = true := (blit c 34).trans (by rw [hc]; rfl)
    have HV : Hid (escR m = (34, 2, 0)) := hVm 34 (by rw [hc]; rfl)
    have hct : (c.toNat : Int) = 34 := by rw [hc]; rfl
    clear hVm hVd hN hc h34
    go_enter Tryd.func23, Tryd.ntmps23
    go_wp2
    refine bodyPost_ret (v := .tuple #[.int .i64 34, .int .i64 2, .int .i64 0]) (by simp [results, Tryd.results23, go_sem, hct]) rfl ⟨?_, rfl⟩
    rw [HV.out]; rfl
  by_cases h92 : c = 92
  · have hc := h92
    have q34 : ((c.toNat : Int) == 34) = false := (blit c 34).trans (by rw [beq_eq_false_iff_ne]; exact h34)
    have q92 : ((c.toNat : Int) == 92) = true := (blit c 92).trans (by rw [hc]; rfl)
    have HV : Hid (escR m = (92, 2, 0)) := hVm 92 (by rw [hc]; rfl)
    have hct : (c.toNat : Int) = 92 := by rw [hc]; rfl
    clear hVm hVd hN hc h34 h92
    go_enter Tryd.func23, Tryd.ntmps23
    go_wp2
    refine bodyPost_ret (v := .tuple #[.int .i64 92, .int .i64 2, .int .i64 0]) (by simp [results, Tryd.results23, go_sem, hct]) rfl ⟨?_, rfl⟩
    rw [HV.out]; rfl
  by_cases h110 : c = 110
  · have hc := h110
    have q34 : ((c.toNat : Int) == 34) = false := (blit c 34).trans (by rw [beq_eq_false_iff_ne]; exact h34)
    have q92 : ((c.toNat : Int) == 92) = false := (blit c 92).trans (by rw [beq_eq_false_iff_ne]; exact h92)
    have q110 : ((c.toNat : Int) == 110) = true := (blit c 110).trans (by rw [hc]; rfl)
    have HV : Hid (escR m = (10, 2, 0)) := hVm 10 (by rw [hc]; rfl)
    clear hVm hVd hN hc h34 h92 h110
    go_enter Tryd.func23, Tryd.ntmps23
    go_wp2
    refine bodyPost_ret (v := .tuple #[.int .i64 10, .int .i64 2, .int .i64 0]) (by simp [results, Tryd.results23, go_sem]) rfl ⟨?_, rfl⟩
    rw [HV.out]; rfl
  by_cases h116 : c = 116
  · have hc := h116
    have q34 : ((c.toNat : Int) == 34) = false := (blit c 34).trans (by rw [beq_eq_false_iff_ne]; exact h34)
    have q92 : ((c.toNat : Int) == 92) = false := (blit c 92).trans (by rw [beq_eq_false_iff_ne]; exact h92)
    have q110 : ((c.toNat : Int) == 110) = false := (blit c 110).trans (by rw [beq_eq_false_iff_ne]; exact h110)
    have q116 : ((c.toNat : Int) == 116) = true := (blit c 116).trans (by rw [hc]; rfl)
    have HV : Hid (escR m = (9, 2, 0)) := hVm 9 (by rw [hc]; rfl)
    clear hVm hVd hN hc h34 h92 h110 h116
    go_enter Tryd.func23, Tryd.ntmps23
    go_wp2
    refine bodyPost_ret (v := .tuple #[.int .i64 9, .int .i64 2, .int .i64 0]) (by simp [results, Tryd.results23, go_sem]) rfl ⟨?_, rfl⟩
    rw [HV.out]; rfl
  by_cases h114 : c = 114
  · have hc := h114
    have q34 : ((c.toNat : Int) == 34) = false := (blit c 34).trans (by rw [beq_eq_false_iff_ne]; exact h34)
    have q92 : ((c.toNat : Int) == 92) = false := (blit c 92).trans (by rw [beq_eq_false_iff_ne]; exact h92)
    have q110 : ((c.toNat : Int) == 110) = false := (blit c 110).trans (by rw [beq_eq_false_iff_ne]; exact h110)
    have q116 : ((c.toNat : Int) == 116) = false := (blit c 116).trans (by rw [beq_eq_false_iff_ne]; exact h116)
    have q114 : ((c.toNat : Int) == 114) = true := (blit c 114).trans (by rw [hc]; rfl)
    have HV : Hid (escR m = (13, 2, 0)) := hVm 13 (by rw [hc]; rfl)
    clear hVm hVd hN hc h34 h92 h110 h116 h114
    go_enter Tryd.func23, Tryd.ntmps23
    go_wp2
    refine bodyPost_ret (v := .tuple #[.int .i64 13, .int .i64 2, .int .i64 0]) (by simp [results, Tryd.results23, go_sem]) rfl ⟨?_, rfl⟩
    rw [HV.out]; rfl
  by_cases h48 : c = 48
  · have hc := h48
    have q34 : ((c.toNat : Int) == 34) = false := (blit c 34).trans (by rw [beq_eq_false_iff_ne]; exact h34)
    have q92 : ((c.toNat : Int) == 92) = false := (blit c 92).trans (by rw [beq_eq_false_iff_ne]; exact h92)
    have q110 : ((c.toNat : Int) == 110) = false := (blit c 110).trans (by rw [beq_eq_false_iff_ne]; exact h110)
    have q116 : ((c.toNat : Int) == 116) = false := (blit c 116).trans (by rw [beq_eq_false_iff_ne]; exact h116)
    have q114 : ((c.toNat : Int) == 114) = false := (blit c 114).trans (by rw [beq_eq_false_iff_ne]; exact h114)
    have q48 : ((c.toNat : Int) == 48) = true := (blit c 48).trans (by rw [hc]; rfl)
    have HV : Hid (escR m = (0, 2, 0)) := hVm 0 (by rw [hc]; rfl)
    clear hVm hVd hN hc h34 h92 h110 h116 h114 h48
    go_enter Tryd.func23, Tryd.ntmps23
    go_wp2
    refine bodyPost_ret (v := .tuple #[.int .i64 0, .int .i64 2, .int .i64 0]) (by simp [results, Tryd.results23, go_sem]) rfl ⟨?_, rfl⟩
    rw [HV.out]; rfl
  have hmn : mnt c = none := by unfold mnt; rw [if_neg h34, if_neg h92, if_neg h110, if_neg h116, if_neg h114, if_neg h48]
  have hV := hVd hmn
  clear hVm hVd hmn
  obtain ⟨t, ht⟩ : ∃ t, t = m.drop 2 := ⟨_, rfl⟩
  have htl : t.length = N - 2 := by rw [ht, List.length_drop, hN]
  have hgt : ∀ i, m.getD (2 + i) 0 = t.getD i 0 := fun i => by rw [ht, getD_dropR m 2 i]
  have hE : ∀ k, escH m k = if (hexR k t 0).2 = 0 then (if sgn (hexR k t 0).1 = true then ((hexR k t 0).1, 2 + k, 0) else (0, 0, 3)) else (0, 0, (hexR k t 0).2) := fun k => by unfold escH; rw [ht]
  have hgm : ∀ i h, (mk m)[i]'h = m.getD i 0 := fun i h => getD_mk m i h
  by_cases h120 : c = 120
  · have hc := h120
    have q34 : ((c.toNat : Int) == 34) = false := (blit c 34).trans (by rw [beq_eq_false_iff_ne]; exact h34)
    have q92 : ((c.toNat : Int) == 92) = false := (blit c 92).trans (by rw [beq_eq_false_iff_ne]; exact h92)
    have q110 : ((c.toNat : Int) == 110) = false := (blit c 110).trans (by rw [beq_eq_false_iff_ne]; exact h110)
    have q116 : ((c.toNat : Int) == 116) = false := (blit c 116).trans (by rw [beq_eq_false_iff_ne]; exact h116)
    have q114 : ((c.toNat : Int) == 114) = false := (blit c 114).trans (by rw [beq_eq_false_iff_ne]; exact h114)
    have q48 : ((c.toNat : Int) == 48) = false := (blit c 48).trans (by rw [beq_eq_false_iff_ne]; exact h48)
    have q120 : ((c.toNat : Int) == 120) = true := (blit c 120).trans (by rw [hc]; rfl)
    have HVV : Hid (escR m = escH m 2) := by rw [hV, hc]; exact rfl
    have HEE : Hid (∀ k, escH m k = if (hexR k t 0).2 = 0 then (if sgn (hexR k t 0).1 = true then ((hexR k t 0).1, 2 + k, 0) else (0, 0, 3)) else (0, 0, (hexR k t 0).2)) := hE
    have HGT : Hid (∀ i, m.getD (2 + i) 0 = t.getD i 0) := hgt
    have HTL : Hid (t.length = N - 2) := htl
    have HGM : Hid (∀ i h, (mk m)[i]'h = m.getD i 0) := hgm
    clear hV hN hc hE hgt htl hgm ht h34 h92 h110 h116 h114 h48 h120
    go_enter Tryd.func23, Tryd.ntmps23
    go_wp2
    go_loop [6, 7] (fun y i => ∃ (j : Nat) (x : Int), j ≤ 2 ∧ j + 2 ≤ N ∧ 0 ≤ x ∧ x + 1 ≤ 16 ^ j ∧ i = .int .i64 ((j : Int) + 2) ∧ y = .int .i64 x ∧ hexR 2 t 0 = hexR (2 - j) (t.drop j) x) (fun _ i => 2 + 2 - (intOf i).toNat)
    case atStart => exact ⟨0, 0, Nat.zero_le _, by omega, by decide, by decide, rfl, rfl, by simp⟩
    case round =>
      obtain ⟨j, x, hj, hjN, hx0, hx1, rfl, rfl, hcc⟩ := hrel
      have HC : Hid (hexR 2 t 0 = hexR (2 - j) (t.drop j) x) := hcc
      have hx2 : x ≤ 68719476735 := by
        have : (16 : Int) ^ j ≤ 16 ^ 8 := by
          rcases (show j = 0 ∨ j = 1 ∨ j = 2 ∨ j = 3 ∨ j = 4 ∨ j = 5 ∨ j = 6 ∨ j = 7 ∨ j = 8 by omega) with rfl | rfl | rfl | rfl | rfl | rfl | rfl | rfl | rfl <;> decide
        omega
      have HX1 : Hid (x + 1 ≤ 16 ^ j) := hx1
      clear hcc hx1
      by_cases hlt : j < 2
      · by_cases hj2 : j + 2 = N
        · have HR : Hid (hexR 2 t 0 = (0, 4)) := by
            rw [HC.out, List.drop_of_length_le (by rw [HTL.out]; omega)]
            obtain ⟨r, hr⟩ : ∃ r, 2 - j = r + 1 := ⟨2 - j - 1, by omega⟩
            rw [hr]; exact rfl
          go_wp2
          refine bodyPost_ret (v := .tuple #[.int .i64 0, .int .i64 0, .int .i64 4]) (by simp [results, Tryd.results23, go_sem]) rfl ⟨?_, rfl⟩
          rw [HVV.out, HEE.out, HR.out]; rfl
        · have hg2 : ∀ h, (mk m)[j + 2]'h = m.getD (j + 2) 0 := fun h => HGM.out (j + 2) h
          have hdr : t.drop j = t.getD j 0 :: t.drop (j + 1) := drop_cons (by rw [HTL.out]; omega)
          rw [Nat.add_comm j 2, HGT.out j] at hg2
          obtain ⟨r, hr⟩ : ∃ r, 2 - j = r + 1 := ⟨2 - j - 1, by omega⟩
          have hstep : hexR (2 - j) (t.drop j) x = if dig (t.getD j 0) < 0 then (0, 3) else hexR r (t.drop (j + 1)) (x * 16 + dig (t.getD j 0)) := by
            rw [hr, hdr]; rfl
          have hmm : r = 2 - (j + 1) := by omega
          rw [hmm] at hstep
          generalize t.getD j 0 = d at hg2 hstep
          have hbd := dig_bd d
          obtain ⟨D, hD⟩ : ∃ D, D = dig d := ⟨_, rfl⟩
          have HDG : Hid (∀ w, Calls Tryd.prog 41 #[.int .u8 (d.toNat : Int)] w fun e w' => e = .returned (.int .i64 D) ∧ w = w') := fun w => by rw [hD]; exact rdigit_any d w
          rw [← hD] at hstep hbd
          clear hD hdr hr hmm
          have hg3 : ∀ h, (mk m)[((j : Int) + 2).toNat]'h = d := fun h => by
            have e : ((j : Int) + 2).toNat = 2 + j := by omega
            simp only [e] at h ⊢
            exact hg2 h
          by_cases hneg : D < 0
          · have HR : Hid (hexR 2 t 0 = (0, 3)) := by rw [HC.out, hstep, if_pos hneg]; exact rfl
            clear hstep
            go_wp2_with (first | (go_at_call 41; refine (HDG.out _).mono ?_; rintro e w' ⟨rfl, rfl⟩))
            refine bodyPost_ret (v := .tuple #[.int .i64 0, .int .i64 0, .int .i64 3]) (by simp [results, Tryd.results23, go_sem]) rfl ⟨?_, rfl⟩
            rw [HVV.out, HEE.out, HR.out]; rfl
          · have HR : Hid (hexR 2 t 0 = hexR (2 - (j + 1)) (t.drop (j + 1)) (x * 16 + D)) := by rw [HC.out, hstep, if_neg hneg]; exact rfl
            clear hstep
            go_wp2_with (first | (go_at_call 41; refine (HDG.out _).mono ?_; rintro e w' ⟨rfl, rfl⟩))
            go_round
            case rel => exact ⟨j + 1, x * 16 + D, by omega, by omega, by omega, by have := HX1.out; rw [Int.pow_succ]; omega, by go_num, rfl, HR.out⟩
            case measure => simp [intOf]; omega
      · have HR : Hid (hexR 2 t 0 = (x, 0)) := by
          rw [HC.out, show 2 - j = 0 by omega]; exact rfl
        cases hs : sgn x
        · have HS : Hid (sgn x = false) := hs
          go_wp2_with (first | (go_at_call 42; refine (rsign_any _ _).mono ?_; rintro e w' ⟨rfl, rfl⟩))
          refine bodyPost_ret (v := .tuple #[.int .i64 0, .int .i64 0, .int .i64 3]) (by simp [results, Tryd.results23, go_sem]) rfl ⟨?_, rfl⟩
          rw [HVV.out, HEE.out, HR.out]; simp only [HS.out]; rfl
        · have HS : Hid (sgn x = true) := hs
          go_wp2_with (first | (go_at_call 42; refine (rsign_any _ _).mono ?_; rintro e w' ⟨rfl, rfl⟩))
          refine bodyPost_ret (v := .tuple #[.int .i64 x, .int .i64 (2 + 2), .int .i64 0]) (by simp [results, Tryd.results23, go_sem]) rfl ⟨?_, rfl⟩
          rw [HVV.out, HEE.out, HR.out]; simp only [HS.out]; rfl
  by_cases h117 : c = 117
  · have hc := h117
    have q34 : ((c.toNat : Int) == 34) = false := (blit c 34).trans (by rw [beq_eq_false_iff_ne]; exact h34)
    have q92 : ((c.toNat : Int) == 92) = false := (blit c 92).trans (by rw [beq_eq_false_iff_ne]; exact h92)
    have q110 : ((c.toNat : Int) == 110) = false := (blit c 110).trans (by rw [beq_eq_false_iff_ne]; exact h110)
    have q116 : ((c.toNat : Int) == 116) = false := (blit c 116).trans (by rw [beq_eq_false_iff_ne]; exact h116)
    have q114 : ((c.toNat : Int) == 114) = false := (blit c 114).trans (by rw [beq_eq_false_iff_ne]; exact h114)
    have q48 : ((c.toNat : Int) == 48) = false := (blit c 48).trans (by rw [beq_eq_false_iff_ne]; exact h48)
    have q120 : ((c.toNat : Int) == 120) = false := (blit c 120).trans (by rw [beq_eq_false_iff_ne]; exact h120)
    have q117 : ((c.toNat : Int) == 117) = true := (blit c 117).trans (by rw [hc]; rfl)
    have HVV : Hid (escR m = escH m 4) := by rw [hV, hc]; exact rfl
    have HEE : Hid (∀ k, escH m k = if (hexR k t 0).2 = 0 then (if sgn (hexR k t 0).1 = true then ((hexR k t 0).1, 2 + k, 0) else (0, 0, 3)) else (0, 0, (hexR k t 0).2)) := hE
    have HGT : Hid (∀ i, m.getD (2 + i) 0 = t.getD i 0) := hgt
    have HTL : Hid (t.length = N - 2) := htl
    have HGM : Hid (∀ i h, (mk m)[i]'h = m.getD i 0) := hgm
    clear hV hN hc hE hgt htl hgm ht h34 h92 h110 h116 h114 h48 h120 h117
    go_enter Tryd.func23, Tryd.ntmps23
    go_wp2
    go_loop [6, 7] (fun y i => ∃ (j : Nat) (x : Int), j ≤ 4 ∧ j + 2 ≤ N ∧ 0 ≤ x ∧ x + 1 ≤ 16 ^ j ∧ i = .int .i64 ((j : Int) + 2) ∧ y = .int .i64 x ∧ hexR 4 t 0 = hexR (4 - j) (t.drop j) x) (fun _ i => 4 + 2 - (intOf i).toNat)
    case atStart => exact ⟨0, 0, Nat.zero_le _, by omega, by decide, by decide, rfl, rfl, by simp⟩
    case round =>
      obtain ⟨j, x, hj, hjN, hx0, hx1, rfl, rfl, hcc⟩ := hrel
      have HC : Hid (hexR 4 t 0 = hexR (4 - j) (t.drop j) x) := hcc
      have hx2 : x ≤ 68719476735 := by
        have : (16 : Int) ^ j ≤ 16 ^ 8 := by
          rcases (show j = 0 ∨ j = 1 ∨ j = 2 ∨ j = 3 ∨ j = 4 ∨ j = 5 ∨ j = 6 ∨ j = 7 ∨ j = 8 by omega) with rfl | rfl | rfl | rfl | rfl | rfl | rfl | rfl | rfl <;> decide
        omega
      have HX1 : Hid (x + 1 ≤ 16 ^ j) := hx1
      clear hcc hx1
      by_cases hlt : j < 4
      · by_cases hj2 : j + 2 = N
        · have HR : Hid (hexR 4 t 0 = (0, 4)) := by
            rw [HC.out, List.drop_of_length_le (by rw [HTL.out]; omega)]
            obtain ⟨r, hr⟩ : ∃ r, 4 - j = r + 1 := ⟨4 - j - 1, by omega⟩
            rw [hr]; exact rfl
          go_wp2
          refine bodyPost_ret (v := .tuple #[.int .i64 0, .int .i64 0, .int .i64 4]) (by simp [results, Tryd.results23, go_sem]) rfl ⟨?_, rfl⟩
          rw [HVV.out, HEE.out, HR.out]; rfl
        · have hg2 : ∀ h, (mk m)[j + 2]'h = m.getD (j + 2) 0 := fun h => HGM.out (j + 2) h
          have hdr : t.drop j = t.getD j 0 :: t.drop (j + 1) := drop_cons (by rw [HTL.out]; omega)
          rw [Nat.add_comm j 2, HGT.out j] at hg2
          obtain ⟨r, hr⟩ : ∃ r, 4 - j = r + 1 := ⟨4 - j - 1, by omega⟩
          have hstep : hexR (4 - j) (t.drop j) x = if dig (t.getD j 0) < 0 then (0, 3) else hexR r (t.drop (j + 1)) (x * 16 + dig (t.getD j 0)) := by
            rw [hr, hdr]; rfl
          have hmm : r = 4 - (j + 1) := by omega
          rw [hmm] at hstep
          generalize t.getD j 0 = d at hg2 hstep
          have hbd := dig_bd d
          obtain ⟨D, hD⟩ : ∃ D, D = dig d := ⟨_, rfl⟩
          have HDG : Hid (∀ w, Calls Tryd.prog 41 #[.int .u8 (d.toNat : Int)] w fun e w' => e = .returned (.int .i64 D) ∧ w = w') := fun w => by rw [hD]; exact rdigit_any d w
          rw [← hD] at hstep hbd
          clear hD hdr hr hmm
          have hg3 : ∀ h, (mk m)[((j : Int) + 2).toNat]'h = d := fun h => by
            have e : ((j : Int) + 2).toNat = 2 + j := by omega
            simp only [e] at h ⊢
            exact hg2 h
          by_cases hneg : D < 0
          · have HR : Hid (hexR 4 t 0 = (0, 3)) := by rw [HC.out, hstep, if_pos hneg]; exact rfl
            clear hstep
            go_wp2_with (first | (go_at_call 41; refine (HDG.out _).mono ?_; rintro e w' ⟨rfl, rfl⟩))
            refine bodyPost_ret (v := .tuple #[.int .i64 0, .int .i64 0, .int .i64 3]) (by simp [results, Tryd.results23, go_sem]) rfl ⟨?_, rfl⟩
            rw [HVV.out, HEE.out, HR.out]; rfl
          · have HR : Hid (hexR 4 t 0 = hexR (4 - (j + 1)) (t.drop (j + 1)) (x * 16 + D)) := by rw [HC.out, hstep, if_neg hneg]; exact rfl
            clear hstep
            go_wp2_with (first | (go_at_call 41; refine (HDG.out _).mono ?_; rintro e w' ⟨rfl, rfl⟩))
            go_round
            case rel => exact ⟨j + 1, x * 16 + D, by omega, by omega, by omega, by have := HX1.out; rw [Int.pow_succ]; omega, by go_num, rfl, HR.out⟩
            case measure => simp [intOf]; omega
      · have HR : Hid (hexR 4 t 0 = (x, 0)) := by
          rw [HC.out, show 4 - j = 0 by omega]; exact rfl
        cases hs : sgn x
        · have HS : Hid (sgn x = false) := hs
          go_wp2_with (first | (go_at_call 42; refine (rsign_any _ _).mono ?_; rintro e w' ⟨rfl, rfl⟩))
          refine bodyPost_ret (v := .tuple #[.int .i64 0, .int .i64 0, .int .i64 3]) (by simp [results, Tryd.results23, go_sem]) rfl ⟨?_, rfl⟩
          rw [HVV.out, HEE.out, HR.out]; simp only [HS.out]; rfl
        · have HS : Hid (sgn x = true) := hs
          go_wp2_with (first | (go_at_call 42; refine (rsign_any _ _).mono ?_; rintro e w' ⟨rfl, rfl⟩))
          refine bodyPost_ret (v := .tuple #[.int .i64 x, .int .i64 (2 + 4), .int .i64 0]) (by simp [results, Tryd.results23, go_sem]) rfl ⟨?_, rfl⟩
          rw [HVV.out, HEE.out, HR.out]; simp only [HS.out]; rfl
  by_cases h85 : c = 85
  · have hc := h85
    have q34 : ((c.toNat : Int) == 34) = false := (blit c 34).trans (by rw [beq_eq_false_iff_ne]; exact h34)
    have q92 : ((c.toNat : Int) == 92) = false := (blit c 92).trans (by rw [beq_eq_false_iff_ne]; exact h92)
    have q110 : ((c.toNat : Int) == 110) = false := (blit c 110).trans (by rw [beq_eq_false_iff_ne]; exact h110)
    have q116 : ((c.toNat : Int) == 116) = false := (blit c 116).trans (by rw [beq_eq_false_iff_ne]; exact h116)
    have q114 : ((c.toNat : Int) == 114) = false := (blit c 114).trans (by rw [beq_eq_false_iff_ne]; exact h114)
    have q48 : ((c.toNat : Int) == 48) = false := (blit c 48).trans (by rw [beq_eq_false_iff_ne]; exact h48)
    have q120 : ((c.toNat : Int) == 120) = false := (blit c 120).trans (by rw [beq_eq_false_iff_ne]; exact h120)
    have q117 : ((c.toNat : Int) == 117) = false := (blit c 117).trans (by rw [beq_eq_false_iff_ne]; exact h117)
    have q85 : ((c.toNat : Int) == 85) = true := (blit c 85).trans (by rw [hc]; rfl)
    have HVV : Hid (escR m = escH m 8) := by rw [hV, hc]; exact rfl
    have HEE : Hid (∀ k, escH m k = if (hexR k t 0).2 = 0 then (if sgn (hexR k t 0).1 = true then ((hexR k t 0).1, 2 + k, 0) else (0, 0, 3)) else (0, 0, (hexR k t 0).2)) := hE
    have HGT : Hid (∀ i, m.getD (2 + i) 0 = t.getD i 0) := hgt
    have HTL : Hid (t.length = N - 2) := htl
    have HGM : Hid (∀ i h, (mk m)[i]'h = m.getD i 0) := hgm
    clear hV hN hc hE hgt htl hgm ht h34 h92 h110 h116 h114 h48 h120 h117 h85
    go_enter Tryd.func23, Tryd.ntmps23
    go_wp2
    go_loop [6, 7] (fun y i => ∃ (j : Nat) (x : Int), j ≤ 8 ∧ j + 2 ≤ N ∧ 0 ≤ x ∧ x + 1 ≤ 16 ^ j ∧ i = .int .i64 ((j : Int) + 2) ∧ y = .int .i64 x ∧ hexR 8 t 0 = hexR (8 - j) (t.drop j) x) (fun _ i => 8 + 2 - (intOf i).toNat)
    case atStart => exact ⟨0, 0, Nat.zero_le _, by omega, by decide, by decide, rfl, rfl, by simp⟩
    case round =>
      obtain ⟨j, x, hj, hjN, hx0, hx1, rfl, rfl, hcc⟩ := hrel
      have HC : Hid (hexR 8 t 0 = hexR (8 - j) (t.drop j) x) := hcc
      have hx2 : x ≤ 68719476735 := by
        have : (16 : Int) ^ j ≤ 16 ^ 8 := by
          rcases (show j = 0 ∨ j = 1 ∨ j = 2 ∨ j = 3 ∨ j = 4 ∨ j = 5 ∨ j = 6 ∨ j = 7 ∨ j = 8 by omega) with rfl | rfl | rfl | rfl | rfl | rfl | rfl | rfl | rfl <;> decide
        omega
      have HX1 : Hid (x + 1 ≤ 16 ^ j) := hx1
      clear hcc hx1
      by_cases hlt : j < 8
      · by_cases hj2 : j + 2 = N
        · have HR : Hid (hexR 8 t 0 = (0, 4)) := by
            rw [HC.out, List.drop_of_length_le (by rw [HTL.out]; omega)]
            obtain ⟨r, hr⟩ : ∃ r, 8 - j = r + 1 := ⟨8 - j - 1, by omega⟩
            rw [hr]; exact rfl
          go_wp2
          refine bodyPost_ret (v := .tuple #[.int .i64 0, .int .i64 0, .int .i64 4]) (by simp [results, Tryd.results23, go_sem]) rfl ⟨?_, rfl⟩
          rw [HVV.out, HEE.out, HR.out]; rfl
        · have hg2 : ∀ h, (mk m)[j + 2]'h = m.getD (j + 2) 0 := fun h => HGM.out (j + 2) h
          have hdr : t.drop j = t.getD j 0 :: t.drop (j + 1) := drop_cons (by rw [HTL.out]; omega)
          rw [Nat.add_comm j 2, HGT.out j] at hg2
          obtain ⟨r, hr⟩ : ∃ r, 8 - j = r + 1 := ⟨8 - j - 1, by omega⟩
          have hstep : hexR (8 - j) (t.drop j) x = if dig (t.getD j 0) < 0 then (0, 3) else hexR r (t.drop (j + 1)) (x * 16 + dig (t.getD j 0)) := by
            rw [hr, hdr]; rfl
          have hmm : r = 8 - (j + 1) := by omega
          rw [hmm] at hstep
          generalize t.getD j 0 = d at hg2 hstep
          have hbd := dig_bd d
          obtain ⟨D, hD⟩ : ∃ D, D = dig d := ⟨_, rfl⟩
          have HDG : Hid (∀ w, Calls Tryd.prog 41 #[.int .u8 (d.toNat : Int)] w fun e w' => e = .returned (.int .i64 D) ∧ w = w') := fun w => by rw [hD]; exact rdigit_any d w
          rw [← hD] at hstep hbd
          clear hD hdr hr hmm
          have hg3 : ∀ h, (mk m)[((j : Int) + 2).toNat]'h = d := fun h => by
            have e : ((j : Int) + 2).toNat = 2 + j := by omega
            simp only [e] at h ⊢
            exact hg2 h
          by_cases hneg : D < 0
          · have HR : Hid (hexR 8 t 0 = (0, 3)) := by rw [HC.out, hstep, if_pos hneg]; exact rfl
            clear hstep
            go_wp2_with (first | (go_at_call 41; refine (HDG.out _).mono ?_; rintro e w' ⟨rfl, rfl⟩))
            refine bodyPost_ret (v := .tuple #[.int .i64 0, .int .i64 0, .int .i64 3]) (by simp [results, Tryd.results23, go_sem]) rfl ⟨?_, rfl⟩
            rw [HVV.out, HEE.out, HR.out]; rfl
          · have HR : Hid (hexR 8 t 0 = hexR (8 - (j + 1)) (t.drop (j + 1)) (x * 16 + D)) := by rw [HC.out, hstep, if_neg hneg]; exact rfl
            clear hstep
            go_wp2_with (first | (go_at_call 41; refine (HDG.out _).mono ?_; rintro e w' ⟨rfl, rfl⟩))
            go_round
            case rel => exact ⟨j + 1, x * 16 + D, by omega, by omega, by omega, by have := HX1.out; rw [Int.pow_succ]; omega, by go_num, rfl, HR.out⟩
            case measure => simp [intOf]; omega
      · have HR : Hid (hexR 8 t 0 = (x, 0)) := by
          rw [HC.out, show 8 - j = 0 by omega]; exact rfl
        cases hs : sgn x
        · have HS : Hid (sgn x = false) := hs
          go_wp2_with (first | (go_at_call 42; refine (rsign_any _ _).mono ?_; rintro e w' ⟨rfl, rfl⟩))
          refine bodyPost_ret (v := .tuple #[.int .i64 0, .int .i64 0, .int .i64 3]) (by simp [results, Tryd.results23, go_sem]) rfl ⟨?_, rfl⟩
          rw [HVV.out, HEE.out, HR.out]; simp only [HS.out]; rfl
        · have HS : Hid (sgn x = true) := hs
          go_wp2_with (first | (go_at_call 42; refine (rsign_any _ _).mono ?_; rintro e w' ⟨rfl, rfl⟩))
          refine bodyPost_ret (v := .tuple #[.int .i64 x, .int .i64 (2 + 8), .int .i64 0]) (by simp [results, Tryd.results23, go_sem]) rfl ⟨?_, rfl⟩
          rw [HVV.out, HEE.out, HR.out]; simp only [HS.out]; rfl
  have q34 : ((c.toNat : Int) == 34) = false := (blit c 34).trans (by rw [beq_eq_false_iff_ne]; exact h34)
  have q92 : ((c.toNat : Int) == 92) = false := (blit c 92).trans (by rw [beq_eq_false_iff_ne]; exact h92)
  have q110 : ((c.toNat : Int) == 110) = false := (blit c 110).trans (by rw [beq_eq_false_iff_ne]; exact h110)
  have q116 : ((c.toNat : Int) == 116) = false := (blit c 116).trans (by rw [beq_eq_false_iff_ne]; exact h116)
  have q114 : ((c.toNat : Int) == 114) = false := (blit c 114).trans (by rw [beq_eq_false_iff_ne]; exact h114)
  have q48 : ((c.toNat : Int) == 48) = false := (blit c 48).trans (by rw [beq_eq_false_iff_ne]; exact h48)
  have q120 : ((c.toNat : Int) == 120) = false := (blit c 120).trans (by rw [beq_eq_false_iff_ne]; exact h120)
  have q117 : ((c.toNat : Int) == 117) = false := (blit c 117).trans (by rw [beq_eq_false_iff_ne]; exact h117)
  have q85 : ((c.toNat : Int) == 85) = false := (blit c 85).trans (by rw [beq_eq_false_iff_ne]; exact h85)
  have hd0 : dgs c = 0 := by unfold dgs; rw [if_neg h120, if_neg h117, if_neg h85]
  have HV : Hid (escR m = (0, 0, 3)) := by rw [hV, if_pos hd0]; exact rfl
  clear hV hN hE hgt htl hgm ht hd0 h34 h92 h110 h116 h114 h48 h120 h117 h85
  go_enter Tryd.func23, Tryd.ntmps23
  go_wp2
  refine bodyPost_ret (v := .tuple #[.int .i64 0, .int .i64 0, .int .i64 3]) (by simp [results, Tryd.results23, go_sem]) rfl ⟨?_, rfl⟩
  rw [HV.out]; rfl

end Go.Proofs.YtiipndfogofhgaaDoor.Quo
