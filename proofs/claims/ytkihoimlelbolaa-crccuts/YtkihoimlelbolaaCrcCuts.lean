/- The walk of CrcCuts: where bytes are cut does not turn their sum. -/
import Derived.Test.YtkihoimlelbolaaCrcRow
import Derived.BigQuiet
import Derived.Deep.QuietTactic
namespace Go.Proofs.Ytkihoimlelbolaa.Crc
open Go.RowKit
set_option linter.unusedSimpArgs false
set_option linter.unusedVariables false

theorem cut_place (n : Int) (len : Nat) (hl : len ≤ 140737488351232) : ∃ p : Nat, p ≤ len ∧ (wrap64 (wrap64 (n.tmod ((len : Int) + 1) + (len : Int)) + 1)).tmod ((len : Int) + 1) = (p : Int) := by
  have h1 := Int.tmod_lt_of_pos n (show 0 < (len : Int) + 1 by omega)
  have h2 : -((len : Int) + 1) < n.tmod ((len : Int) + 1) := by
    have := Int.lt_tmod_of_pos n (show 0 < (len : Int) + 1 by omega)
    omega
  generalize n.tmod ((len : Int) + 1) = m at *
  have e1 : wrap64 (m + (len : Int)) = m + len := by unfold wrap64; omega
  have e2 : wrap64 (m + (len : Int) + 1) = m + len + 1 := by unfold wrap64; omega
  rw [e1, e2]
  have h3 := Int.tmod_lt_of_pos (m + len + 1) (show 0 < (len : Int) + 1 by omega)
  have h4 := Int.tmod_nonneg (a := m + len + 1) ((len : Int) + 1) (by omega)
  exact ⟨((m + len + 1).tmod ((len : Int) + 1)).toNat, by omega, by omega⟩

theorem bys_take {w : World} {a : Option Addr} {len : Nat} {l : List UInt8} (h : Bys w a len l) (p : Nat) (hp : p ≤ len) : Bys w a p (l.take p) := by
  refine ⟨by rw [List.length_take, ← h.1]; omega, fun h0 => ?_⟩
  obtain ⟨b, off, ha, hb, hc⟩ := h.2 (by omega)
  refine ⟨b, off, ha, hb, fun i hi => ?_⟩
  rw [hc i (by omega), List.getD_eq_getElem?_getD, List.getD_eq_getElem?_getD, List.getElem?_take, if_pos hi]
theorem bys_none (w : World) (a : Option Addr) (n : Nat) (l : List UInt8) (h : n = 0) (hl : l = []) : Bys w a n l := by
  subst h; subst hl
  exact ⟨rfl, fun h => absurd h (by decide)⟩
theorem bys_drop {w : World} {a : Option Addr} {len : Nat} {l : List UInt8} (h : Bys w a len l) (p : Nat) : Bys w (Option.map (fun x => x.add p) a) (len - p) (l.drop p) := by
  refine ⟨by rw [List.length_drop, ← h.1], fun h0 => ?_⟩
  obtain ⟨b, off, ha, hb, hc⟩ := h.2 (by omega)
  refine ⟨b, off + p, by rw [ha]; simp [Addr.add_mid], hb, fun i hi => ?_⟩
  rw [Nat.add_assoc, hc (p + i) (by omega), List.getD_eq_getElem?_getD, List.getD_eq_getElem?_getD, List.getElem?_drop]

theorem crcCuts_any (a : Option Addr) (len cap : Nat) (l : List UInt8) (n : Int) (w : World) (h : BArg w a len cap l) (hn : (Lit.int .i64 n).wf = true) :
    Calls Try.prog 6 #[.slice a len cap, .int .i64 n] w fun e w' => e = .returned (.bool true) ∧ Below w.heap.size w w' := by
  have hl := h.2.1
  have hlc := h.2.2.1
  have hcm := h.2.2.2
  have HM : Hid (len ≤ maxLen) := Nat.le_trans hlc hcm
  unfold maxLen at hcm
  clear hn
  obtain ⟨p, hp, hpe⟩ := cut_place n len hl
  have hpc : p ≤ cap := by omega
  have HMx : Hid (p ≤ maxLen) := Nat.le_trans hp HM.out
  have HMy : Hid (len - p ≤ maxLen) := Nat.le_trans (Nat.sub_le _ _) HM.out
  have HB : Hid (Bys w a len l) := h.1
  have HX : Hid (Bys w a p (l.take p)) := bys_take h.1 p hp
  have HY : Hid (Bys w (Option.map (fun x => x.add p) a) (len - p) (l.drop p)) := bys_drop h.1 p
  have HLy : Hid (len - p = (l.drop p).length) := HY.out.1
  have E1 : sums [l.take p, l.drop p] = sums [l] := by rw [sums_app, sums_one, List.take_append_drop]
  have E2 : add (sums [l.take p]) (l.drop p) = sums [l] := by rw [sums_one, sums_one, ← sum_app, List.take_append_drop]
  have E3 : joinedI (sums [l.take p]) (sums [l.drop p]) ((len : Int) - (p : Int)) = sums [l] := by
    rw [show (len : Int) - (p : Int) = ((len - p : Nat) : Int) by omega, sums_one (l.drop p), joinedI_add _ _ _ HLy.out]; exact E2
  have E3' : joinedI (sums [l.take p]) (sums [l.drop p]) ((len - p : Nat) : Int) = sums [l] := by
    rw [sums_one (l.drop p), joinedI_add _ _ _ HLy.out]; exact E2
  have H1 : Hid ((len : Int) - (p : Int) < 9223372036854775808) := by show (len : Int) - (p : Int) < _; omega
  have H1' : Hid (((len - p : Nat) : Int) < 9223372036854775808) := by show ((len - p : Nat) : Int) < _; omega
  have J1 : Hid _ := E1
  have J2 : Hid _ := E2
  have J3 : Hid _ := E3
  have J4 : Hid _ := E3'
  clear h HLy E1 E2 E3 E3'
  generalize l.take p = lx at *
  generalize l.drop p = ly at *
  by_cases hcp : cap = p
  · have HY : Hid (Bys w a (len - p) ly) := bys_none _ _ _ _ (by omega) (List.eq_nil_of_length_eq_zero (by have := HY.out.1; omega))
    go_enter Try.func6, Try.ntmps6
    go_upto_region 2 with fail
    go_quiet (fail)
    go_wp2_with fail
    have hbW : Below w.heap.size w (w.drewN nq) := below_drewN (Below.refl _ _) _
    refine (sum_one (w := w.drewN nq) _ rfl (HB.out.later hbW (Nat.le_refl _)) HM.out).mono ?_
    rintro e w1 ⟨rfl, hb1⟩
    have hbe1 := hbW.trans (hb1.mono hbW.size)
    clear hb1 hbW
    go_wp2_with fail
    refine (sum_two _ rfl (HX.out.later hbe1 (Nat.le_refl _)) HMx.out (HY.out.later hbe1 (Nat.le_refl _)) HMy.out).mono ?_
    rintro e w2 ⟨rfl, hb2⟩
    rw [J1.out]
    have hbe2 := hbe1.trans (hb2.mono hbe1.size)
    clear hbe1 hb2
    go_wp2_with fail
    refine (sum_one _ rfl (HX.out.later hbe2 (Nat.le_refl _)) HMx.out).mono ?_
    rintro e w3 ⟨rfl, hb3⟩
    have hbe3 := hbe2.trans (hb3.mono hbe2.size)
    clear hbe2 hb3
    go_wp2_with fail
    refine (add_any _ _ _ _ _ _ (HY.out.later hbe3 (Nat.le_refl _)) HMy.out).mono ?_
    rintro e w4 ⟨rfl, hb4⟩
    rw [J2.out]
    have hbe4 := hbe3.trans (hb4.mono hbe3.size)
    clear hbe3 hb4
    go_wp2_with fail
    refine (sum_one _ rfl (HX.out.later hbe4 (Nat.le_refl _)) HMx.out).mono ?_
    rintro e w5 ⟨rfl, hb5⟩
    have hbe5 := hbe4.trans (hb5.mono hbe4.size)
    clear hbe4 hb5
    go_wp2_with fail
    refine (sum_one _ rfl (HY.out.later hbe5 (Nat.le_refl _)) HMy.out).mono ?_
    rintro e w6 ⟨rfl, hb6⟩
    have hbe6 := hbe5.trans (hb6.mono hbe5.size)
    clear hbe5 hb6
    go_wp2_with fail
    refine (joined_any _ _ ((len - p : Nat) : Int) H1'.out _).mono ?_
    rintro e w' ⟨rfl, rfl⟩
    rw [J4.out]
    go_wp2_with fail
    refine (alive_any _).mono ?_
    rintro e w7 ⟨rfl, hb7⟩
    have hbel := hbe6.trans (hb7.mono hbe6.size)
    clear hbe6 hb7
    go_wp2
    go_ret
    exact ⟨rfl, hbel⟩
  · go_enter Try.func6, Try.ntmps6
    go_upto_region 2 with fail
    go_quiet (fail)
    go_wp2_with fail
    have hbW : Below w.heap.size w (w.drewN nq) := below_drewN (Below.refl _ _) _
    refine (sum_one (w := w.drewN nq) _ rfl (HB.out.later hbW (Nat.le_refl _)) HM.out).mono ?_
    rintro e w1 ⟨rfl, hb1⟩
    have hbe1 := hbW.trans (hb1.mono hbW.size)
    clear hb1 hbW
    go_wp2_with fail
    refine (sum_two _ rfl (HX.out.later hbe1 (Nat.le_refl _)) HMx.out (HY.out.later hbe1 (Nat.le_refl _)) HMy.out).mono ?_
    rintro e w2 ⟨rfl, hb2⟩
    rw [J1.out]
    have hbe2 := hbe1.trans (hb2.mono hbe1.size)
    clear hbe1 hb2
    go_wp2_with fail
    refine (sum_one _ rfl (HX.out.later hbe2 (Nat.le_refl _)) HMx.out).mono ?_
    rintro e w3 ⟨rfl, hb3⟩
    have hbe3 := hbe2.trans (hb3.mono hbe2.size)
    clear hbe2 hb3
    go_wp2_with fail
    refine (add_any _ _ _ _ _ _ (HY.out.later hbe3 (Nat.le_refl _)) HMy.out).mono ?_
    rintro e w4 ⟨rfl, hb4⟩
    rw [J2.out]
    have hbe4 := hbe3.trans (hb4.mono hbe3.size)
    clear hbe3 hb4
    go_wp2_with fail
    refine (sum_one _ rfl (HX.out.later hbe4 (Nat.le_refl _)) HMx.out).mono ?_
    rintro e w5 ⟨rfl, hb5⟩
    have hbe5 := hbe4.trans (hb5.mono hbe4.size)
    clear hbe4 hb5
    go_wp2_with fail
    refine (sum_one _ rfl (HY.out.later hbe5 (Nat.le_refl _)) HMy.out).mono ?_
    rintro e w6 ⟨rfl, hb6⟩
    have hbe6 := hbe5.trans (hb6.mono hbe5.size)
    clear hbe5 hb6
    go_wp2_with fail
    refine (joined_any _ _ ((len - p : Nat) : Int) H1'.out _).mono ?_
    rintro e w' ⟨rfl, rfl⟩
    rw [J4.out]
    go_wp2_with fail
    refine (alive_any _).mono ?_
    rintro e w7 ⟨rfl, hb7⟩
    have hbel := hbe6.trans (hb7.mono hbe6.size)
    clear hbe6 hb7
    go_wp2
    go_ret
    exact ⟨rfl, hbel⟩

end Go.Proofs.Ytkihoimlelbolaa.Crc
