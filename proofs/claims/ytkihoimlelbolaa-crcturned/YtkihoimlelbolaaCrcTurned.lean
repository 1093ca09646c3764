/- The walk of CrcTurned: bytes of which one was turned have another sum. -/
import Derived.Test.YtkihoimlelbolaaCrcAlive
import Derived.Test.YtkihoimlelbolaaCrcOwn
import Derived.OwnWalk
namespace Go.Proofs.Ytkihoimlelbolaa.Crc
open Go.RowKit
set_option linter.unusedSimpArgs false
set_option linter.unusedVariables false

theorem sums_turned (l : List UInt8) (p : Nat) (hp : p < l.length) (y : UInt8) (h : l.getD p 0 ≠ y) : (nm (sums [l]) != nm (sums [l.set p y])) = true := by
  have e : sums [l] ≠ sums [l.set p y] := by
    show sum l ≠ sum (l.set p y)
    have h1 : l = l.take p ++ l.getD p 0 :: l.drop (p + 1) := by
      rw [List.getD_eq_getElem?_getD, List.getElem?_eq_getElem hp]
      simp
    have h2 : l.set p y = l.take p ++ y :: l.drop (p + 1) := List.set_eq_take_append_cons_drop.trans (if_pos hp)
    rw [h2]
    conv => lhs; rw [h1]
    exact sum_turned _ _ _ _ h
  simp only [bne_iff_ne, ne_eq]
  exact fun c => e (nm_inj c)

theorem crcTurned_any (a : Option Addr) (len cap : Nat) (l : List UInt8) (n : Int) (d : UInt8) (w : World) (h : BArg w a len cap l) (hn : (Lit.int .i64 n).wf = true) :
    Calls Try.prog 7 #[.slice a len cap, .int .i64 n, .int .u8 (nm (wd d))] w fun e w' => e = .returned (.bool true) ∧ Below w.heap.size w w' := by
  have hd0 := nm_lo (wd d)
  have hd1 := nm_wd_hi d
  have hl := h.2.1
  have HM : Hid (len ≤ maxLen) := Nat.le_trans h.2.2.1 h.2.2.2
  have HB : Hid (Bys w a len l) := h.1
  clear hn
  by_cases h0 : len = 0
  · have h0' : (len : Int) = 0 := by omega
    clear h
    go_enter Try.func7, Try.ntmps7
    go_wp2_with (go_at_call 11; refine (alive_any _).mono ?_; rintro e w3 ⟨rfl, hb3⟩)
    go_ret
    exact ⟨rfl, hb3⟩
  by_cases hd : d = 0
  · have hd' : (nm (wd d) == 0) = true := by rw [hd, nm_wd]; rfl
    have h0' : ((len : Int) == 0) = false := by simp; omega
    clear h hd h0
    go_enter Try.func7, Try.ntmps7
    go_wp2_with (go_at_call 11; refine (alive_any _).mono ?_; rintro e w3 ⟨rfl, hb3⟩)
    go_ret
    exact ⟨rfl, hb3⟩
  · have hd' : (nm (wd d) == 0) = false := by
      rw [nm_wd, beq_eq_false_iff_ne]; intro c; exact hd (UInt8.toNat_inj.1 (by simpa using c))
    have h0' : ((len : Int) == 0) = false := by simp; omega
    obtain ⟨p, hp, hpe⟩ := turn_place n len hl (by omega)
    obtain ⟨b, off, rfl, hb, hc⟩ := h.1.2 (by omega)
    have HLn : Hid (len = l.length) := h.1.1
    have HC : Hid (∀ j u, (byC l)[j]? = some u → w.cell? ((⟨b, off, none⟩ : Addr).add j) = some u) := by
      intro j u hu
      have hj : j < l.length := by
        have := (List.getElem?_eq_some_iff.1 hu).1
        rwa [byC_len] at this
      rw [byC_at l j hj] at hu
      rw [Addr.add_mid, hc j (by rw [HLn.out]; exact hj), hu]
    have HD : Hid (d ≠ 0) := hd
    clear h hc hd
    obtain ⟨i0, hi, hz0, hz1, hz2⟩ := info_parts infoByte
    go_enter Try.func7, Try.ntmps7
    go_wp2_with (at_builtin; refine wpList_append_own _ rfl _ _ 28 rfl w.heap.size 5 i0 (.int .u8 0) 1 1 Try.underlying28 hi hz0 hz1 hz2 rfl (by decide) _ _ _ rfl (World.ownsRow_nil _ _ _ _) ⟨b, off, none⟩ len cap (byC l) rfl (by rw [byC_len, Nat.mul_one]; exact HLn.out.symm) HC.out (byC_one _) ?_ ?_ ?_ ?_)
    · unfold maxLen; omega
    · omega
    · exact Nat.le_refl _
    intro v' w1 hown hgrow _
    have hbe1 : Below w.heap.size w w1 := (Below.refl _ w).grown hgrow (Nat.le_refl _) (fun k hk => by cases hk)
    obtain ⟨_, hown⟩ := hown
    rcases hown with ⟨_, hz⟩ | ⟨g, cap', cur, rfl, hgB, hblk, hcl, hcm, hcs, hct⟩
    · exfalso; omega
    simp only [Nat.zero_add, Nat.mul_one, List.nil_append] at hct hcl hcs
    have hgc : ∀ i, i < len → cur[i]? = some (.int .u8 (nm (wd (l.getD i 0)))) := by
      intro i hi
      have := byC_at l i (by rw [← HLn.out]; exact hi)
      rw [← hct, List.getElem?_take, if_pos hi] at this
      simpa using this
    have hcell : w1.cell? ⟨g, p, none⟩ = some (.int .u8 (nm (wd (l.getD p 0)))) := by
      rw [cell_of_row w1 g p cur 5 (0, 0) hblk]; exact hgc p hp
    have hfr : w1.frozen? ⟨g, p, none⟩ = false := by simp only [World.frozen?]; rw [hblk]; simp
    obtain ⟨y, HY⟩ : ∃ y, Hid (y = l.getD p 0 ^^^ d) := ⟨_, rfl⟩
    have hxy : bits .xor .u8 (nm (wd (l.getD p 0))) (nm (wd d)) = nm (wd y) := by rw [xor_byte, HY.out]
    have hx0 := nm_lo (wd (l.getD p 0))
    have hx1 := nm_wd_hi (l.getD p 0)
    have hy0 := nm_lo (wd y)
    have hy1 := nm_wd_hi y
    have HBx : Hid (Bys (w1.setCell ⟨g, p, none⟩ (.int .u8 (nm (wd y)))) (some ⟨g, 0, none⟩) len (l.set p y)) := by
      refine ⟨by rw [List.length_set]; exact HLn.out, fun _ => ⟨g, 0, rfl, ?_, fun i hi => ?_⟩⟩
      · simpa using lt_of_heap hblk
      · rw [Nat.zero_add]
        by_cases e : i = p
        · subst e
          rw [World.cell?_setCell_same _ _ _ hcell, List.getD_eq_getElem?_getD, List.getElem?_set_self (by rw [← HLn.out]; exact hi)]
          rfl
        · rw [World.cell?_setCell_other _ _ _ _ (by intro c; cases c; exact e rfl), cell_of_row w1 g i cur 5 (0, 0) hblk, hgc i hi, List.getD_eq_getElem?_getD, List.getD_eq_getElem?_getD, List.getElem?_set_ne (by omega)]
    have HBe : Hid (Below w.heap.size w (w1.setCell ⟨g, p, none⟩ (.int .u8 (nm (wd y))))) := hbe1.setCell (p := ⟨g, p, none⟩) hgB _
    have HN : Hid (_ = _) := sums_turned l p (by rw [← HLn.out]; exact hp) y (by rw [HY.out]; exact xor_ne _ _ HD.out)
    clear hgrow hgc hct hcs hbe1 HC
    generalize l.getD p 0 = x at *
    generalize l.set p y = l2 at *
    try rw [Nat.zero_add]
    go_wp2_with fail
    refine (sum_one _ (by simp) (HB.out.later HBe.out (Nat.le_refl _)) HM.out).mono ?_
    rintro e w3 ⟨rfl, hb3⟩
    have HBx3 : Hid (Bys w3 (some ⟨g, 0, none⟩) len l2) := HBx.out.later hb3 (Nat.le_refl _)
    have hbe3 := HBe.out.trans (hb3.mono HBe.out.size)
    clear hb3 HBx HBe hcell hfr hblk hxy
    go_wp2_with fail
    refine (sum_one _ rfl HBx3.out HM.out).mono ?_
    rintro e w4 ⟨rfl, hb4⟩
    have hbe4 := hbe3.trans (hb4.mono hbe3.size)
    have hn := HN.out
    clear hb4 hbe3
    go_wp2_with fail
    refine (alive_any _).mono ?_
    rintro e w5 ⟨rfl, hb5⟩
    have hbel := hbe4.trans (hb5.mono hbe4.size)
    clear hbe4 hb5
    go_wp2
    go_ret
    exact ⟨rfl, hbel⟩

end Go.Proofs.Ytkihoimlelbolaa.Crc
