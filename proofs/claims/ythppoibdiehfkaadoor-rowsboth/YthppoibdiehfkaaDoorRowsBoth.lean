/- The walk of RowsBoth. -/
import Derived.Test.YthppoibdiehfkaaDoorRowsPlain3
import Derived.Test.YthppoibdiehfkaaDoorRowsEq
namespace Go.Proofs.YthppoibdiehfkaaDoor.Rws
open Utf
open Go.RowKit
set_option linter.unusedSimpArgs false
set_option linter.unusedVariables false
set_option maxRecDepth 100000

theorem RowsAt.take {w : World} {a : Option Addr} {len : Nat} {rs : List R3} (h : RowsAt w a len rs) {n : Nat} (hn : n ≤ len) : RowsAt w a n (rs.take n) := by
  have hl := h.1
  refine ⟨by rw [List.length_take]; omega, fun hp => ?_⟩
  obtain ⟨b, off, ha, hlt, hc⟩ := h.2 (by omega)
  refine ⟨b, off, ha, hlt, fun i hi => ?_⟩
  have e : (rs.take n).getD i z3 = rs.getD i z3 := by rw [List.getD_eq_getElem?_getD, List.getElem?_take, if_pos hi, List.getD_eq_getElem?_getD]
  rw [e]
  exact hc i (by omega)

theorem both_long (l m : List UInt8) (w : World) (h1 : l.length ≤ 140737488351232) (h2 : m.length ≤ 140737488351232) (h : 60000 < l.length + m.length) : Calls Tryd.prog 7 #[.string (mk l), .string (mk m)] w fun e w' => e = .returned (.bool true) ∧ Below w.heap.size w w' := by
  have e1 := mk_size l
  have e2 := mk_size m
  have h' : (60000 : Int) < (l.length : Int) + (m.length : Int) := by omega
  go_enter Tryd.func7, Tryd.ntmps7
  go_wp2_with fail
  refine (alive_any _).mono ?_
  rintro e w1 ⟨rfl, hb⟩
  go_wp2
  go_ret
  exact ⟨rfl, hb⟩

set_option maxHeartbeats 4000000 in
theorem both_short (l m : List UInt8) (w : World) (h : l.length + m.length ≤ 60000) : Calls Tryd.prog 7 #[.string (mk l), .string (mk m)] w fun e w' => e = .returned (.bool true) ∧ Below w.heap.size w w' := by
  have e1 := mk_size l
  have e2 := mk_size m
  have h' : ¬ (60000 : Int) < (l.length : Int) + (m.length : Int) := by omega
  obtain ⟨A, HA⟩ : ∃ A, Hid (A = l ++ [10]) := ⟨l ++ [10], rfl⟩
  obtain ⟨C, HC⟩ : ∃ C, Hid (C = l ++ [10] ++ m) := ⟨l ++ [10] ++ m, rfl⟩
  have ea : mk l ++ ⟨#[10]⟩ = mk A := by rw [HA.out]; exact mk_app l [10]
  have eb : mk A ++ mk m = mk C := by rw [HA.out, HC.out]; exact mk_app _ _
  have e3 : (mk A).size = l.length + 1 := by rw [mk_size, HA.out]; simp
  have sA : A.length ≤ 65536 := by rw [HA.out]; simp; omega
  have sB : m.length ≤ 65536 := by omega
  have sC : C.length ≤ 65536 := by rw [HC.out]; simp; omega
  have HL : Hid (lns C = lns A ++ lns m) := by rw [HA.out, HC.out]; exact lns_app _ l m (Nat.le_refl _)
  have lA : (outR A).length ≤ 65536 := outR_len _
  have lB : (outR m).length ≤ 65536 := outR_len _
  have lC : (outR C).length ≤ 65536 := outR_len _
  have hne := neq_fault
  go_enter Tryd.func7, Tryd.ntmps7
  go_wp2_with fail
  refine (readO_any A _).mono ?_
  rintro e w1 ⟨aA, cA, rfl, atA, capA, capA', hb1⟩
  obtain ⟨f1, hf1⟩ : ∃ f1, Hid (f1 = (outF A).1) := ⟨_, rfl⟩
  obtain ⟨f2, hf2⟩ : ∃ f2, Hid (f2 = (outF A).2) := ⟨_, rfl⟩
  rw [← hf1.out, ← hf2.out]
  go_wp2_with fail
  refine (readO_any m _).mono ?_
  rintro e w2 ⟨aB, cB, rfl, atB, capB, capB', hb2⟩
  obtain ⟨g1, hg1⟩ : ∃ g1, Hid (g1 = (outF m).1) := ⟨_, rfl⟩
  obtain ⟨g2, hg2⟩ : ∃ g2, Hid (g2 = (outF m).2) := ⟨_, rfl⟩
  rw [← hg1.out, ← hg2.out]
  go_wp2_with fail
  refine (readO_any C _).mono ?_
  rintro e w3 ⟨aC, cC, rfl, atC, capC, capC', hb3⟩
  obtain ⟨k1, hk1⟩ : ∃ k1, Hid (k1 = (outF C).1) := ⟨_, rfl⟩
  obtain ⟨k2, hk2⟩ : ∃ k2, Hid (k2 = (outF C).2) := ⟨_, rfl⟩
  rw [← hk1.out, ← hk2.out]
  -- the world behind, and what lies in it
  obtain ⟨W, hW⟩ : ∃ W, w3.alloc (.cells #[.int .i64 k1, .int .i64 k2] 26) = W := ⟨_, rfl⟩
  have s1 := hb1.size
  have s2 := hb2.size
  have s3 := hb3.size
  rw [World.size_alloc] at s2 s3 hb2 hb3
  have b23 : Below w3.heap.size w3 W := by rw [← hW]; exact (Below.refl _ _).alloc (Nat.le_refl _) _
  have b1W3 : Below (w1.heap.size + 1) (w1.alloc (.cells #[.int .i64 f1, .int .i64 f2] 26)) w3 := hb2.trans ((((Below.refl _ w2).alloc (Nat.le_refl _) _).trans (hb3.mono (by omega))).mono (by omega))
  have b2W : Below (w2.heap.size + 1) (w2.alloc (.cells #[.int .i64 g1, .int .i64 g2] 26)) W := hb3.trans (b23.mono (by omega))
  have b2W' : Below w2.heap.size w2 W := ((Below.refl _ w2).alloc (Nat.le_refl _) _).trans (b2W.mono (by omega))
  have b1W : Below (w1.heap.size + 1) (w1.alloc (.cells #[.int .i64 f1, .int .i64 f2] 26)) W := hb2.trans (b2W'.mono (by omega))
  have b1W' : Below w1.heap.size w1 W := ((Below.refl _ w1).alloc (Nat.le_refl _) _).trans (b1W.mono (by omega))
  have bW : Below w.heap.size w W := hb1.trans (b1W'.mono s1)
  have nA := cell_new2 w1 (.int .i64 f1) (.int .i64 f2) 26
  have nB := cell_new2 w2 (.int .i64 g1) (.int .i64 g2) 26
  have nC := cell_new2 w3 (.int .i64 k1) (.int .i64 k2) 26
  rw [hW] at nC
  have cA0 := (b1W.cell (p := ⟨w1.heap.size, 0, none⟩) (by simp)).trans nA.1
  have cA1 := (b1W.cell (p := ⟨w1.heap.size, 1, none⟩) (by simp)).trans nA.2
  have cB0 := (b2W.cell (p := ⟨w2.heap.size, 0, none⟩) (by simp)).trans nB.1
  have cB1 := (b2W.cell (p := ⟨w2.heap.size, 1, none⟩) (by simp)).trans nB.2
  obtain ⟨cC0, cC1⟩ := nC
  have hWs := bW.size
  have hWs3 := b23.size
  have AA : Hid (RowsAt W aA (outR A).length (outR A)) := atA.later b1W' (Nat.le_refl _)
  have AB : Hid (RowsAt W aB (outR m).length (outR m)) := atB.later b2W' (Nat.le_refl _)
  have AC : Hid (RowsAt W aC (outR C).length (outR C)) := atC.later b23 (Nat.le_refl _)
  clear nA nB atA atB atC ea eb
  cases okA : okay (lns A)
  · obtain ⟨r1, r2, r3⟩ := outR_no sA okA
    rw [← hf1.out, ← hf2.out] at r3
    have hk : f1 = k1 ∧ f2 = k2 := by
      have okC : okay (lns C) = false := by rw [HL.out, okay_both, okA]; rfl
      obtain ⟨_, q2, _⟩ := outR_no sC okC
      rw [hk1.out, hk2.out, hf1.out, hf2.out, q2, r2, HL.out, flt_appL _ _ okA]
      exact ⟨rfl, rfl⟩
    obtain ⟨rfl, rfl⟩ := hk
    have hfe := hne f1 0 f2 0
    rw [r3] at hfe
    have heq := eql_fault f1 f1 f2 f2
    have hee : (f1 == f1 && f2 == f2) = true := by simp
    rw [hee] at heq
    clear hee r1 r2 r3 hne okA b1W3
    go_wp2_with fail
    refine (alive_any _).mono ?_
    rintro e w4 ⟨rfl, hb4⟩
    go_wp2
    go_ret
    exact ⟨rfl, bW.trans (hb4.mono hWs)⟩
  · obtain ⟨rA, oA⟩ := outR_ok sA okA
    have hf : f1 = 0 ∧ f2 = 0 := by rw [hf1.out, hf2.out, oA]; exact ⟨rfl, rfl⟩
    obtain ⟨rfl, rfl⟩ := hf
    have hfe := hne 0 0 0 0
    have hz : ((0 : Int) == 0 && (0 : Int) == 0) = true := rfl
    rw [hz] at hfe
    have HNA : Hid ((outR A).length = (lns A).length) := by rw [rA, List.length_map, num_len]; exact rfl
    cases okB : okay (lns m)
    · obtain ⟨r1, r2, r3⟩ := outR_no sB okB
      rw [← hg1.out, ← hg2.out] at r3
      have hge := hne g1 0 g2 0
      rw [r3] at hge
      have hk : k1 = g1 ∧ k2 = g2 + ((outR A).length : Int) := by
        have okC : okay (lns C) = false := by rw [HL.out, okay_both, okA, okB]; rfl
        obtain ⟨_, q2, _⟩ := outR_no sC okC
        rw [hk1.out, hk2.out, hg1.out, hg2.out, q2, r2, HL.out, flt_app _ okA, flt_shift _ okB, HNA.out]
        exact ⟨rfl, rfl⟩
      have hgb : 0 ≤ g2 ∧ g2 ≤ 65537 := by
        rw [hg2.out, r2]
        have h1 := flt_bd (lns m) 1
        have h2 := lns_len _ m (Nat.le_refl _)
        omega
      obtain ⟨hgb1, hgb2⟩ := hgb
      have heq := eql_fault k1 g1 k2 (g2 + ((outR A).length : Int))
      have hee : (k1 == g1 && k2 == g2 + ((outR A).length : Int)) = true := by rw [hk.1, hk.2]; simp
      rw [hee] at heq
      clear hee r1 r2 r3 hne okA okB b1W3 rA oA hk hz
      go_wp2_with fail
      refine (alive_any _).mono ?_
      rintro e w4 ⟨rfl, hb4⟩
      go_wp2
      go_ret
      exact ⟨rfl, bW.trans (hb4.mono hWs)⟩
    · obtain ⟨rB, oB⟩ := outR_ok sB okB
      have okC : okay (lns C) = true := by rw [HL.out, okay_both, okA, okB]; rfl
      obtain ⟨rC, oC⟩ := outR_ok sC okC
      have hg : g1 = 0 ∧ g2 = 0 := by rw [hg1.out, hg2.out, oB]; exact ⟨rfl, rfl⟩
      obtain ⟨rfl, rfl⟩ := hg
      have hke := hne k1 0 k2 0
      have hkz : (k1 == 0 && k2 == 0) = true := by rw [hk1.out, hk2.out, oC]; rfl
      rw [hkz] at hke
      have HCAB : Hid (outR C = outR A ++ (outR m).map (shift (outR A).length)) := by
        rw [rC, HL.out, num_app, List.map_append, HNA.out, num_shift, ← rA, ← rB]; exact rfl
      have hCl : (outR C).length = (outR A).length + (outR m).length := by rw [HCAB.out, List.length_append, List.length_map]
      have HAT : Hid (∀ i, i < (outR m).length → ((outR m).getD i z3).2.2 = ((1 + i : Nat) : Int)) := by
        intro i hi
        rw [rB] at hi ⊢
        rw [List.length_map, num_len] at hi
        exact at_bd _ 1 i hi
      have capC2 : (outR A).length + (outR m).length ≤ cC := by omega
      have capC3 : (outR A).length ≤ cC := by omega
      clear hne okA okB okC b1W3 rA oA rB oB rC oC hz HNA hkz capC
      by_cases hC0 : (outR A).length + (outR m).length = 0
      · have hA0 : (outR A).length = 0 := by omega
        have hB0 : (outR m).length = 0 := by omega
        have EA : Hid (outR A = []) := List.eq_nil_iff_length_eq_zero.2 hA0
        go_wp2_with fail
        refine (sameR_any _ _ _ _ _ _ [] [] _ ⟨rfl, fun h => absurd h (by decide)⟩ ⟨rfl, fun h => absurd h (by decide)⟩ (by decide) (by decide)).mono ?_
        rintro e w4 ⟨rfl, hb4⟩
        rw [same_self]
        go_wp2
        go_loopw [89] (fun i wr => i = .int .i64 0 ∧ Below W.heap.size W wr) (fun _ _ => 0)
        case atStart => exact ⟨rfl, hb4⟩
        case round =>
          obtain ⟨rfl, hbe⟩ := hrel
          go_wp2_with fail
          refine (alive_any _).mono ?_
          rintro e w6 ⟨rfl, hb6⟩
          go_wp2
          go_ret
          exact ⟨rfl, (bW.trans (hbe.mono hWs)).trans (hb6.mono (by have := hbe.size; omega))⟩
      · have hcz : ¬ cC = 0 := by omega
        obtain ⟨b, off, rfl, hb, hc⟩ := AC.out.2 (by omega)
        have HCC : Hid (∀ i, i < (outR C).length → W.cell? ⟨b, off + i * 3, none⟩ = some (.int .i64 ((outR C).getD i z3).1) ∧ W.cell? ⟨b, off + i * 3 + 1, none⟩ = some (.string ((outR C).getD i z3).2.1) ∧ W.cell? ⟨b, off + i * 3 + 2, none⟩ = some (.int .i64 ((outR C).getD i z3).2.2)) := hc
        clear hc
        have ACA : RowsAt W (some ⟨b, off, none⟩) (outR A).length (outR A) := by
          have h := AC.out.take (n := (outR A).length) (by omega)
          have e : (outR C).take (outR A).length = outR A := by rw [HCAB.out, List.take_left' rfl]
          rw [e] at h
          exact h
        have HACA : Hid (RowsAt W (some ⟨b, off, none⟩) (outR A).length (outR A)) := ACA
        clear ACA
        go_wp2_with fail
        refine (sameR_any _ _ _ _ _ _ (outR A) (outR A) _ HACA.out AA.out (by omega) (by omega)).mono ?_
        rintro e w4 ⟨rfl, hb4⟩
        rw [same_self]
        go_wp2
        go_loopw [89] (fun i wr => ∃ k : Nat, k ≤ (outR m).length ∧ i = .int .i64 k ∧ Below W.heap.size W wr) (fun i _ => (outR m).length - (intOf i).toNat)
        case atStart => exact ⟨0, Nat.zero_le _, rfl, hb4⟩
        case round =>
          obtain ⟨k, hk, rfl, hbe⟩ := hrel
          have hwr := hbe.size
          by_cases hlt : k < (outR m).length
          · obtain ⟨b2, off2, rfl, hb2', hc2⟩ := AB.out.2 (by omega)
            obtain ⟨x0, x1, x2⟩ := hc2 k hlt
            obtain ⟨y0, y1, y2⟩ := HCC.out ((outR A).length + k) (by omega)
            have hy : (outR C).getD ((outR A).length + k) z3 = shift (outR A).length ((outR m).getD k z3) := by
              rw [HCAB.out, List.getD_eq_getElem?_getD, List.getElem?_append_right (by omega), Nat.add_sub_cancel_left, List.getElem?_map, List.getElem?_eq_getElem hlt, List.getD_eq_getElem?_getD, List.getElem?_eq_getElem hlt]; rfl
            have hat := HAT.out k hlt
            rw [hy] at y0 y1 y2
            replace x0 := (hbe.cell (p := ⟨b2, off2 + k * 3, none⟩) hb2').trans x0
            replace x1 := (hbe.cell (p := ⟨b2, off2 + k * 3 + 1, none⟩) hb2').trans x1
            replace x2 := (hbe.cell (p := ⟨b2, off2 + k * 3 + 2, none⟩) hb2').trans x2
            replace y0 := (hbe.cell (p := ⟨b, off + ((outR A).length + k) * 3, none⟩) hb).trans y0
            replace y1 := (hbe.cell (p := ⟨b, off + ((outR A).length + k) * 3 + 1, none⟩) hb).trans y1
            replace y2 := (hbe.cell (p := ⟨b, off + ((outR A).length + k) * 3 + 2, none⟩) hb).trans y2
            rw [hat] at x2
            have hy2 : (shift (outR A).length ((outR m).getD k z3)).2.2 = (k : Int) + 1 + ((outR A).length : Int) := by
              unfold shift; simp only; rw [hat]; omega
            have hx2 : ((1 + k : Nat) : Int) = (k : Int) + 1 := by omega
            rw [hy2] at y2
            rw [hx2] at x2
            unfold shift at y0 y1
            simp only at y0 y1
            generalize ((outR m).getD k z3).1 = r1 at x0 y0
            generalize ((outR m).getD k z3).2.1 = r2 at x1 y1
            have hb2w : b2 < wr.heap.size := by omega
            have hbw : b < wr.heap.size := by omega
            have hn1 : (r1 != r1) = false := by simp
            have hn2 : (r2.toList != r2.toList) = false := by simp
            clear hc2 hy hat hy2 hx2
            go_wp2
            go_roundw
            case rel => exact ⟨k + 1, by omega, by go_num, (hbe.alloc hwr _).alloc (by simp; omega) _⟩
            case measure => (simp [intOf] <;> omega)
          · go_wp2_with fail
            refine (alive_any _).mono ?_
            rintro e w6 ⟨rfl, hb6⟩
            go_wp2
            go_ret
            exact ⟨rfl, (bW.trans (hbe.mono hWs)).trans (hb6.mono (by have := hbe.size; omega))⟩

theorem both_any (s t : ByteArray) (w : World) (hs : s.size ≤ 140737488351232) (ht : t.size ≤ 140737488351232) : Calls Tryd.prog 7 #[.string s, .string t] w fun e w' => e = .returned (.bool true) ∧ Below w.heap.size w w' := by
  obtain ⟨l, rfl⟩ := mk_ex s
  obtain ⟨m, rfl⟩ := mk_ex t
  rw [mk_size] at hs ht
  by_cases h : 60000 < l.length + m.length
  · exact both_long l m w hs ht h
  · exact both_short l m w (by omega)

end Go.Proofs.YthppoibdiehfkaaDoor.Rws
