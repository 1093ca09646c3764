/- The walk of FrameNexts: the frame that begins any bytes, and those in a row, are the document's, or refused. -/
import Derived.Test.YthmoapigjafijaaFrameEq
import Derived.Test.YthmoapigjafijaaFrameScan
import Derived.Test.YthmoapigjafijaaFrameAlive
namespace Go.Proofs.Ythmoapigjafijaa.Frm
open Go.RowKit Crc
set_option linter.unusedSimpArgs false
set_option linter.unusedVariables false

theorem wid_scnF (f : Nat) (b : List UInt8) (s : Nat) : wid (scnF f b s) ≤ b.length := by
  induction f generalizing b s with
  | zero => simp [scnF, wid]
  | succ f ih =>
    show wid (if nxtE b = 0 ∧ nxtS b = s then _ else _) ≤ _
    by_cases hc : nxtE b = 0 ∧ nxtS b = s
    · rw [if_pos hc]
      obtain ⟨_, _, _, h4, h5, _⟩ := nxt_sound b hc.1
      show 20 + (nxtD b).length + wid (if s = maxSeq then [] else scnF f (b.drop (nxtN b)) (s + 1)) ≤ _
      by_cases hm : s = maxSeq
      · rw [if_pos hm]; simp [wid]; omega
      · rw [if_neg hm]
        have := ih (b.drop (nxtN b)) (s + 1)
        rw [List.length_drop] at this
        omega
    · rw [if_neg hc]; simp [wid]
theorem wid_scz (b : List UInt8) (s : Int) : wid (scz b s) ≤ b.length := by
  unfold scz
  split
  · simp [wid]
  · unfold scn
    split
    · simp [wid]
    · exact wid_scnF _ _ _
def Fr.gr (x : Fr) : Gr := ⟨x.s, some ⟨x.g, 0, none⟩, x.c, x.d⟩
theorem cellsF_gr (xs : List Fr) : cellsF xs = cellsG (xs.map Fr.gr) := by
  induction xs with
  | nil => rfl
  | cons x r ih => rw [cellsF, List.map_cons, cellsG, ih]; rfl
theorem sd_gr (xs : List Fr) : (xs.map Fr.gr).map Gr.sd = xs.map Fr.sd := by rw [List.map_map]; rfl
/-- bytes that came in, not too many -/
def UArg (w : World) (a : Option Addr) (len cap : Nat) (l : List UInt8) : Prop := Bys w a len l ∧ len ≤ 1048576 ∧ len ≤ cap ∧ cap ≤ maxLen

/-- what Next answers, as two fields in memory -/
theorem next_two (a : Option Addr) (len cap : Nat) (l : List UInt8) (w : World) (hl : Bys w a len l) (hlc : len ≤ cap) (hm : cap ≤ maxLen) :
    ∃ S N E : Nat, ∃ D : List UInt8, (Calls Try.prog 13 #[.slice a len cap] w fun e w' => ∃ va vc, e = .returned (.tuple #[.agg #[.int .i64 S, .slice va D.length vc], .int .i64 N, .int .i64 E]) ∧ Bys w' va D.length D ∧ Below w.heap.size w w') ∧
      ∀ W, Below w.heap.size w W → Calls Try.prog 14 #[.slice a len cap] W fun e w' => ∃ va vc, e = .returned (.tuple #[.agg #[.int .i64 S, .slice va D.length vc], .int .i64 N, .int .i64 E]) ∧ Bys w' va D.length D ∧ Below W.heap.size W w' := by
  by_cases hE : nxtE l = 0
  · refine ⟨nxtS l, nxtN l, 0, nxtD l, ?_, fun W hW => ?_⟩
    · refine (next_ok a len cap l w hl hlc hm hE _ _ _ rfl rfl rfl).mono ?_
      rintro e w' ⟨g, cv, cur, rfl, h1, h2, h3, h4, h5, h6⟩
      exact ⟨_, _, rfl, row_bys0 h2 _ h3, h6⟩
    · refine (rnext_all a len cap l W (hl.later hW (Nat.le_refl _)) hlc hm).mono ?_
      rintro e w' ⟨hB, hr⟩
      rcases hr with ⟨h0, _⟩ | ⟨_, v, rfl, hown⟩
      · exact absurd hE h0
      · obtain ⟨xa, xc, rfl⟩ := own_slice hown
        refine ⟨xa, xc, rfl, ?_, hB⟩
        rcases hown.2 with ⟨h1, h2⟩ | ⟨g, cap', cur, h1, _, h3, _, _, _, h7⟩
        · exact ⟨rfl, fun hp => by omega⟩
        · have hR : Row w' g 5 cur.toList := by unfold Row; simpa using h3
          rw [Nat.mul_one] at h7
          have hb := row_bys0 hR _ h7
          cases h1
          exact hb
  · refine ⟨0, 0, nxtE l, [], ?_, fun W hW => ?_⟩
    · refine (next_err a len cap l w hl hlc hm _ rfl hE).mono ?_
      rintro e w' ⟨rfl, hB⟩
      exact ⟨none, 0, rfl, ⟨rfl, fun h => absurd h (by decide)⟩, hB⟩
    · refine (rnext_all a len cap l W (hl.later hW (Nat.le_refl _)) hlc hm).mono ?_
      rintro e w' ⟨hB, hr⟩
      rcases hr with ⟨_, rfl⟩ | ⟨h0, _⟩
      · exact ⟨none, 0, rfl, ⟨rfl, fun h => absurd h (by decide)⟩, hB⟩
      · exact absurd h0 hE

set_option maxHeartbeats 2000000 in
theorem frameNexts_any (a : Option Addr) (len cap : Nat) (l : List UInt8) (s : Int) (w : World) (h : UArg w a len cap l) (hs : (Lit.int .i64 s).wf = true) :
    Calls Try.prog 4 #[.slice a len cap, .int .i64 s] w fun e w' => e = .returned (.bool true) ∧ Below w.heap.size w w' := by
  have HZ : Hid (Bys w a len l) := h.1
  have HL : Hid (len = l.length) := h.1.1
  have hlen := h.2.1
  have HLC : Hid (len ≤ cap) := h.2.2.1
  have HCM : Hid (cap ≤ maxLen) := h.2.2.2
  have HSW : Hid ((Lit.int .i64 s).wf = true) := hs
  obtain ⟨S, N, E, D, hN1, hN2⟩ := next_two a len cap l w h.1 h.2.2.1 h.2.2.2
  have HN1 : Hid (Calls Try.prog 13 #[.slice a len cap] w fun e w' => ∃ va vc, e = .returned (.tuple #[.agg #[.int .i64 S, .slice va D.length vc], .int .i64 N, .int .i64 E]) ∧ Bys w' va D.length D ∧ Below w.heap.size w w') := hN1
  have HN2 : Hid (∀ W, Below w.heap.size w W → Calls Try.prog 14 #[.slice a len cap] W fun e w' => ∃ va vc, e = .returned (.tuple #[.agg #[.int .i64 S, .slice va D.length vc], .int .i64 N, .int .i64 E]) ∧ Bys w' va D.length D ∧ Below W.heap.size W w') := hN2
  clear h hs hN1 hN2
  go_enter Try.func4, Try.ntmps4
  go_wp2_with fail
  refine HN1.out.mono ?_
  rintro e w1 ⟨va, vc, rfl, hb1, hB1⟩
  obtain ⟨W1, HW1⟩ : ∃ W1, Hid (W1 = w1.alloc (.cells #[.int .i64 S, .slice va D.length vc] 28)) := ⟨_, rfl⟩
  obtain ⟨f1, HF1⟩ : ∃ f1, Hid (f1 = w1.heap.size) := ⟨_, rfl⟩
  have HBw1 : Hid (Below w.heap.size w W1) := by rw [HW1.out]; exact hB1.alloc hB1.size _
  have HRf1 : Hid (Row W1 f1 28 [.int .i64 S, .slice va D.length vc]) := by rw [HW1.out, HF1.out]; exact Row.mk w1 [.int .i64 S, .slice va D.length vc] _
  have HBd1 : Hid (Bys W1 va D.length D) := by rw [HW1.out]; exact hb1.later ((Below.refl _ w1).alloc (Nat.le_refl _) _) (Nat.le_refl _)
  have hW1e : w1.alloc (.cells #[.int .i64 S, .slice va D.length vc] 28) = W1 := HW1.out.symm
  have hf1e : w1.heap.size = f1 := HF1.out.symm
  clear hb1 hB1
  go_wp2_with fail
  clear hW1e hf1e
  refine (HN2.out W1 HBw1.out).mono ?_
  rintro e w2 ⟨ra, rc, rfl, hb2, hB2⟩
  obtain ⟨W2, HW2⟩ : ∃ W2, Hid (W2 = w2.alloc (.cells #[.int .i64 S, .slice ra D.length rc] 24)) := ⟨_, rfl⟩
  obtain ⟨f2, HF2⟩ : ∃ f2, Hid (f2 = w2.heap.size) := ⟨_, rfl⟩
  have HB12 : Hid (Below W1.heap.size W1 W2) := by rw [HW2.out]; exact hB2.alloc hB2.size _
  have HBw2 : Hid (Below w.heap.size w W2) := HBw1.out.trans (HB12.out.mono HBw1.out.size)
  have HRf2 : Hid (Row W2 f2 24 [.int .i64 S, .slice ra D.length rc]) := by rw [HW2.out, HF2.out]; exact Row.mk w2 [.int .i64 S, .slice ra D.length rc] _
  have HBd2 : Hid (Bys W2 ra D.length D) := by rw [HW2.out]; exact hb2.later ((Below.refl _ w2).alloc (Nat.le_refl _) _) (Nat.le_refl _)
  have hW2e : w2.alloc (.cells #[.int .i64 S, .slice ra D.length rc] 24) = W2 := HW2.out.symm
  have hf2e : w2.heap.size = f2 := HF2.out.symm
  clear hb2 hB2
  go_wp2_with fail
  clear hW2e hf2e
  refine (scan_any _ _ _ l s _ (HZ.out.later HBw2.out (Nat.le_refl _)) HLC.out HCM.out (by omega) HSW.out).mono ?_
  rintro e w3 ⟨v3, xs, rfl, hmap, hown3, hdat3, hB3⟩
  rw [cellsF_gr, show xs.length = (xs.map Fr.gr).length by simp] at hown3
  obtain ⟨ka, kc, rfl, _, hkm, hG3⟩ := own_gat hown3 (fun y hy => by
    obtain ⟨x, hx, rfl⟩ := List.mem_map.1 hy
    obtain ⟨_, _, _, cur, hR, htk⟩ := hdat3 x hx
    exact row_bys0 hR _ htk)
  obtain ⟨gs, HGS⟩ : ∃ gs, Hid (gs = xs.map Fr.gr) := ⟨_, rfl⟩
  rw [← HGS.out] at hG3 ⊢
  have HM3 : Hid (gs.map Gr.sd = scz l s) := by show _ = _; rw [HGS.out, sd_gr]; exact hmap
  obtain ⟨Q, HQ⟩ : ∃ Q, Hid (Q = wid (scz l s)) := ⟨_, rfl⟩
  have hQ1 : wdF xs = Q := by unfold wdF; rw [hmap]; exact HQ.out.symm
  rw [hQ1]
  obtain ⟨n, HNN⟩ : ∃ n, Hid (n = gs.length) := ⟨_, rfl⟩
  have hn20 : 20 * n ≤ len := by
    have h1 := wdG_ge gs
    have h2 : wdG gs = wid (scz l s) := by unfold wdG; rw [HM3.out]
    have h3 := wid_scz l s
    have h4 := HL.out
    have h5 := HNN.out
    omega
  rw [← HNN.out] at hG3 ⊢
  have HG3 : Hid (GAt w3 ka n gs) := hG3
  have HB23 : Hid (Below W2.heap.size W2 w3) := hB3
  have HBw3 : Hid (Below w.heap.size w w3) := HBw2.out.trans (hB3.mono HBw2.out.size)
  clear hmap hown3 hdat3 hB3 hG3 hQ1
  go_wp2_with fail
  refine (rscan_any _ _ _ l s _ (HZ.out.later HBw3.out (Nat.le_refl _)) HLC.out HCM.out (by omega) HSW.out).mono ?_
  rintro e w4 ⟨v4, hs4, rfl, hmap4, hown4, hdat4, hB4⟩
  have hl4 : hs4.length = n := by
    have h1 := congrArg List.length (hmap4.trans HM3.out.symm)
    rw [List.length_map, List.length_map] at h1
    rw [h1]; exact HNN.out.symm
  obtain ⟨la, lc, rfl, _, hlm, hG4⟩ := own_gat hown4 (fun y hy => (hdat4 y hy).bys)
  have hQ2 : wdG hs4 = Q := by unfold wdG; rw [hmap4]; exact HQ.out.symm
  rw [hQ2]
  rw [hl4] at hG4 ⊢
  have HG4 : Hid (GAt w4 la n hs4) := hG4
  have HM4 : Hid (gs.map Gr.sd = hs4.map Gr.sd) := HM3.out.trans hmap4.symm
  have HBw4 : Hid (Below w.heap.size w w4) := HBw3.out.trans (hB4.mono HBw3.out.size)
  have HB24 : Hid (Below W2.heap.size W2 w4) := HB23.out.trans (hB4.mono HB23.out.size)
  have HG34 : Hid (GAt w4 ka n gs) := HG3.out.later hB4
  have hR2 : Row w4 f2 24 [.int .i64 S, .slice ra D.length rc] := HRf2.out.below HB24.out HRf2.out.lt
  have hR1 : Row w4 f1 28 [.int .i64 S, .slice va D.length vc] := (HRf1.out.below HB12.out HRf1.out.lt).below HB24.out (Nat.lt_of_lt_of_le HRf1.out.lt HB12.out.size)
  have hc0 : w4.cell? ⟨f1, 0, none⟩ = some (.int .i64 S) := by rw [hR1.cell]; rfl
  have hc1 : w4.cell? ⟨f1, 1, none⟩ = some (.slice va D.length vc) := by rw [hR1.cell]; rfl
  have hc2 : w4.cell? ⟨f2, 0, none⟩ = some (.int .i64 S) := by rw [hR2.cell]; rfl
  have hc3 : w4.cell? ⟨f2, 1, none⟩ = some (.slice ra D.length rc) := by rw [hR2.cell]; rfl
  have hcv1 := conv_bys (cap := vc) ((HBd1.out.later HB12.out (Nat.le_refl _)).later HB24.out (Nat.le_refl _))
  have hcv2 := conv_bys (cap := rc) (HBd2.out.later HB24.out (Nat.le_refl _))
  clear hR1 hR2 hown4 hdat4 hB4 hmap4 hG4 hQ2 hl4
  go_wp2_with fail
  refine (ours_any _ _ _ gs _ HG34.out (by omega)).mono ?_
  rintro e w5 ⟨oa, oc, rfl, hG5, hB5⟩
  have HG5 : Hid (GAt w5 oa n gs) := hG5
  have HG45 : Hid (GAt w5 la n hs4) := HG4.out.later hB5
  have HBw5 : Hid (Below w.heap.size w w5) := HBw4.out.trans (hB5.mono HBw4.out.size)
  have HG35 : Hid (GAt w5 ka n gs) := HG34.out.later hB5
  clear hG5 hB5 hcv1 hcv2 hc0 hc1 hc2 hc3
  go_wp2_with fail
  refine (rsame_any _ _ _ _ _ gs hs4 _ HG5.out HG45.out HM4.out (by omega)).mono ?_
  rintro e w6 ⟨rfl, hB6⟩
  have HG36 : Hid (GAt w6 ka n gs) := HG35.out.later hB6
  have HBw6 : Hid (Below w.heap.size w w6) := HBw5.out.trans (hB6.mono HBw5.out.size)
  clear hB6
  go_wp2_with fail
  refine (same_any _ _ _ _ _ gs gs _ HG36.out HG36.out rfl (by omega)).mono ?_
  rintro e w7 ⟨rfl, hB7⟩
  have HBw7 : Hid (Below w.heap.size w w7) := HBw6.out.trans (hB7.mono HBw6.out.size)
  clear hB7
  go_wp2_with fail
  refine (alive_any _).mono ?_
  rintro e w8 ⟨rfl, hB8⟩
  have hbel := HBw7.out.trans (hB8.mono HBw7.out.size)
  clear hB8
  go_wp2
  go_ret
  exact ⟨rfl, hbel⟩

end Go.Proofs.Ythmoapigjafijaa.Frm
