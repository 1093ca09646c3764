/- Put: a frame's bytes. -/
import Derived.Test.YthmoapigjafijaaFrameHead
import Derived.Deep.RegionLaw
namespace Go.Proofs.Ythmoapigjafijaa.Frm
open Go.RowKit Crc
set_option linter.unusedSimpArgs false
set_option linter.unusedVariables false

theorem put_arg (s : Int) (a : Option Addr) (len cap : Nat) (w : World) (hs : s < 1 ∨ 4611686018427387904 < s) :
    Calls Try.prog 9 #[.agg #[.int .i64 s, .slice a len cap]] w fun e w' => e = .returned (.tuple #[.slice none 0 0, .int .i64 1]) ∧ Below w.heap.size w w' := by
  have hbe : Below w.heap.size w (w.alloc (.cells #[.int .i64 s, .slice a len cap] 28)) := (Below.refl _ w).alloc (Nat.le_refl _) _
  by_cases h1 : s < 1
  · have hd : decide (s < 1) = true := decide_eq_true h1
    clear h1 hs
    go_enter Try.func9, Try.ntmps9
    go_wp2
    refine bodyPost_ret (results_tmp2 rfl _ _ _) rfl ?_
    exact ⟨rfl, hbe⟩
  · have hd : decide (s < 1) = false := decide_eq_false h1
    have hd2 : decide (4611686018427387904 < s) = true := decide_eq_true (by omega)
    clear h1 hs
    go_enter Try.func9, Try.ntmps9
    go_wp2
    refine bodyPost_ret (results_tmp2 rfl _ _ _) rfl ?_
    exact ⟨rfl, hbe⟩
theorem put_many (s : Nat) (a : Option Addr) (len cap : Nat) (w : World) (h1 : 1 ≤ s) (h2 : s ≤ 4611686018427387904) (hm : 262144 < len) :
    Calls Try.prog 9 #[.agg #[.int .i64 s, .slice a len cap]] w fun e w' => e = .returned (.tuple #[.slice none 0 0, .int .i64 5]) ∧ Below w.heap.size w w' := by
  have hbe : Below w.heap.size w (w.alloc (.cells #[.int .i64 s, .slice a len cap] 28)) := (Below.refl _ w).alloc (Nat.le_refl _) _
  have hd1 : decide ((s : Int) < 1) = false := decide_eq_false (by omega)
  have hd2 : decide (4611686018427387904 < (s : Int)) = false := decide_eq_false (by omega)
  have hd3 : decide (262144 < (len : Int)) = true := decide_eq_true (by omega)
  clear h1 h2 hm
  go_enter Try.func9, Try.ntmps9
  go_wp2
  refine bodyPost_ret (results_tmp2 rfl _ _ _) rfl ?_
  exact ⟨rfl, hbe⟩

theorem put_ok (s : Nat) (a : Option Addr) (len cap : Nat) (l : List UInt8) (w : World) (h1 : 1 ≤ s) (h2 : s ≤ 4611686018427387904) (hl : Bys w a len l) (hm : len ≤ 262144) :
    Calls Try.prog 9 #[.agg #[.int .i64 s, .slice a len cap]] w fun e w' => ∃ g, w.heap.size ≤ g ∧ e = .returned (.tuple #[.slice (some ⟨g, 0, none⟩) (20 + len) (20 + len), .int .i64 0]) ∧ Row w' g 5 (byC (frm s l)) ∧ Below w.heap.size w w' := by
  have HZ : Hid (Bys w a len l) := hl
  have HLL : Hid (len = l.length) := hl.1
  have hd1 : decide ((s : Int) < 1) = false := decide_eq_false (by omega)
  have hd2 : decide (4611686018427387904 < (s : Int)) = false := decide_eq_false (by omega)
  have hd3 : decide (262144 < (len : Int)) = false := decide_eq_false (by omega)
  have H2 : Hid (s ≤ 4611686018427387904) := h2
  obtain ⟨g, HGG⟩ : ∃ g, Hid (g = w.heap.size) := ⟨_, rfl⟩
  clear hl h1 h2
  go_enter Try.func9, Try.ntmps9
  go_wp2_with fail
  obtain ⟨W, HW⟩ : ∃ W, Hid (W = w.alloc (.cells #[.int .i64 s, .slice a len cap] 28)) := ⟨_, rfl⟩
  have hW2 : Hid (Row W g 28 [.int .i64 s, .slice a len cap]) := by
    rw [HW.out, HGG.out]
    exact Row.mk w [.int .i64 s, .slice a len cap] _
  have hW3 : Hid (Below w.heap.size w W) := by
    rw [HW.out]
    exact (Below.refl _ w).alloc (Nat.le_refl _) _
  rw [← HW.out, ← HGG.out]
  clear HW hd1 hd2 hd3
  refine (headOf_any s _ _ _ l W (HZ.out.later hW3.out (Nat.le_refl _)) hm H2.out).mono ?_
  rintro e w1 ⟨rfl, hB1⟩
  dsimp only
  obtain ⟨H, HH⟩ : ∃ H, Hid (H = magic ++ (hed l.length s ++ sm l.length s l)) := ⟨_, rfl⟩
  rw [← HH.out]
  have hHL : Hid (H.length = 20) := by
    show H.length = 20
    rw [HH.out, List.length_append, List.length_append, hed_len, sm_len]
    rfl
  obtain ⟨C, HC⟩ : ∃ C, Hid (C = byC H) := ⟨_, rfl⟩
  rw [← HC.out]
  have hCL : Hid (C.length = 20) := by
    show C.length = 20
    rw [HC.out, byC_len, hHL.out]
  go_step
  go_step
  go_step
  go_step
  have hR1 : Row (w1.alloc (.cells (zer 20).toArray 56)) w1.heap.size 56 (zer 20) := Row.mk w1 (zer 20) _
  have ht : (w1.alloc (.cells (zer 20).toArray 56)).there w1.heap.size 0 C.toArray.size := by
    intro j hj
    rw [List.size_toArray, hCL.out] at hj
    rw [Nat.zero_add, hR1.cell, hR1.free]
    exact ⟨by rw [List.getElem?_eq_getElem (by rw [zer_len]; exact hj)]; rfl, rfl⟩
  have hone : ∀ v ∈ C.toArray, v.oneCell' = true := by
    intro v hv
    rw [HC.out] at hv
    exact byC_one _ v (by simpa using hv)
  refine wpList_store_mid rfl 56 (.tmp 4) (.tmp 19) rfl w1.heap.size 0 C.toArray rfl rfl ht (by rw [List.size_toArray, hCL.out]; exact info20) (by simpa using hone) ?_
  obtain ⟨W2, HW2⟩ : ∃ W2, Hid (W2 = ((w1.alloc (.cells (zer 20).toArray 56)).setCells w1.heap.size 0 C.toArray.toList)) := ⟨_, rfl⟩
  rw [show ((w1.alloc (.cells #[.int .u8 0, .int .u8 0, .int .u8 0, .int .u8 0, .int .u8 0, .int .u8 0, .int .u8 0, .int .u8 0, .int .u8 0, .int .u8 0, .int .u8 0, .int .u8 0, .int .u8 0, .int .u8 0, .int .u8 0, .int .u8 0, .int .u8 0, .int .u8 0, .int .u8 0, .int .u8 0] 56)).setCells w1.heap.size 0 C.toArray.toList) = W2 from HW2.out.symm]
  have hr2 : Hid (W2.rangeAt w1.heap.size 0 C) := by rw [HW2.out]; exact World.rangeAt_setCells_same _ _ _ C (by simpa using ht)
  have hb2 : Hid (Below w1.heap.size w1 W2) := by rw [HW2.out]; exact below_setCells (Nat.le_refl _) _ _ _ _ ((Below.refl _ w1).alloc (Nat.le_refl _) _)
  have hlt2 : Hid (w1.heap.size < W2.heap.size) := by
    obtain ⟨v, hv⟩ : ∃ v, C[0]? = some v := ⟨_, List.getElem?_eq_getElem (by rw [hCL.out]; decide)⟩
    exact World.block_lt_of_cell? W2 _ (hr2.out 0 v hv)
  have hBW : Hid (Below w.heap.size w W2) := (hW3.out.trans (hB1.mono hW3.out.size)).trans (hb2.out.mono (Nat.le_trans hW3.out.size hB1.size))
  have hg2 : Hid (Row W2 g 28 [.int .i64 s, .slice a len cap]) := (hW2.out.below hB1 hW2.out.lt).below hb2.out (Nat.lt_of_lt_of_le hW2.out.lt hB1.size)
  have hc1 : W2.cell? ⟨g, 1, none⟩ = some (.slice a len cap) := by rw [hg2.out.cell]; rfl
  have hgl : Hid (g < W2.heap.size) := hg2.out.lt
  clear ht hone hR1 HW2 hb2 hB1 hW2 hW3
  obtain ⟨h2, HH2⟩ : ∃ h2, Hid (h2 = w1.heap.size) := ⟨_, rfl⟩
  rw [← HH2.out] at hr2 hlt2 ⊢
  clear HH2
  refine wpList_nil ?_
  obtain ⟨n, HNN⟩ : ∃ n, Hid (n = 20 + len) := ⟨_, rfl⟩
  have hnn : (20 : Int) + (len : Int) = (n : Int) := by rw [HNN.out]; omega
  have hn0 : n ≤ 262164 := by rw [HNN.out]; omega
  have hn1 : 20 ≤ n := by rw [HNN.out]; omega
  obtain ⟨i0, hi, hz0, hz1, hz2⟩ := info_parts infoByte
  go_upto_region 6 with fail
  go_wp2_with (at_make; refine wpList_make_full _ rfl _ _ 22 rfl W2.heap.size 5 i0 (.int .u8 0) 1 Try.underlying22 hi hz0 hz1 _ _ _ _ n rfl rfl rfl rfl ?_ ?_ (Nat.le_refl _) ?_)
  · rw [hz2]; omega
  · unfold maxLen; omega
  intro w3 hown hgrow
  have HB3 : Hid (Below W2.heap.size W2 w3) := (Below.refl _ W2).grown hgrow (Nat.le_refl _) (fun k hk => by cases hk)
  have hR : ∃ cur, cur.length = n ∧ Row w3 W2.heap.size 5 cur := by
    obtain ⟨_, hown⟩ := hown
    rcases hown with ⟨hv, _⟩ | ⟨g, cap', cur, hv, hgB, hblk, hcl, hcm, hcs, hct⟩
    · simp at hv
    · simp at hv
      obtain ⟨rfl, rfl⟩ := hv
      exact ⟨cur.toList, by simpa using hcs, by unfold Row; simpa using hblk⟩
  obtain ⟨cur, hcl, hRow⟩ := hR
  have HL : Hid (cur.length = n) := hcl
  have HR : Hid (Row w3 W2.heap.size 5 cur) := hRow
  have hr3 : Hid (w3.rangeAt h2 0 C) := by
    intro j v hv
    rw [HB3.out.cell (p := ⟨h2, 0 + j, none⟩) hlt2.out]
    exact hr2.out j v hv
  have hc3 : Hid (w3.cell? ⟨g, 1, none⟩ = some (.slice a len cap)) := by show _ = _; rw [HB3.out.cell (p := ⟨g, 1, none⟩) hgl.out]; exact hc1
  clear hown hgrow hcl hRow hc1
  obtain ⟨q, HQ⟩ : ∃ q, Hid (q = W2.heap.size) := ⟨_, rfl⟩
  rw [← HQ.out] at HR HB3 hlt2 hgl ⊢
  have hone : ∀ v ∈ C, v.oneCell' = true := by
    intro v hv
    rw [HC.out] at hv
    exact byC_one _ v hv
  obtain ⟨w4, HW4⟩ : ∃ w4, Hid (w4 = w3.setRow q (splice cur 0 C).toArray) := ⟨_, rfl⟩
  have HRUN : Hid ((Builtin.copy_ #[22, 22] 3 #[.slice (some ⟨q, 0, none⟩) n n, .slice (some ⟨h2, 0, none⟩) 20 20]).run Try.prog w3 = .ok (goInt 20) w4) := by
    show _ = _
    rw [run_copy_row (P := Try.prog) w3 22 22 3 5 q 0 n n ⟨h2, 0, none⟩ 20 20 cur.toArray 5 C Try.underlying22 info8 HR.out
      (by rw [hCL.out]; exact (Nat.min_eq_left hn1).symm) (fun j v hv => by rw [Addr.add_mid]; exact hr3.out j v hv) (by rw [hCL.out, List.size_toArray, HL.out]; omega) hone, HW4.out, splice, List.append_assoc]
    congr 2
    rw [hCL.out]
    rfl
  clear hone
  go_upto_region 7 with fail
  go_wp2_with fail
  rw [HRUN.out]
  clear HRUN
  have hR4 : Hid (Row w4 q 5 (splice cur 0 C)) := by rw [HW4.out]; exact setRow_heap w3 q _ _ _ _ HR.out
  have hB4 : Hid (Below q w3 w4) := by rw [HW4.out]; exact below_setRow (Below.refl _ _) (Nat.le_refl _) _
  clear HW4
  obtain ⟨c4, HC4⟩ : ∃ c4, Hid (c4 = splice cur 0 C) := ⟨_, rfl⟩
  have HL4 : Hid (c4.length = n) := by
    show c4.length = n
    rw [HC4.out, splice_len _ _ _ (by rw [hCL.out, HL.out]; omega), HL.out]
  rw [← HC4.out] at hR4
  have hc4 : w4.cell? ⟨g, 1, none⟩ = some (.slice a len cap) := by rw [hB4.out.cell (p := ⟨g, 1, none⟩) hgl.out]; exact hc3.out
  have hBW4 : Hid (Below w.heap.size w w4) := (hBW.out.trans (HB3.out.mono (by rw [HQ.out]; exact hBW.out.size))).trans (hB4.out.mono (by rw [HQ.out]; exact hBW.out.size))
  have HZ4 : Hid (Bys w4 a len l) := HZ.out.later hBW4.out (Nat.le_refl _)
  clear hr3 hc3 hr2 HR
  go_upto_region 8 with fail
  have hZp : Hid (0 < len → ∃ b off, a = some ⟨b, off, none⟩ ∧ ∀ j v, (byC l)[j]? = some v → w4.drew.cell? ((⟨b, off, none⟩ : Addr).add j) = some v) := by
    intro hp
    obtain ⟨b, off, ha, hb, hc⟩ := HZ4.out.2 hp
    refine ⟨b, off, ha, fun j v hv => ?_⟩
    have hj : j < l.length := by
      have := (List.getElem?_eq_some_iff.1 hv).1
      rwa [byC_len] at this
    rw [byC_at l j hj] at hv
    rw [Addr.add_mid, ← hv]
    exact hc j (by rw [HLL.out]; exact hj)
  have hlB : Hid ((byC l).length = len) := by show _ = _; rw [byC_len]; exact HLL.out.symm
  obtain ⟨D, HDD⟩ : ∃ D, Hid (D = byC l) := ⟨_, rfl⟩
  rw [← HDD.out] at hZp hlB
  have hD1 : Hid (∀ v ∈ D, v.oneCell' = true) := by rw [HDD.out]; exact byC_one l
  have hR4d : Hid (Row w4.drew q 5 c4) := hR4.out
  have hn20 : n - 20 = len := by have := HNN.out; omega
  have h20 : (20 : Int) ≤ (n : Int) := by omega
  obtain ⟨P, hP⟩ : ∃ P : Option Addr, (if n = 20 then some (⟨q, 0, none⟩ : Addr) else some ⟨q, 20, none⟩) = P := ⟨_, rfl⟩
  have HP : Hid (0 < len → P = some ⟨q, 20, none⟩) := by
    intro h
    rw [← hP, if_neg (by have := HNN.out; omega)]
  have hq1 : Hid (D.length = Nat.min len len) := by show _ = _; rw [hlB.out]; exact (Nat.min_self _).symm
  have hq2 : Hid (0 < D.length → P = some ⟨q, 20, none⟩ ∧ ∃ ad, a = some ad ∧ ∀ j v, D[j]? = some v → w4.drew.cell? (ad.add j) = some v) := by
    intro h
    rw [hlB.out] at h
    obtain ⟨b, off, ha, hc⟩ := hZp.out h
    exact ⟨HP.out h, _, ha, hc⟩
  have hq3 : Hid (20 + D.length ≤ c4.length) := by show _ ≤ _; rw [hlB.out, HL4.out, HNN.out]; omega
  go_region_law (refine step_copy_splice rfl (.tmp 29) (.tmp 31) 22 22 rfl 5 Try.underlying22 info8 P a len len len cap (by simp [Act.eval, Act.put]) (by simp [Act.eval, Act.put]) q 20 c4 5 hR4d.out D hq1.out hq2.out hq3.out hD1.out q w4.drew (Below.refl _ _) (Nat.le_refl _) ?_; intro w6 hR6 hB6)
  have hfin : Hid (Row w6 q 5 (byC (frm s l))) := by
    have h := hR6.out
    have e : splice c4 20 D = byC (frm s l) := by
      rw [HC4.out, HDD.out, HC.out]
      unfold splice
      have hz1 : (byC H).length = 20 := by rw [← HC.out]; exact hCL.out
      rw [List.take_zero, List.nil_append, hz1, List.take_append_of_le_length (by omega), List.take_of_length_le (by omega), byC_len, List.drop_eq_nil_of_le (by rw [List.length_append, List.length_drop, hz1, HL.out, HNN.out, HLL.out]; omega), List.append_nil, frm, HH.out]
      simp only [byC, List.map_append, List.append_assoc]
    rw [e] at h
    exact h
  have hfb : Hid (Below w.heap.size w w6) := hBW4.out.trans (((Below.refl _ w4).drew.trans hB6).mono (by rw [HQ.out]; exact hBW.out.size))
  have hqq : Hid (w.heap.size ≤ q) := by rw [HQ.out]; exact hBW.out.size
  have hnE : Hid (n = 20 + len) := HNN.out
  clear hq1 hq2 hq3 hZp hR6 hB6 hR4d hR4 hB4 hc4 hP
  go_wp2
  refine bodyPost_ret (results_tmp2 rfl _ _ _) rfl ?_
  exact ⟨q, hqq.out, by rw [← hnE.out]; rfl, hfin.out, hfb.out⟩

end Go.Proofs.Ythmoapigjafijaa.Frm
