/- Next: the frame that begins bytes. -/
import Derived.Test.YthmoapigjafijaaFrameFault
import Derived.Test.YthmoapigjafijaaFrameHead
import Derived.Test.YthmoapigjafijaaFrameClone
import Derived.Deep.CutRange
namespace Go.Proofs.Ythmoapigjafijaa.Frm
open Go.RowKit Crc
set_option linter.unusedSimpArgs false
set_option linter.unusedVariables false

theorem nxt_hf (l : List UInt8) : nxtE l = if hfE l ≠ 0 then hfE l else if l.length - 20 < val (cut l 4 8) then 4
  else if (sum (cut l 4 16 ++ cut l 20 (20 + val (cut l 4 8)))).toNat ≠ val (cut l 16 20) then 13 else 0 := by
  unfold nxtE hfE
  by_cases c1 : beg l = false
  · simp [c1]
  rw [if_neg c1, if_neg c1]
  by_cases c2 : l.length < 20
  · simp [c2]
  rw [if_neg c2, if_neg c2]
  by_cases c3 : val (cut l 4 8) > most
  · simp [c3]
  rw [if_neg c3, if_neg c3]
  by_cases c4 : val (cut l 8 16) < 1 ∨ val (cut l 8 16) > maxSeq
  · rw [if_pos c4, if_pos c4, if_pos (by decide)]
  rw [if_neg c4, if_neg c4]
  simp
theorem hf_zero {l : List UInt8} (h : hfE l = 0) : 20 ≤ l.length ∧ val (cut l 4 8) ≤ 262144 ∧ 1 ≤ val (cut l 8 16) ∧ val (cut l 8 16) ≤ 4611686018427387904 := by
  unfold hfE at h
  split at h
  · cases h
  split at h
  · cases h
  split at h
  · cases h
  split at h
  · cases h
  rename_i c1 c2 c3 c4
  unfold most at c3
  unfold maxSeq at c4
  omega
def nul : Value := .agg #[.int .i64 0, .slice none 0 0]

theorem next_end {W : World} {g : Nat} {x y n e : Value} {R : Ending → World → Prop} {tmps : Array Value} (h : Row W g 28 [x, y]) (hx : x.oneCell' = true) (hy : y.oneCell' = true) (h2 : tmps.getD 2 undef = .pointer (some ⟨g, 0, none⟩)) (h3 : tmps.getD 3 undef = n) (h4 : tmps.getD 4 undef = e)
    (hR : R (.returned (.tuple #[.agg #[x, y], n, e])) W) : bodyPost Try.prog Try.f13 R .ret { tmps := tmps, defers := [] } W := by
  have hc0 : W.cell? ⟨g, 0, none⟩ = some x := by rw [h.cell]; rfl
  have hc1 : W.cell? ⟨g, 1, none⟩ = some y := by rw [h.cell]; rfl
  refine bodyPost_ret (v := .tuple #[.agg #[x, y], n, e]) ?_ rfl hR
  subst h3 h4
  have h2' : tmps[2]?.getD undef = .pointer (some ⟨g, 0, none⟩) := by simpa using h2
  simp [results, Try.results13, h2', go_sem, hc0, hc1]
theorem next_head (a : Option Addr) (len cap : Nat) (l : List UInt8) (w : World) (hl : Bys w a len l) (hlc : len ≤ cap) (hm : cap ≤ maxLen) (hE : hfE l ≠ 0) :
    Calls Try.prog 13 #[.slice a len cap] w fun e w' => e = .returned (.tuple #[nul, .int .i64 0, .int .i64 (hfE l)]) ∧ Below w.heap.size w w' := by
  have HZ : Hid (Bys w a len l) := hl
  have HLC : Hid (len ≤ cap) := hlc
  have HM : Hid (cap ≤ maxLen) := hm
  obtain ⟨E, HE⟩ : ∃ E, Hid (E = hfE l) := ⟨_, rfl⟩
  rw [← HE.out] at hE ⊢
  have hE' : ((E : Int) == 0) = false := by rw [beq_eq_false_iff_ne]; omega
  clear hl hlc hm hE
  go_enter Try.func13, Try.ntmps13
  go_wp2_with fail
  obtain ⟨W, HW⟩ : ∃ W, Hid (W = w.alloc (.cells #[.int .i64 0, .slice none 0 0] 28)) := ⟨_, rfl⟩
  obtain ⟨g, HGG⟩ : ∃ g, Hid (g = w.heap.size) := ⟨_, rfl⟩
  have hW2 : Hid (Row W g 28 [.int .i64 0, .slice none 0 0]) := by
    rw [HW.out, HGG.out]
    exact Row.mk w [.int .i64 0, .slice none 0 0] _
  have hW3 : Hid (Below w.heap.size w W) := by
    rw [HW.out]
    exact (Below.refl _ w).alloc (Nat.le_refl _) _
  rw [← HW.out, ← HGG.out]
  clear HW
  refine (headFault_any _ _ _ _ _ (HZ.out.later hW3.out (Nat.le_refl _)) HLC.out HM.out).mono ?_
  rintro e w1 ⟨rfl, hB1⟩
  rw [← HE.out]
  have hR1 : Row w1 g 28 [.int .i64 0, .slice none 0 0] := hW2.out.below hB1 hW2.out.lt
  have hc0 : w1.cell? ⟨g, 0, none⟩ = some (.int .i64 0) := by rw [hR1.cell]; rfl
  have hc1 : w1.cell? ⟨g, 1, none⟩ = some (.slice none 0 0) := by rw [hR1.cell]; rfl
  have hf0 := hR1.free 0
  have hf1 := hR1.free 1
  have HBe : Hid (Below w.heap.size w w1) := hW3.out.trans (hB1.mono hW3.out.size)
  have HR1 : Hid (Row w1 g 28 [.int .i64 0, .slice none 0 0]) := hR1
  clear hR1 hB1 hW2 hW3
  go_wp2
  have hR2 := (HR1.out.set 0 (.int .i64 0)).set 1 (.slice none 0 0)
  have hB2 := (HBe.out.setCell (p := ⟨g, 0, none⟩) (by rw [HGG.out]; exact Nat.le_refl _) (.int .i64 0)).setCell (p := ⟨g, 1, none⟩) (by rw [HGG.out]; exact Nat.le_refl _) (.slice none 0 0)
  exact next_end hR2 rfl rfl rfl rfl rfl ⟨rfl, hB2⟩

/-- what Next answers behind a beginning that stands -/
def NextRes (w : World) (l : List UInt8) (e : Ending) (w' : World) : Prop :=
  Below w.heap.size w w' ∧ ((nxtE l ≠ 0 ∧ e = .returned (.tuple #[nul, .int .i64 0, .int .i64 (nxtE l)])) ∨
    (nxtE l = 0 ∧ ∃ v, e = .returned (.tuple #[.agg #[.int .i64 (nxtS l), v], .int .i64 (nxtN l), .int .i64 0]) ∧ Fresh w.heap.size w' v (nxtD l)))

set_option maxHeartbeats 1000000 in
theorem next_rest (a : Option Addr) (len cap : Nat) (l : List UInt8) (w : World) (hl : Bys w a len l) (hlc : len ≤ cap) (hm : cap ≤ maxLen) (hE : hfE l = 0) :
    Calls Try.prog 13 #[.slice a len cap] w fun e w' => NextRes w l e w' := by
  have HZ : Hid (Bys w a len l) := hl
  have HL : Hid (len = l.length) := hl.1
  have HLC : Hid (len ≤ cap) := hlc
  have HM : Hid (cap ≤ maxLen) := hm
  have HE : Hid (hfE l = 0) := hE
  have HNX0 := nxt_hf l
  rw [if_neg (by rw [hE]; decide)] at HNX0
  obtain ⟨h20, hn2, hq1, hq2⟩ := hf_zero hE
  rw [← HL.out] at h20
  obtain ⟨b, off, rfl, hX, hY⟩ := HZ.out.2 (by omega)
  clear hX hY hE hl hm
  obtain ⟨n, HN⟩ : ∃ n, Hid (n = val (cut l 4 8)) := ⟨_, rfl⟩
  obtain ⟨q, HQ⟩ : ∃ q, Hid (q = val (cut l 8 16)) := ⟨_, rfl⟩
  obtain ⟨m, HMM⟩ : ∃ m, Hid (m = val (cut l 16 20)) := ⟨_, rfl⟩
  rw [← HN.out, ← HMM.out, ← HL.out] at HNX0
  rw [← HN.out] at hn2
  rw [← HQ.out] at hq1 hq2
  have HNX : Hid (_ = _) := HNX0
  clear HNX0
  have hwn : IntKind.i64.wrap (n : Int) = (n : Int) := by simp [IntKind.wrap, IntKind.bits, IntKind.signed]; omega
  have hwq : IntKind.i64.wrap (q : Int) = (q : Int) := by simp [IntKind.wrap, IntKind.bits, IntKind.signed]; omega
  obtain ⟨en, HEN⟩ : ∃ en, Hid (en = 20 + n) := ⟨_, rfl⟩
  have hen : (20 : Int) + (n : Int) = (en : Int) := by rw [HEN.out]; omega
  have hZ0 : ∀ W, Below w.heap.size w W → Bys W (some ⟨b, off, none⟩) len l := fun W h => HZ.out.later h (Nat.le_refl _)
  have HZ0 : Hid (∀ W, Below w.heap.size w W → Bys W (some ⟨b, off, none⟩) len l) := hZ0
  clear hZ0
  go_enter Try.func13, Try.ntmps13
  go_wp2_with fail
  obtain ⟨W, HW⟩ : ∃ W, Hid (W = w.alloc (.cells #[.int .i64 0, .slice none 0 0] 28)) := ⟨_, rfl⟩
  obtain ⟨g, HGG⟩ : ∃ g, Hid (g = w.heap.size) := ⟨_, rfl⟩
  have hW2 : Hid (Row W g 28 [.int .i64 0, .slice none 0 0]) := by
    rw [HW.out, HGG.out]
    exact Row.mk w [.int .i64 0, .slice none 0 0] _
  have hW3 : Hid (Below w.heap.size w W) := by
    rw [HW.out]
    exact (Below.refl _ w).alloc (Nat.le_refl _) _
  rw [← HW.out, ← HGG.out]
  clear HW
  refine (headFault_any _ _ _ _ _ (HZ0.out _ hW3.out) HLC.out HM.out).mono ?_
  rintro e w1 ⟨rfl, hB1⟩
  rw [HE.out]
  have HR1 : Hid (Row w1 g 28 [.int .i64 0, .slice none 0 0]) := hW2.out.below hB1 hW2.out.lt
  have HBe : Hid (Below w.heap.size w w1) := hW3.out.trans (hB1.mono hW3.out.size)
  have HV1 : Hid (Bys w1 (some ⟨b, off + 4, none⟩) 4 (cut l 4 8)) := bys_cut (HZ0.out _ HBe.out) 4 8 (by omega) (by omega) _ (fun _ b' off' e => by cases e; rfl)
  clear hB1 hW2 hW3
  go_wp2_with fail
  refine (number_any _ _ _ _ _ HV1.out (by decide)).mono ?_
  rintro e w' ⟨rfl, rfl⟩
  rw [← HN.out]
  by_cases hA : len < en
  · have hA' : decide ((len : Int) < (en : Int)) = true := decide_eq_true (by omega)
    have HF : Hid (nxtE l = 4) := by show _ = _; rw [HNX.out, if_pos (by have := HEN.out; omega)]
    have hc0 : w1.cell? ⟨g, 0, none⟩ = some (.int .i64 0) := by rw [HR1.out.cell]; rfl
    have hc1 : w1.cell? ⟨g, 1, none⟩ = some (.slice none 0 0) := by rw [HR1.out.cell]; rfl
    have hf0 := HR1.out.free 0
    have hf1 := HR1.out.free 1
    clear HNX
    go_wp2
    have hR2 := (HR1.out.set 0 (.int .i64 0)).set 1 (.slice none 0 0)
    have hB2 := (HBe.out.setCell (p := ⟨g, 0, none⟩) (by rw [HGG.out]; exact Nat.le_refl _) (.int .i64 0)).setCell (p := ⟨g, 1, none⟩) (by rw [HGG.out]; exact Nat.le_refl _) (.slice none 0 0)
    exact next_end hR2 rfl rfl rfl rfl rfl ⟨hB2, .inl ⟨by rw [HF.out]; decide, by rw [HF.out]; rfl⟩⟩
  have hA' : decide ((len : Int) < (en : Int)) = false := decide_eq_false (by omega)
  have he1 : en ≤ len := by omega
  have he2 : 20 ≤ en := by rw [HEN.out]; omega
  obtain ⟨P, hP⟩ : ∃ P : Option Addr, (if cap = 20 then some (⟨b, off, none⟩ : Addr) else some ⟨b, off + 20, none⟩) = P := ⟨_, rfl⟩
  have hen20 : en - 20 = n := by rw [HEN.out]; omega
  obtain ⟨D, HD⟩ : ∃ D, Hid (D = cut l 20 en) := ⟨_, rfl⟩
  have HPP : Hid (∃ p, P = some ⟨b, p, none⟩) := by
    rw [← hP]
    by_cases hc : cap = 20
    · rw [if_pos hc]; exact ⟨_, rfl⟩
    · rw [if_neg hc]; exact ⟨_, rfl⟩
  have HV2 : Hid (Bys w1 P n D) := by
    have h := bys_cut (HZ0.out _ HBe.out) 20 en he2 he1 P (fun hlt b' off' e => by cases e; rw [← hP, if_neg (by omega)])
    rw [hen20, ← HD.out] at h
    exact h
  have HV3 : Hid (Bys w1 (some ⟨b, off + 4, none⟩) 12 (cut l 4 16)) := bys_cut (HZ0.out _ HBe.out) 4 16 (by omega) (by omega) _ (fun _ b' off' e => by cases e; rfl)
  obtain ⟨N, HNN⟩ : ∃ N, Hid (N = (sum (cut l 4 16 ++ D)).toNat) := ⟨_, rfl⟩
  have hN : N < 4294967296 := by rw [HNN.out]; exact sum_lt _
  have hm1 : m < 4294967296 := by
    rw [HMM.out]
    have := val_lt (cut l 16 20)
    rw [cut_len _ _ _ (by have := HL.out; omega)] at this
    exact this
  have hwm : IntKind.u32.wrap (m : Int) = (m : Int) := by simp [IntKind.wrap, IntKind.bits, IntKind.signed]; omega
  have HNX2 : Hid (nxtE l = if N ≠ m then 13 else 0) := by
    show _ = _
    rw [HNX.out, if_neg (by omega), HNN.out, HD.out, HEN.out]
  clear HNX
  go_upto_region 8 with fail
  go_cut [36] from 27 to 35 (fun v wx => v = .bool ((N : Int) != (m : Int)) ∧ Below w1.heap.size w1 wx)
  case first =>
    go_region_with (first | (go_at_call 26; refine (sum_two_drew _ N rfl HV3.out (by decide) HV2.out (by unfold maxLen; omega) HNN.out).mono ?_; rintro e w4 ⟨rfl, hB4⟩) | (go_at_call 25; refine (number_any _ 4 _ (cut l 16 20) _ (bys_cut (HZ0.out _ (HBe.out.trans (hB4.mono HBe.out.size))) 16 20 (by omega) (by omega) _ (fun _ b' off' e => by cases e; rfl)) (by decide)).mono ?_; rintro e w' ⟨rfl, rfl⟩; rw [← HMM.out]))
    all_goals (go_wp2_with fail; go_meet; exact ⟨rfl, hB4⟩)
  case rest =>
  obtain ⟨rfl, hB4⟩ := hcut
  obtain ⟨w4, HX4⟩ : ∃ w4, Hid (w4 = wc) := ⟨_, rfl⟩
  rw [← HX4.out] at hB4 ⊢
  clear HX4
  have HB4 : Hid (Below w.heap.size w w4) := HBe.out.trans (hB4.mono HBe.out.size)
  have HR4 : Hid (Row w4 g 28 [.int .i64 0, .slice none 0 0]) := HR1.out.below hB4 HR1.out.lt
  have HV4 : Hid (Bys w4 P n D) := HV2.out.later hB4 (Nat.le_refl _)
  have hc0 : w4.cell? ⟨g, 0, none⟩ = some (.int .i64 0) := by rw [HR4.out.cell]; rfl
  have hc1 : w4.cell? ⟨g, 1, none⟩ = some (.slice none 0 0) := by rw [HR4.out.cell]; rfl
  have hf0 := HR4.out.free 0
  have hf1 := HR4.out.free 1
  clear hB4 HV1 HV2 HV3 HR1 HBe
  by_cases hS : N = m
  · have hS' : ((N : Int) != (m : Int)) = false := by simp; omega
    have HF : Hid (nxtE l = 0) := by show _ = _; rw [HNX2.out, if_neg (by omega)]
    have HV5 : Hid (Bys w4 (some ⟨b, off + 8, none⟩) 8 (cut l 8 16)) := bys_cut (HZ0.out _ HB4.out) 8 16 (by omega) (by omega) _ (fun _ b' off' e => by cases e; rfl)
    clear HNX2 hS hc0 hc1 hf0 hf1 hP
    go_wp2_with fail
    refine (number_any _ _ _ _ _ HV5.out (by decide)).mono ?_
    rintro e w' ⟨rfl, rfl⟩
    rw [← HQ.out]
    obtain ⟨p, rfl⟩ := HPP.out
    go_wp2_with fail
    refine (clone_any _ _ _ _ D _ HV4.out (by omega)).mono ?_
    rintro e w5 ⟨v, rfl, hfr, hB5⟩
    have HB5 : Hid (Below w.heap.size w w5) := HB4.out.trans (hB5.mono HB4.out.size)
    have HR5 : Hid (Row w5 g 28 [.int .i64 0, .slice none 0 0]) := HR4.out.below hB5 HR4.out.lt
    have hc0 : w5.cell? ⟨g, 0, none⟩ = some (.int .i64 0) := by rw [HR5.out.cell]; rfl
    have hc1 : w5.cell? ⟨g, 1, none⟩ = some (.slice none 0 0) := by rw [HR5.out.cell]; rfl
    have hf0 := HR5.out.free 0
    have hf1 := HR5.out.free 1
    have hg4 : Hid (g < w4.heap.size) := HR4.out.lt
    obtain ⟨gv, cv, cur, rfl, hgB, hRv, htk, hlc2, hcm2⟩ := hfr
    have HRv : Hid (Row w5 gv 5 cur) := hRv
    have HT : Hid (cur.take D.length = byC D) := htk
    clear hB5 HR4 hRv htk HZ HZ0 HV4 HV5 HB4
    go_wp2
    have hR2 := (HR5.out.set 0 (.int .i64 q)).set 1 (.slice (some ⟨gv, 0, none⟩) D.length cv)
    have hB2 := (HB5.out.setCell (p := ⟨g, 0, none⟩) (by rw [HGG.out]; exact Nat.le_refl _) (.int .i64 q)).setCell (p := ⟨g, 1, none⟩) (by rw [HGG.out]; exact Nat.le_refl _) (.slice (some ⟨gv, 0, none⟩) D.length cv)
    have hg4' := hg4.out
    have hRv2 : Row ((w5.setCell ⟨g, 0, none⟩ (.int .i64 q)).setCell ⟨g, 1, none⟩ (.slice (some ⟨gv, 0, none⟩) D.length cv)) gv 5 cur := by
      unfold Row
      rw [Below.heap_setCell _ _ _ _ (by show gv ≠ g; omega), Below.heap_setCell _ _ _ _ (by show gv ≠ g; omega)]
      exact HRv.out
    have eS : nxtS l = q := by rw [nxtS, if_pos HF.out]; exact HQ.out.symm
    have eN : nxtN l = en := by rw [nxtN, if_pos HF.out, ← HN.out]; exact HEN.out.symm
    have eD : nxtD l = D := by rw [nxtD, if_pos HF.out, ← HN.out, ← HEN.out]; exact HD.out.symm
    refine next_end hR2 rfl rfl rfl rfl rfl ⟨hB2, .inr ⟨HF.out, .slice (some ⟨gv, 0, none⟩) D.length cv, ?_, ?_⟩⟩
    · rw [eS, eN]; rfl
    · rw [eD]
      exact ⟨gv, cv, cur, rfl, by have := HGG.out; omega, hRv2, HT.out, hlc2, hcm2⟩
  · have hS' : ((N : Int) != (m : Int)) = true := by simp; omega
    have HF : Hid (nxtE l = 13) := by show _ = _; rw [HNX2.out, if_pos hS]
    clear HNX2 hS hP
    go_wp2
    have hR2 := (HR4.out.set 0 (.int .i64 0)).set 1 (.slice none 0 0)
    have hB2 := (HB4.out.setCell (p := ⟨g, 0, none⟩) (by rw [HGG.out]; exact Nat.le_refl _) (.int .i64 0)).setCell (p := ⟨g, 1, none⟩) (by rw [HGG.out]; exact Nat.le_refl _) (.slice none 0 0)
    exact next_end hR2 rfl rfl rfl rfl rfl ⟨hB2, .inl ⟨by rw [HF.out]; decide, by rw [HF.out]; rfl⟩⟩

theorem next_err (a : Option Addr) (len cap : Nat) (l : List UInt8) (w : World) (hl : Bys w a len l) (hlc : len ≤ cap) (hm : cap ≤ maxLen) (E : Nat) (hE : nxtE l = E) (h0 : E ≠ 0) :
    Calls Try.prog 13 #[.slice a len cap] w fun e w' => e = .returned (.tuple #[nul, .int .i64 0, .int .i64 E]) ∧ Below w.heap.size w w' := by
  by_cases h : hfE l = 0
  · refine (next_rest a len cap l w hl hlc hm h).mono ?_
    rintro e w' ⟨hB, hr⟩
    rcases hr with ⟨_, rfl⟩ | ⟨hz, _⟩
    · rw [hE]; exact ⟨rfl, hB⟩
    · omega
  · refine (next_head a len cap l w hl hlc hm h).mono ?_
    rintro e w' ⟨rfl, hB⟩
    have := nxt_hf l
    rw [if_pos h] at this
    rw [← this, hE]
    exact ⟨rfl, hB⟩
theorem next_ok (a : Option Addr) (len cap : Nat) (l : List UInt8) (w : World) (hl : Bys w a len l) (hlc : len ≤ cap) (hm : cap ≤ maxLen) (hE : nxtE l = 0) (S N : Nat) (D : List UInt8) (hS : nxtS l = S) (hN : nxtN l = N) (hD : nxtD l = D) :
    Calls Try.prog 13 #[.slice a len cap] w fun e w' => ∃ g cv cur, e = .returned (.tuple #[.agg #[.int .i64 S, .slice (some ⟨g, 0, none⟩) D.length cv], .int .i64 N, .int .i64 0]) ∧ w.heap.size ≤ g ∧ Row w' g 5 cur ∧ cur.take D.length = byC D ∧ D.length ≤ cv ∧ cv ≤ maxLen ∧ Below w.heap.size w w' := by
  have h : hfE l = 0 := by
    have := nxt_hf l
    by_cases h : hfE l = 0
    · exact h
    · rw [if_pos h] at this; omega
  refine (next_rest a len cap l w hl hlc hm h).mono ?_
  rintro e w' ⟨hB, hr⟩
  rcases hr with ⟨hz, _⟩ | ⟨_, v, rfl, g, cv, cur, rfl, h1, h2, h3, h4, h5⟩
  · exact absurd hE hz
  · subst hS hN hD
    exact ⟨g, cv, cur, rfl, h1, h2, h3, h4, h5, hB⟩

end Go.Proofs.Ythmoapigjafijaa.Frm
