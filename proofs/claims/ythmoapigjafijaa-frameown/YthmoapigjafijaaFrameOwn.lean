/- The walk of FrameOwn: what was answered may be written over, and bytes are not turned. -/
import Derived.Test.YthmoapigjafijaaFrameAlive
namespace Go.Proofs.Ythmoapigjafijaa.Frm
open Go.RowKit Crc
set_option linter.unusedSimpArgs false
set_option linter.unusedVariables false

theorem xor255 (x : UInt8) : bits .xor .u8 (nm (wd x)) 255 = nm (wd (x ^^^ 255)) := by
  rw [← xor_byte, nm_wd 255]
  rfl
/-- the first cells are bytes -/
def Bytes8 (c : List Value) (n : Nat) : Prop := ∀ j, j < n → ∃ x : UInt8, c[j]? = some (.int .u8 (nm (wd x)))
theorem Bytes8.set {c : List Value} {n : Nat} (h : Bytes8 c n) (i : Nat) (hi : i < n) (y : UInt8) : Bytes8 (c.set i (.int .u8 (nm (wd y)))) n := by
  intro j hj
  by_cases e : j = i
  · subst e
    obtain ⟨x, hx⟩ := h j hj
    exact ⟨y, by rw [List.getElem?_set_self (List.getElem?_eq_some_iff.1 hx).1]⟩
  · obtain ⟨x, hx⟩ := h j hj
    exact ⟨x, by rw [List.getElem?_set_ne (by omega)]; exact hx⟩

set_option maxHeartbeats 1000000 in
theorem frameOwn_any (a : Option Addr) (len cap : Nat) (l : List UInt8) (w : World) (h : BArg w a len cap l) :
    Calls Try.prog 8 #[.slice a len cap] w fun e w' => e = .returned (.bool true) ∧ Below w.heap.size w w' := by
  have HB : Hid (Bys w a len l) := h.1
  have HL : Hid (len = l.length) := h.1.1
  have hcv := conv_bys (cap := cap) HB.out
  by_cases hm : 262144 < len
  · have HM : Hid (262144 < len) := hm
    clear h hm
    go_enter Try.func8, Try.ntmps8
    go_wp2_with fail
    refine (put_many 1 _ _ _ _ (by decide) (by decide) HM.out).mono ?_
    rintro e w1 ⟨rfl, hB1⟩
    clear hcv
    go_wp2_with fail
    refine (alive_any _).mono ?_
    rintro e w2 ⟨rfl, hB2⟩
    have hB := hB1.trans (hB2.mono hB1.size)
    clear hB1 hB2
    go_wp2
    go_ret
    exact ⟨rfl, hB⟩
  have hm1 : len ≤ 262144 := by omega
  clear h hm
  go_enter Try.func8, Try.ntmps8
  go_wp2_with fail
  refine (put_ok 1 _ _ _ l _ (by decide) (by decide) HB.out hm1).mono ?_
  rintro e w1 ⟨g, hg, rfl, hR, hB1⟩
  have HB1 : Hid (Below w.heap.size w w1) := hB1
  have HR : Hid (Row w1 g 5 (byC (frm 1 l))) := hR
  have HG : Hid (w.heap.size ≤ g) := hg
  obtain ⟨n, HNN⟩ : ∃ n, Hid (n = 20 + len) := ⟨_, rfl⟩
  rw [← HNN.out]
  obtain ⟨n1, n2, n3, n4⟩ := nxt_one 1 l (by decide) (by decide) (by rw [← HL.out]; exact hm1)
  rw [← HL.out, ← HNN.out] at n4
  obtain ⟨F, HF⟩ : ∃ F, Hid (F = frm 1 l) := ⟨_, rfl⟩
  rw [← HF.out] at n1 n2 n3 n4 HR
  have HNX : Hid (nxtE F = 0 ∧ nxtS F = 1 ∧ nxtD F = l ∧ nxtN F = n) := ⟨n1, n2, n3, n4⟩
  have HFL : Hid (n = F.length) := by show _ = _; rw [HF.out, frm_len, ← HL.out]; exact HNN.out
  have hn1 : n ≤ 262164 := by rw [HNN.out]; omega
  have HNM : Hid (n ≤ maxLen) := by show _ ≤ _; unfold maxLen; omega
  clear hB1 hR hg n1 n2 n3 n4 hcv
  go_wp2_with fail
  refine (next_ok _ n n F _ (row_byC HR.out n HFL.out) (Nat.le_refl _) HNM.out HNX.out.1 1 n l HNX.out.2.1 HNX.out.2.2.2 HNX.out.2.2.1).mono ?_
  rintro e w2 ⟨gv, cv, cur, rfl, hgv, hRv, htk, hlc, hcm, hB2⟩
  go_upto_region 6 with fail
  rw [show l.length = len from HL.out.symm] at htk hlc ⊢
  have H8 : Hid (Bytes8 cur len) := by
    intro j hj
    refine ⟨l.getD j 0, ?_⟩
    rw [← byC_at l j (by rw [← HL.out]; exact hj), ← htk, List.getElem?_take, if_pos hj]
  obtain ⟨W, HW⟩ : ∃ W, Hid (W = w2.alloc (.cells #[.int .i64 1, .slice (some ⟨gv, 0, none⟩) len cv] 28)) := ⟨_, rfl⟩
  obtain ⟨k, HK⟩ : ∃ k, Hid (k = w2.heap.size) := ⟨_, rfl⟩
  rw [← HW.out, ← HK.out]
  have HRk : Hid (Row W k 28 [.int .i64 1, .slice (some ⟨gv, 0, none⟩) len cv]) := by rw [HW.out, HK.out]; exact Row.mk w2 [.int .i64 1, .slice (some ⟨gv, 0, none⟩) len cv] _
  have HRv : Hid (Row W gv 5 cur) := by rw [HW.out]; exact hRv.old _
  have HRg : Hid (Row W g 5 (byC F)) := by rw [HW.out]; exact (HR.out.below hB2 HR.out.lt).old _
  have hggv : g < gv := Nat.lt_of_lt_of_le HR.out.lt hgv
  have hgk : gv < k := by rw [HK.out]; exact hRv.lt
  have HBW : Hid (Below w.heap.size w W) := by
    rw [HW.out]
    exact (HB1.out.trans (hB2.mono HB1.out.size)).alloc (Nat.le_trans HB1.out.size hB2.size) _
  clear HW hB2 hRv htk hgv HR HB1
  have hc0 : W.cell? ⟨k, 1, none⟩ = some (.slice (some ⟨gv, 0, none⟩) len cv) := by rw [HRk.out.cell]; rfl
  go_wp2
  clear hc0
  go_loopw [33] (fun i wr => ∃ (m : Nat) (c : List Value), m ≤ len ∧ i = .int .i64 m ∧ Row wr gv 5 c ∧ Bytes8 c len ∧ Row wr k 28 [.int .i64 1, .slice (some ⟨gv, 0, none⟩) len cv] ∧ Below gv W wr) (fun i _ => len - (intOf i).toNat)
  case atStart => exact ⟨0, cur, Nat.zero_le _, rfl, HRv.out, H8.out, HRk.out, Below.refl _ _⟩
  case round =>
    obtain ⟨m, c, hmm, rfl, hRc, h8, hRk, hBw⟩ := hrel
    have HRc : Hid (Row wr gv 5 c) := hRc
    have HRk2 : Hid (Row wr k 28 [.int .i64 1, .slice (some ⟨gv, 0, none⟩) len cv]) := hRk
    have HBw : Hid (Below gv W wr) := hBw
    have H82 : Hid (Bytes8 c len) := h8
    clear hRc h8 hRk hBw
    by_cases hlt : m < len
    · obtain ⟨x, hx⟩ := H82.out m hlt
      have hcx : wr.cell? ⟨gv, m, none⟩ = some (.int .u8 (nm (wd x))) := by rw [HRc.out.cell]; exact hx
      have hfx := HRc.out.free m
      have hck : wr.cell? ⟨k, 1, none⟩ = some (.slice (some ⟨gv, 0, none⟩) len cv) := by rw [HRk2.out.cell]; rfl
      have hxx := xor255 x
      have hx0 := nm_lo (wd x)
      have hx1 := nm_wd_hi x
      have HN1 : Hid (Row (wr.setCell ⟨gv, m, none⟩ (.int .u8 (nm (wd (x ^^^ 255))))) gv 5 (c.set m (.int .u8 (nm (wd (x ^^^ 255)))))) := HRc.out.set m _
      have HN2 : Hid (Row (wr.setCell ⟨gv, m, none⟩ (.int .u8 (nm (wd (x ^^^ 255))))) k 28 [.int .i64 1, .slice (some ⟨gv, 0, none⟩) len cv]) := by
        show _ = _
        rw [Below.heap_setCell _ _ _ _ (by show k ≠ gv; omega)]
        exact HRk2.out
      have HN3 : Hid (Below gv W (wr.setCell ⟨gv, m, none⟩ (.int .u8 (nm (wd (x ^^^ 255)))))) := HBw.out.setCell (p := ⟨gv, m, none⟩) (Nat.le_refl _) _
      have HN4 : Hid (Bytes8 (c.set m (.int .u8 (nm (wd (x ^^^ 255))))) len) := H82.out.set m hlt _
      clear hx
      generalize x ^^^ 255 = y at *
      have hy0 := nm_lo (wd y)
      have hy1 := nm_wd_hi y
      go_wp2
      go_roundw
      case rel => exact ⟨m + 1, _, by omega, by go_num, HN1.out, HN4.out, HN2.out, HN3.out⟩
      case measure => simp [intOf]; omega
    · have HRg2 : Hid (Row wr g 5 (byC F)) := HRg.out.below HBw.out hggv
      have HBf : Hid (Below w.heap.size w wr) := HBW.out.trans (HBw.out.mono (by have := HG.out; omega))
      clear HRc HRk2 H82
      go_wp2_with fail
      refine (next_ok _ n n F _ (row_byC HRg2.out n HFL.out) (Nat.le_refl _) HNM.out HNX.out.1 1 n l HNX.out.2.1 HNX.out.2.2.2 HNX.out.2.2.1).mono ?_
      rintro e w3 ⟨gv', cv', cur', rfl, hgv', hRv', htk', hlc', hcm', hB3⟩
      rw [show l.length = len from HL.out.symm] at htk' hlc' ⊢
      have HB3 : Hid (Below w.heap.size w w3) := HBf.out.trans (hB3.mono HBf.out.size)
      have HB4 : Hid (Below w.heap.size w (w3.alloc (.cells #[.int .i64 1, .slice (some ⟨gv', 0, none⟩) len cv'] 28))) := HB3.out.alloc HB3.out.size _
      have hbv : Bys w3 (some ⟨gv', 0, none⟩) len l := by
        have h := row_bys0 hRv' l (by rw [← HL.out]; exact htk')
        rwa [← HL.out] at h
      have hcv1 := conv_bys (cap := cv') (hbv.later ((Below.refl _ w3).alloc (Nat.le_refl _) (.cells #[.int .i64 1, .slice (some ⟨gv', 0, none⟩) len cv'] 28)) (Nat.le_refl _))
      have hcv2 := conv_bys (cap := cap) (HB.out.later HB4.out (Nat.le_refl _))
      clear hbv hB3 htk' hRv' HB3 HRg2 HBf hgv' hlc' hcm'
      go_wp2_with fail
      refine (alive_any _).mono ?_
      rintro e w5 ⟨rfl, hB5⟩
      have hbel := HB4.out.trans (hB5.mono HB4.out.size)
      clear hcv1 hcv2 hB5 HB4
      go_wp2
      go_ret
      exact ⟨rfl, hbel⟩

end Go.Proofs.Ythmoapigjafijaa.Frm
