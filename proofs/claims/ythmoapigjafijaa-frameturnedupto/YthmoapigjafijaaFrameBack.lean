/- The walk of FrameBack: what is put is got, in a row. -/
import Derived.Test.YthmoapigjafijaaFrameLay
import Derived.Test.YthmoapigjafijaaFrameScan
import Derived.BigQuiet
import Derived.Deep.QuietTactic
namespace Go.Proofs.Ythmoapigjafijaa.Frm
open Go.RowKit Crc
set_option linter.unusedSimpArgs false
set_option linter.unusedVariables false

theorem own_bys {w : World} {B n : Nat} {v : Value} {l : List UInt8} (h : w.ownsRow B 5 1 v n (byC l)) : ∃ a c, v = .slice a n c ∧ Bys w a n l ∧ n ≤ c ∧ c ≤ maxLen ∧ (0 < n → ∃ g cur, a = some ⟨g, 0, none⟩ ∧ B ≤ g ∧ Row w g 5 cur ∧ cur.take n = byC l) := by
  obtain ⟨h1, h2⟩ := h
  rw [byC_len, Nat.mul_one] at h1
  rcases h2 with ⟨rfl, rfl⟩ | ⟨g, cap, cur, rfl, hB, hg, h3, h4, h5, h6⟩
  · exact ⟨none, 0, rfl, ⟨h1.symm, fun h => absurd h (by decide)⟩, Nat.le_refl _, Nat.zero_le _, fun h => absurd h (by decide)⟩
  · have hR : Row w g 5 cur.toList := by unfold Row; simpa using hg
    rw [Nat.mul_one] at h6
    refine ⟨_, cap, rfl, ?_, h3, h4, fun _ => ⟨g, cur.toList, rfl, hB, hR, h6⟩⟩
    have := row_bys0 hR l (by rw [h1]; exact h6)
    rwa [h1] at this
theorem cellsF_at (xs : List Fr) (i : Nat) (y : Fr) (h : xs[i]? = some y) : (cellsF xs)[i * 2]? = some (.int .i64 y.s) ∧ (cellsF xs)[i * 2 + 1]? = some (.slice (some ⟨y.g, 0, none⟩) y.d.length y.c) := by
  induction xs generalizing i with
  | nil => simp at h
  | cons x r ih =>
    cases i with
    | zero => cases h; exact ⟨rfl, rfl⟩
    | succ i =>
      have := ih i (by simpa using h)
      simp only [cellsF]
      rw [show (i + 1) * 2 = i * 2 + 1 + 1 by omega]
      exact this
/-- a list of frames that was answered -/
theorem own_frames {w : World} {B n : Nat} {v : Value} {xs : List Fr} (h : w.ownsRow B 28 2 v xs.length (cellsF xs)) (hn : xs.length = n) : ∃ a c, v = .slice a n c ∧ n ≤ c ∧ c ≤ maxLen ∧
    (0 < n → ∃ g, a = some ⟨g, 0, none⟩ ∧ g < w.heap.size ∧ ∀ (i : Nat) (y : Fr), xs[i]? = some y → w.cell? ⟨g, i * 2, none⟩ = some (.int .i64 y.s) ∧ w.cell? ⟨g, i * 2 + 1, none⟩ = some (.slice (some ⟨y.g, 0, none⟩) y.d.length y.c)) := by
  obtain ⟨h1, h2⟩ := h
  subst hn
  rcases h2 with ⟨rfl, h0⟩ | ⟨g, cap, cur, rfl, hB, hg, h3, h4, h5, h6⟩
  · exact ⟨none, 0, by rw [h0], by omega, Nat.zero_le _, fun h => by omega⟩
  · have hR : Row w g 28 cur.toList := by unfold Row; simpa using hg
    refine ⟨_, cap, rfl, h3, h4, fun _ => ⟨g, rfl, hR.lt, fun i y hi => ?_⟩⟩
    have hil : i < xs.length := (List.getElem?_eq_some_iff.1 hi).1
    have hc := cellsF_at xs i y hi
    rw [← h6] at hc
    rw [List.getElem?_take, if_pos (by omega), List.getElem?_take, if_pos (by omega)] at hc
    exact ⟨by rw [hR.cell]; exact hc.1, by rw [hR.cell]; exact hc.2⟩
theorem num_len (ps : List (List UInt8)) (s : Nat) : (num ps s).length = ps.length := by
  induction ps generalizing s with
  | nil => rfl
  | cons d r ih => rw [num, List.length_cons, List.length_cons, ih]
theorem num_at (ps : List (List UInt8)) (s i : Nat) (h : i < ps.length) : (num ps s)[i]? = some (s + i, ps.getD i []) := by
  induction ps generalizing s i with
  | nil => simp at h
  | cons d r ih =>
    cases i with
    | zero => simp [num]
    | succ i =>
      rw [num, List.getElem?_cons_succ, ih (s + 1) i (by simpa using h)]
      simp
      omega
theorem nxt_nil : nxtE [] = 4 := by decide
theorem scz_lays (ps : List (List UInt8)) (s : Nat) (h1 : 1 ≤ s) (h2 : s + ps.length ≤ 4611686018427387904) (hf : fits ps) : scz (lays ps s) s = num ps s := by
  unfold scz
  rw [if_neg (by omega)]
  have h := scn_lays ps s [] h1 h2 hf (scn_none _ _ (.inl (by rw [nxt_nil]; decide)))
  rw [List.append_nil] at h
  simpa using h
theorem scz_other (ps : List (List UInt8)) (s : Nat) (h1 : 1 ≤ s) (h2 : s + ps.length ≤ 4611686018427387904) (hf : fits ps) : scz (lays ps s) (s + 1) = [] := by
  apply scz_none
  cases ps with
  | nil => exact .inl (by rw [lays, nxt_nil]; decide)
  | cons d r =>
    right
    rw [lays, (nxt_frm s d (lays r (s + 1)) h1 (by unfold maxSeq; omega) (hf d List.mem_cons_self)).2.1]
    omega
theorem xs_of {xs : List Fr} {L : List (Nat × List UInt8)} (h : xs.map Fr.sd = L) : xs.length = L.length ∧ ∀ (i : Nat) (y : Fr), xs[i]? = some y → L[i]? = some (y.s, y.d) := by
  subst h
  refine ⟨by simp, fun i y hi => ?_⟩
  rw [List.getElem?_map, hi]
  rfl
/-- parts that came in, not too many bytes together -/
def PArg (w : World) (a : Option Addr) (len cap : Nat) (ps : List (List UInt8)) : Prop := Parts w a len ps ∧ len ≤ cap ∧ cap ≤ maxLen ∧ 20 * ps.length + (ps.map List.length).sum ≤ 70368744177664

set_option maxHeartbeats 2000000 in
theorem frameBack_any (a : Option Addr) (len cap : Nat) (ps : List (List UInt8)) (x : W32) (w : World) (h : PArg w a len cap ps) :
    Calls Try.prog 5 #[.slice a len cap, .int .u32 (nm x)] w fun e w' => e = .returned (.bool true) ∧ Below w.heap.size w w' := by
  have hx0 := nm_lo x
  have hx1 := nm_hi x
  obtain ⟨s, HS⟩ : ∃ s : Nat, Hid ((nm x : Int) + 1 = (s : Int)) := ⟨x.toNat + 1, by show _ = _; rw [nm_eq]; omega⟩
  have hs := HS.out
  have HP : Hid (Parts w a len ps) := h.1
  have HL : Hid (len = ps.length) := h.1.1
  have HT : Hid (20 * ps.length + (ps.map List.length).sum ≤ 70368744177664) := h.2.2.2
  have hln : 20 * len ≤ 70368744177664 := by have := h.2.2.2; rw [HL.out]; omega
  have hs1 : 1 ≤ s := by omega
  have hs2 : s ≤ 4294967296 := by omega
  clear h
  go_enter Try.func5, Try.ntmps5
  go_wp2_with fail
  refine (lay_any _ _ _ ps s _ HP.out hs1 (by omega) HT.out).mono ?_
  rintro e w1 ⟨hB1, hr⟩
  rcases hr with ⟨_, rfl⟩ | ⟨hf, v, rfl, hown⟩
  · go_wp2_with fail
    refine (alive_any _).mono ?_
    rintro e w2 ⟨rfl, hB2⟩
    have hB := hB1.trans (hB2.mono hB1.size)
    clear hB1 hB2
    go_wp2
    go_ret
    exact ⟨rfl, hB⟩
  obtain ⟨va, vc, rfl, hby, hvc, hvm, _⟩ := own_bys hown
  have HBY : Hid (Bys w1 va (lays ps s).length (lays ps s)) := hby
  have HB1 : Hid (Below w.heap.size w w1) := hB1
  have HFT : Hid (fits ps) := hf
  have HLL : Hid ((lays ps s).length ≤ 70368744177664) := by show _ ≤ _; rw [lays_len]; exact HT.out
  have HVC : Hid ((lays ps s).length ≤ vc) := hvc
  have HVM : Hid (vc ≤ maxLen) := hvm
  have HSW : Hid ((Lit.int .i64 (s : Int)).wf = true) := WalkArith.wf_i64 (by omega)
  have HSW1 : Hid ((Lit.int .i64 ((s : Int) + 1)).wf = true) := WalkArith.wf_i64 (by omega)
  have HSC : Hid (scz (lays ps s) s = num ps s) := scz_lays ps s hs1 (by rw [← HL.out]; omega) hf
  have HSO : Hid (scz (lays ps s) ((s : Int) + 1) = []) := scz_other ps s hs1 (by rw [← HL.out]; omega) hf
  have HWD : Hid (wid (num ps s) = (lays ps s).length) := wid_num ps s
  obtain ⟨T, HTT⟩ : ∃ T, Hid (T = lays ps s) := ⟨_, rfl⟩
  rw [← HTT.out] at HBY HLL HVC HSC HSO HWD ⊢
  obtain ⟨n, HN⟩ : ∃ n, Hid (n = T.length) := ⟨_, rfl⟩
  rw [← HN.out] at HBY HLL HVC HWD ⊢
  have hn1 : n ≤ 70368744177664 := HLL.out
  clear hown hby hB1 hf hvc hvm
  go_wp2_with fail
  refine (scan_any _ _ _ T s _ HBY.out HVC.out HVM.out (by omega) HSW.out).mono ?_
  rintro e w2 ⟨v2, xs, rfl, hmap, hown2, hdat, hB2⟩
  rw [HSC.out] at hmap
  have hwd : wdF xs = n := by unfold wdF; rw [hmap]; exact HWD.out
  obtain ⟨hxl, hxi⟩ := xs_of hmap
  rw [num_len, ← HL.out] at hxl
  obtain ⟨ka, kc, rfl, hkc, hkm, hkf⟩ := own_frames hown2 hxl
  rw [hwd]
  have HKF : Hid (0 < len → ∃ g, ka = some ⟨g, 0, none⟩ ∧ g < w2.heap.size ∧ ∀ (i : Nat) (y : Fr), xs[i]? = some y → w2.cell? ⟨g, i * 2, none⟩ = some (.int .i64 y.s) ∧ w2.cell? ⟨g, i * 2 + 1, none⟩ = some (.slice (some ⟨y.g, 0, none⟩) y.d.length y.c)) := hkf
  have HXI : Hid (∀ (i : Nat) (y : Fr), xs[i]? = some y → (num ps s)[i]? = some (y.s, y.d)) := hxi
  have HXL : Hid (xs.length = len) := hxl
  have HDT : Hid (∀ y ∈ xs, dat w1.heap.size w2 y) := hdat
  have HB2 : Hid (Below w.heap.size w w2) := HB1.out.trans (hB2.mono HB1.out.size)
  have HBY2 : Hid (Bys w2 va n T) := HBY.out.later hB2 (Nat.le_refl _)
  clear hkf hxi hxl hdat hmap hwd hB2 hown2
  go_wp2_with fail
  go_loopw [45] (fun i wr => ∃ k : Nat, k ≤ len ∧ i = .int .i64 k ∧ Below w2.heap.size w2 wr) (fun i _ => len - (intOf i).toNat)
  case atStart => exact ⟨0, Nat.zero_le _, rfl, Below.refl _ _⟩
  case round =>
    obtain ⟨k, hk, rfl, hbr⟩ := hrel
    have HBR : Hid (Below w2.heap.size w2 wr) := hbr
    have HBw : Hid (Below w.heap.size w wr) := HB2.out.trans (hbr.mono HB2.out.size)
    clear hbr
    by_cases hlt : k < len
    · obtain ⟨b, off, rfl, hb, hc⟩ := HP.out.2 (by omega)
      obtain ⟨pa, pl, pc, hck, hBp, hpm⟩ := hc k hlt
      have hck2 := (HBw.out.cell (p := ⟨b, off + k, none⟩) hb).trans hck
      obtain ⟨g, rfl, hg, hgc⟩ := HKF.out (by omega)
      obtain ⟨y, hy⟩ : ∃ y, xs[k]? = some y := ⟨_, List.getElem?_eq_getElem (by rw [HXL.out]; exact hlt)⟩
      obtain ⟨hy0, hy1⟩ := hgc k y hy
      have hyn := HXI.out k y hy
      rw [num_at ps s k (by rw [← HL.out]; exact hlt)] at hyn
      simp only [Option.some.injEq, Prod.mk.injEq] at hyn
      obtain ⟨hys, hyd⟩ := hyn
      obtain ⟨q, HQ⟩ : ∃ q, Hid (q = s + k) := ⟨_, rfl⟩
      have hqe : (s : Int) + (k : Int) = (q : Int) := by rw [HQ.out]; omega
      rw [← HQ.out] at hys
      obtain ⟨d, HD⟩ : ∃ d, Hid (d = ps.getD k []) := ⟨_, rfl⟩
      rw [← HD.out] at hyd hBp
      obtain ⟨_, hyc, hycm, cur, hyR, hyt⟩ := HDT.out y (List.mem_of_getElem? hy)
      rw [← hys] at hy0
      rw [← hyd] at hy1 hyt hyc
      have hbd : ∀ m, Bys (wr.drewN m) (some ⟨y.g, 0, none⟩) d.length d := fun m => (row_bys0 hyR d hyt).later (below_drewN HBR.out m) (Nat.le_refl _)
      have hbp : ∀ m, Bys (wr.drewN m) pa pl d := fun m => hBp.later (below_drewN HBw.out m) (Nat.le_refl _)
      have hcv1 : ∀ m, (convert 22 9 (.slice (some ⟨y.g, 0, none⟩) d.length y.c)).run Try.prog (wr.drewN m) = .ok (.string (mk d)) (wr.drewN m) := fun m => conv_bys (cap := y.c) (hbd m)
      have hcv2 : ∀ m, (convert 22 9 (.slice pa pl pc)).run Try.prog (wr.drewN m) = .ok (.string (mk d)) (wr.drewN m) := fun m => conv_bys (cap := pc) (hbp m)
      have hz0 : wr.cell? ⟨g, k * 2, none⟩ = some (.int .i64 q) := (HBR.out.cell (p := ⟨g, k * 2, none⟩) hg).trans hy0
      have hz1 : wr.cell? ⟨g, k * 2 + 1, none⟩ = some (.slice (some ⟨y.g, 0, none⟩) d.length y.c) := (HBR.out.cell (p := ⟨g, k * 2 + 1, none⟩) hg).trans hy1
      have hk2 : k * 2 ≤ 70368744177664 := by omega
      clear hc hck hBp hpm hgc hy hy0 hy1 hys hyd hyR hyt hbd hbp
      go_wp2_with fail
      go_quiet (fail)
      go_wp2
      go_roundw
      case rel => exact ⟨k + 1, by omega, by go_num, below_drewN HBR.out _⟩
      case measure => simp [intOf]; omega
    · have HBYr : Hid (Bys wr va n T) := HBY2.out.later HBR.out (Nat.le_refl _)
      clear HKF
      go_wp2_with fail
      refine (scan_any _ _ _ T ((s : Int) + 1) _ HBYr.out HVC.out HVM.out (by omega) HSW1.out).mono ?_
      rintro e w4 ⟨v4, ys, rfl, hmap4, hown4, hdat4, hB4⟩
      rw [HSO.out] at hmap4
      obtain rfl : ys = [] := List.map_eq_nil_iff.1 hmap4
      obtain ⟨la, lc, rfl, hlc4, hlm4, _⟩ := own_frames (n := 0) hown4 rfl
      rw [show wdF [] = 0 from rfl]
      have HB4 : Hid (Below w.heap.size w w4) := HBw.out.trans (hB4.mono HBw.out.size)
      clear hmap4 hown4 hdat4 hB4
      go_wp2_with fail
      refine (alive_any _).mono ?_
      rintro e w5 ⟨rfl, hB5⟩
      have hbel := HB4.out.trans (hB5.mono HB4.out.size)
      clear hB5 HB4
      go_wp2
      go_ret
      exact ⟨rfl, hbel⟩

end Go.Proofs.Ythmoapigjafijaa.Frm
