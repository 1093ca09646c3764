/- The walk of FrameCut: frames that are cut off anywhere are those that are whole. -/
import Derived.Test.YthmoapigjafijaaFrameBack
namespace Go.Proofs.Ythmoapigjafijaa.Frm
open Go.RowKit Crc
set_option linter.unusedSimpArgs false
set_option linter.unusedVariables false

theorem lays_split (ps : List (List UInt8)) (k : Nat) (h : k ≤ ps.length) : lays ps 1 = lays (ps.take k) 1 ++ lays (ps.drop k) (1 + k) := by
  have h1 := lays_app (ps.take k) (ps.drop k) 1
  rwa [List.take_append_drop, List.length_take, Nat.min_eq_left h] at h1
theorem fits_take {ps : List (List UInt8)} (h : fits ps) (k : Nat) : fits (ps.take k) := fun d hd => h d (List.mem_of_mem_take hd)
theorem lays_drop (ps : List (List UInt8)) (k s : Nat) (h : k < ps.length) : lays (ps.drop k) s = frm s (ps.getD k []) ++ lays (ps.drop (k + 1)) (s + 1) := by
  rw [List.drop_eq_getElem_cons h, lays, List.getD_eq_getElem?_getD, List.getElem?_eq_getElem h]
  rfl
theorem getD_mem {ps : List (List UInt8)} {k : Nat} (h : k < ps.length) : ps.getD k [] ∈ ps := by
  rw [List.getD_eq_getElem?_getD, List.getElem?_eq_getElem h]
  exact List.getElem_mem _
/-- what is cut off behind k frames -/
theorem cut_facts (ps : List (List UInt8)) (k p : Nat) (hf : fits ps) (hl : 1 + ps.length ≤ 4611686018427387904) (hk : k ≤ ps.length) (hp : (lays (ps.take k) 1).length ≤ p) (hpl : p ≤ (lays ps 1).length)
    (hex : k = ps.length ∨ p < (lays (ps.take k) 1).length + (20 + (ps.getD k []).length)) :
    scz ((lays ps 1).take p) 1 = num (ps.take k) 1 ∧ nxtE (cut (lays ps 1) (lays (ps.take k) 1).length p) = 4 := by
  have hs := lays_split ps k hk
  have htk : (ps.take k).length = k := by rw [List.length_take]; omega
  have hcut : cut (lays ps 1) (lays (ps.take k) 1).length p = (lays (ps.drop k) (1 + k)).take (p - (lays (ps.take k) 1).length) := by
    unfold cut
    rw [List.drop_take, hs, List.drop_left]
  have hR : nxtE ((lays (ps.drop k) (1 + k)).take (p - (lays (ps.take k) 1).length)) = 4 := by
    by_cases hkl : k = ps.length
    · rw [hkl, List.drop_length, lays, List.take_nil]; exact nxt_nil
    · have hk2 : k < ps.length := by omega
      rcases hex with h | h
      · exact absurd h hkl
      · rw [lays_drop ps k _ hk2, List.take_append_of_le_length (by rw [frm_len]; omega)]
        exact nxt_cut (1 + k) _ _ (by omega) (by unfold maxSeq; omega) (hf _ (getD_mem hk2)) (by omega)
  refine ⟨?_, by rw [hcut]; exact hR⟩
  have ht : (lays ps 1).take p = lays (ps.take k) 1 ++ (lays (ps.drop k) (1 + k)).take (p - (lays (ps.take k) 1).length) := by
    conv => lhs; rw [hs]
    rw [List.take_append, List.take_of_length_le hp]
  unfold scz
  rw [if_neg (by decide), ht]
  exact scn_lays (ps.take k) 1 _ (by decide) (by unfold maxSeq; rw [htk]; omega) (fits_take hf k) (scn_none _ _ (.inl (by rw [hR]; decide)))
theorem lays_step (ps : List (List UInt8)) (k : Nat) (h : k < ps.length) : (lays (ps.take (k + 1)) 1).length = (lays (ps.take k) 1).length + ((ps.getD k []).length + 20) := by
  rw [lays_take ps 1 k h, List.length_append, frm_len]; omega
theorem lays_take_le2 (ps : List (List UInt8)) (k : Nat) (h : k ≤ ps.length) : (lays (ps.take k) 1).length ≤ (lays ps 1).length := by
  rw [lays_split ps k h, List.length_append]; omega
/-- a place within n and 1 -/
theorem cut_place (z : Int) (n : Nat) (hn : n ≤ 70368744177664) : ∃ (m : Int) (p : Nat), z.tmod ((n : Int) + 1) = m ∧ -(n : Int) ≤ m ∧ m ≤ n ∧ p ≤ n ∧ (m + n + 1).tmod ((n : Int) + 1) = (p : Int) := by
  have h1 := Int.tmod_lt_of_pos z (show 0 < (n : Int) + 1 by omega)
  have h2 := Int.lt_tmod_of_pos z (show 0 < (n : Int) + 1 by omega)
  generalize z.tmod ((n : Int) + 1) = m at *
  have h3 := Int.tmod_lt_of_pos (m + n + 1) (show 0 < (n : Int) + 1 by omega)
  have h4 := Int.tmod_nonneg (a := m + n + 1) ((n : Int) + 1) (by omega)
  exact ⟨m, ((m + n + 1).tmod ((n : Int) + 1)).toNat, rfl, by omega, by omega, by omega, by omega⟩

set_option maxHeartbeats 2000000 in
theorem frameCut_any (a : Option Addr) (len cap : Nat) (ps : List (List UInt8)) (z : Int) (w : World) (h : PArg w a len cap ps) (hz : (Lit.int .i64 z).wf = true) :
    Calls Try.prog 6 #[.slice a len cap, .int .i64 z] w fun e w' => e = .returned (.bool true) ∧ Below w.heap.size w w' := by
  have HP : Hid (Parts w a len ps) := h.1
  have HL : Hid (len = ps.length) := h.1.1
  have HT : Hid (20 * ps.length + (ps.map List.length).sum ≤ 70368744177664) := h.2.2.2
  have hln : 20 * len ≤ 70368744177664 := by have := h.2.2.2; rw [HL.out]; omega
  clear h
  go_enter Try.func6, Try.ntmps6
  go_wp2_with fail
  refine (lay_any _ _ _ ps 1 _ HP.out (by decide) (by omega) HT.out).mono ?_
  rintro e w1 ⟨hB1, hr⟩
  rcases hr with ⟨_, rfl⟩ | ⟨hf, v, rfl, hown⟩
  · go_wp2_with fail
    refine (alive_any _).mono ?_
    rintro e w2 ⟨rfl, hB2⟩
    have hB := hB1.trans (hB2.mono hB1.size)
    clear hB1 hB2
    go_wp2
    go_ret
    exact ⟨rfl, hB⟩
  obtain ⟨va, vc, rfl, hby, hvc, hvm, hvr⟩ := own_bys hown
  have HVR : Hid (0 < (lays ps 1).length → ∃ g cur, va = some ⟨g, 0, none⟩ ∧ w.heap.size ≤ g ∧ Row w1 g 5 cur ∧ cur.take (lays ps 1).length = byC (lays ps 1)) := hvr
  have HBY : Hid (Bys w1 va (lays ps 1).length (lays ps 1)) := hby
  have HB1 : Hid (Below w.heap.size w w1) := hB1
  have HFT : Hid (fits ps) := hf
  have HLL : Hid ((lays ps 1).length ≤ 70368744177664) := by show _ ≤ _; rw [lays_len]; exact HT.out
  have HVC : Hid ((lays ps 1).length ≤ vc) := hvc
  have HVM : Hid (vc ≤ maxLen) := hvm
  obtain ⟨n, HN⟩ : ∃ n, Hid (n = (lays ps 1).length) := ⟨_, rfl⟩
  rw [← HN.out] at HBY HLL HVC ⊢
  have hn1 : n ≤ 70368744177664 := HLL.out
  have hvc1 : n ≤ vc := HVC.out
  have hvm1 : vc ≤ 9223372036854775807 := HVM.out
  obtain ⟨m, p, hm1, hm2, hm3, hp1, hp2⟩ := cut_place z n hn1
  clear hown hby hB1 hf hvc hvm hvr
  go_upto_region 5 with fail
  have HS1 : Hid ((Lit.int .i64 (1 : Int)).wf = true) := by show _ = _; decide
  have hlen1 : len ≤ 70368744177664 := by omega
  go_wp2_with fail
  go_loop [7, 8] (fun u e => ∃ k E : Nat, k ≤ len ∧ u = .int .i64 k ∧ e = .int .i64 E ∧ E = (lays (ps.take k) 1).length ∧ E ≤ p) (fun u _ => len - (intOf u).toNat)
  case atStart => exact ⟨0, 0, Nat.zero_le _, rfl, rfl, rfl, Nat.zero_le _⟩
  case round =>
    obtain ⟨k, E, hk, rfl, rfl, hE, hEp⟩ := hrel
    have HE : Hid (E = (lays (ps.take k) 1).length) := hE
    clear hE
    have hgo : (k < len ∧ ∃ b off pa pl pc, a = some ⟨b, off, none⟩ ∧ w1.cell? ⟨b, off + k, none⟩ = some (.slice pa pl pc) ∧ pl = (ps.getD k []).length ∧ pl ≤ 262144) ∨ k = len := by
      by_cases hlt : k < len
      · left
        obtain ⟨b, off, rfl, hb, hc⟩ := HP.out.2 (by omega)
        obtain ⟨pa, pl, pc, hck, hBp, hpm⟩ := hc k hlt
        refine ⟨hlt, b, off, pa, pl, pc, rfl, (HB1.out.cell (p := ⟨b, off + k, none⟩) hb).trans hck, hBp.1, ?_⟩
        have := HFT.out _ (getD_mem (ps := ps) (k := k) (by rw [← HL.out]; exact hlt))
        rw [hBp.1]; exact this
      · right; omega
    by_cases hgo2 : k < len ∧ E + ((ps.getD k []).length + 20) ≤ p
    · obtain ⟨hlt, hle⟩ := hgo2
      rcases hgo with ⟨_, b, off, pa, pl, pc, rfl, hck, hpl, hpl2⟩ | h
      · rw [← hpl] at hle
        have HNX : Hid (_ = _) := lays_step ps k (by rw [← HL.out]; exact hlt)
        rw [← hpl, ← HE.out] at HNX
        have hd1 : decide ((k : Int) < (len : Int)) = true := decide_eq_true (by omega)
        have hd2 : decide ((E : Int) + (pl : Int) + 20 ≤ (p : Int)) = true := decide_eq_true (by omega)
        clear hpl
        go_wp2
        go_round
        case rel => exact ⟨k + 1, E + (pl + 20), by omega, by go_num, by go_num, HNX.out.symm, by omega⟩
        case measure => simp [intOf]; omega
      · omega
    · have hexit : k = ps.length ∨ p < E + (20 + (ps.getD k []).length) := by
        have := HL.out
        omega
      obtain ⟨T, HTT⟩ : ∃ T, Hid (T = lays ps 1) := ⟨_, rfl⟩
      obtain ⟨hsc, hne⟩ := cut_facts ps k p HFT.out (by rw [← HL.out]; omega) (by rw [← HL.out]; exact hk) (by rw [← HE.out]; exact hEp) (by rw [← HN.out]; exact hp1) (by rw [← HE.out]; exact hexit)
      rw [← HE.out, ← HTT.out] at hne
      rw [← HTT.out] at hsc
      have HSC : Hid (scz (T.take p) 1 = num (ps.take k) 1) := hsc
      have HNE : Hid (nxtE (cut T E p) = 4) := hne
      have HWD : Hid (wid (num (ps.take k) 1) = E) := by show _ = _; rw [wid_num]; exact HE.out.symm
      have HKL : Hid ((num (ps.take k) 1).length = k) := by show _ = _; rw [num_len, List.length_take, ← HL.out]; omega
      have HBT : Hid (Bys w1 va p (T.take p)) := by rw [HTT.out]; exact bys_take HBY.out p hp1
      have hway : (k < len ∧ ∃ b off pa pl pc, a = some ⟨b, off, none⟩ ∧ w1.cell? ⟨b, off + k, none⟩ = some (.slice pa pl pc) ∧ pl ≤ 262144 ∧ p < E + (pl + 20)) ∨ k = len := by
        rcases hgo with ⟨h1, b, off, pa, pl, pc, h2, h3, h4, h5⟩ | h
        · have h6 := HL.out
          exact .inl ⟨h1, b, off, pa, pl, pc, h2, h3, h5, by omega⟩
        · exact .inr h
      clear hgo hgo2 hexit hsc hne
      rcases hway with ⟨hlt, b, off, pa, pl, pc, rfl, hck, hpl2, hlt2⟩ | hkl
      · have hd1 : decide ((k : Int) < (len : Int)) = true := decide_eq_true (by omega)
        have hd2 : decide ((E : Int) + (pl : Int) + 20 ≤ (p : Int)) = false := decide_eq_false (by omega)
        go_wp2_with fail
        refine (scan_any _ _ _ (T.take p) 1 _ HBT.out (by omega) HVM.out (by omega) HS1.out).mono ?_
        rintro e w2 ⟨v2, xs, rfl, hmap, hown2, hdat, hB2⟩
        rw [HSC.out] at hmap
        have hwd : wdF xs = E := by unfold wdF; rw [hmap]; exact HWD.out
        have hxl : xs.length = k := by rw [(xs_of hmap).1]; exact HKL.out
        obtain ⟨ka, kc, rfl, hkc, hkm, _⟩ := own_frames hown2 hxl
        rw [hwd]
        have HB2 : Hid (Below w.heap.size w w2) := HB1.out.trans (hB2.mono HB1.out.size)
        have HBN : Hid (Bys w2 va n T) := by rw [HTT.out]; exact HBY.out.later hB2 (Nat.le_refl _)
        clear hmap hown2 hdat hB2 hwd hxl
        obtain ⟨P, hP⟩ : ∃ P : Option Addr, (if vc = E then va else Option.map (fun x => x.add E) va) = P := ⟨_, rfl⟩
        have HBP : Hid (Bys w2 P (p - E) (cut T E p)) := bys_cut HBN.out E p hEp hp1 P (fun hlt' b' off' e' => by rw [← hP, if_neg (by omega), e']; simp only [Option.map_some, Addr.add_mid])
        go_wp2_with fail
        refine (next_err _ _ _ _ _ HBP.out (by omega) (by unfold maxLen; omega) 4 HNE.out (by decide)).mono ?_
        rintro e w3 ⟨rfl, hB3⟩
        unfold nul
        have HB3 : Hid (Below w.heap.size w (w3.alloc (.cells #[.int .i64 0, .slice none 0 0] 28))) := (HB2.out.trans (hB3.mono HB2.out.size)).alloc (Nat.le_trans HB2.out.size hB3.size) _
        clear hB3 hP
        go_wp2_with fail
        refine (alive_any _).mono ?_
        rintro e w4 ⟨rfl, hB4⟩
        have hbel := HB3.out.trans (hB4.mono HB3.out.size)
        clear hB4 HB3
        go_wp2
        go_ret
        exact ⟨rfl, hbel⟩
      · have hd1 : decide ((k : Int) < (len : Int)) = false := decide_eq_false (by omega)
        have hnlt : ¬ k < len := by omega
        clear hkl
        go_wp2_with fail
        refine (scan_any _ _ _ (T.take p) 1 _ HBT.out (by omega) HVM.out (by omega) HS1.out).mono ?_
        rintro e w2 ⟨v2, xs, rfl, hmap, hown2, hdat, hB2⟩
        rw [HSC.out] at hmap
        have hwd : wdF xs = E := by unfold wdF; rw [hmap]; exact HWD.out
        have hxl : xs.length = k := by rw [(xs_of hmap).1]; exact HKL.out
        obtain ⟨ka, kc, rfl, hkc, hkm, _⟩ := own_frames hown2 hxl
        rw [hwd]
        have HB2 : Hid (Below w.heap.size w w2) := HB1.out.trans (hB2.mono HB1.out.size)
        have HBN : Hid (Bys w2 va n T) := by rw [HTT.out]; exact HBY.out.later hB2 (Nat.le_refl _)
        clear hmap hown2 hdat hB2 hwd hxl
        obtain ⟨P, hP⟩ : ∃ P : Option Addr, (if vc = E then va else Option.map (fun x => x.add E) va) = P := ⟨_, rfl⟩
        have HBP : Hid (Bys w2 P (p - E) (cut T E p)) := bys_cut HBN.out E p hEp hp1 P (fun hlt' b' off' e' => by rw [← hP, if_neg (by omega), e']; simp only [Option.map_some, Addr.add_mid])
        go_wp2_with fail
        refine (next_err _ _ _ _ _ HBP.out (by omega) (by unfold maxLen; omega) 4 HNE.out (by decide)).mono ?_
        rintro e w3 ⟨rfl, hB3⟩
        unfold nul
        have HB3 : Hid (Below w.heap.size w (w3.alloc (.cells #[.int .i64 0, .slice none 0 0] 28))) := (HB2.out.trans (hB3.mono HB2.out.size)).alloc (Nat.le_trans HB2.out.size hB3.size) _
        clear hB3 hP
        go_wp2_with fail
        refine (alive_any _).mono ?_
        rintro e w4 ⟨rfl, hB4⟩
        have hbel := HB3.out.trans (hB4.mono HB3.out.size)
        clear hB4 HB3
        go_wp2
        go_ret
        exact ⟨rfl, hbel⟩

end Go.Proofs.Ythmoapigjafijaa.Frm
