/- The walk of FrameTurned: of frames of which one byte was turned those ahead are got, and the one that has it is not. -/
import Derived.Test.YthmoapigjafijaaFrameClass
namespace Go.Proofs.Ythmoapigjafijaa.Frm
open Go.RowKit Crc
set_option linter.unusedSimpArgs false
set_option linter.unusedVariables false

theorem turn_at (z : Int) (n : Nat) (h0 : 0 < n) : ∃ (m : Int) (p : Nat), z.tmod (n : Int) = m ∧ -(n : Int) < m ∧ m < n ∧ p < n ∧ (m + n).tmod (n : Int) = (p : Int) := by
  have h1 := Int.tmod_lt_of_pos z (show 0 < (n : Int) by omega)
  have h2 := Int.lt_tmod_of_pos z (show 0 < (n : Int) by omega)
  generalize z.tmod (n : Int) = m at *
  have h3 := Int.tmod_lt_of_pos (m + n) (show 0 < (n : Int) by omega)
  have h4 := Int.tmod_nonneg (a := m + n) (n : Int) (by omega)
  exact ⟨m, ((m + n).tmod (n : Int)).toNat, rfl, by omega, by omega, by omega, by omega⟩
theorem byC_set (l : List UInt8) (p : Nat) (y : UInt8) : byC (l.set p y) = (byC l).set p (.int .u8 (nm (wd y))) := by
  unfold byC; rw [List.map_set]
theorem num_app_at (A : List (Nat × List UInt8)) (ps : List (List UInt8)) (k i : Nat) (Z : List (Nat × List UInt8)) (hk : k ≤ ps.length) (hi : i < k) : (num (ps.take k) 1 ++ Z)[i]? = some (1 + i, ps.getD i []) := by
  rw [List.getElem?_append_left (by rw [num_len, List.length_take]; omega), num_at _ _ _ (by rw [List.length_take]; omega), List.getD_eq_getElem?_getD, List.getElem?_take, if_pos hi, List.getD_eq_getElem?_getD]

set_option maxHeartbeats 2000000 in
theorem frameTurned_any (a : Option Addr) (len cap : Nat) (ps : List (List UInt8)) (z : Int) (d : UInt8) (w : World) (h : PArg w a len cap ps) (hz : (Lit.int .i64 z).wf = true) :
    Calls Try.prog 7 #[.slice a len cap, .int .i64 z, .int .u8 (nm (wd d))] w fun e w' => e = .returned (.bool true) ∧ Below w.heap.size w w' := by
  have hd0 := nm_lo (wd d)
  have hd1 := nm_wd_hi d
  have HP : Hid (Parts w a len ps) := h.1
  have HL : Hid (len = ps.length) := h.1.1
  have HT : Hid (20 * ps.length + (ps.map List.length).sum ≤ 70368744177664) := h.2.2.2
  have hln : 20 * len ≤ 70368744177664 := by have := h.2.2.2; rw [HL.out]; omega
  clear h
  go_enter Try.func7, Try.ntmps7
  go_wp2_with fail
  refine (lay_any _ _ _ ps 1 _ HP.out (by decide) (by omega) HT.out).mono ?_
  rintro e w1 ⟨hB1, hr⟩
  rcases hr with ⟨_, rfl⟩ | ⟨hf, v, rfl, hown⟩
  · go_wp2_with fail
    refine (alive_any _).mono ?_
    rintro e w2 ⟨rfl, hB2⟩
    have hB := hB1.trans (hB2.mono hB1.size)
    clear hB1 hB2
    go_wp2
    go_ret
    exact ⟨rfl, hB⟩
  obtain ⟨va, vc, rfl, hby, hvc, hvm, hvr⟩ := own_bys hown
  have HB1 : Hid (Below w.heap.size w w1) := hB1
  have HFT : Hid (fits ps) := hf
  have HLL : Hid ((lays ps 1).length ≤ 70368744177664) := by show _ ≤ _; rw [lays_len]; exact HT.out
  obtain ⟨n, HN⟩ : ∃ n, Hid (n = (lays ps 1).length) := ⟨_, rfl⟩
  rw [← HN.out] at HLL hvc hvr ⊢
  have HVM : Hid (vc ≤ maxLen) := hvm
  have hn1 : n ≤ 70368744177664 := HLL.out
  clear hown hby hB1 hf hvm
  by_cases h0 : n = 0
  · have h0' : ((n : Int) == 0) = true := by simp [h0]
    clear h0 hvr
    go_wp2_with fail
    refine (alive_any _).mono ?_
    rintro e w2 ⟨rfl, hB2⟩
    have hB := HB1.out.trans (hB2.mono HB1.out.size)
    clear hB2
    go_wp2
    go_ret
    exact ⟨rfl, hB⟩
  have h0' : ((n : Int) == 0) = false := by simp; omega
  obtain ⟨g, cur, rfl, hgB, hRg, htk⟩ := hvr (by omega)
  have HGB : Hid (w.heap.size ≤ g) := hgB
  have HRG : Hid (Row w1 g 5 cur) := hRg
  have HTK : Hid (cur.take n = byC (lays ps 1)) := htk
  clear hgB hRg htk hvr
  by_cases hd : d = 0
  · have hd' : (nm (wd d) == 0) = true := by rw [hd, nm_wd]; rfl
    clear hd
    go_wp2_with fail
    refine (alive_any _).mono ?_
    rintro e w2 ⟨rfl, hB2⟩
    have hB := HB1.out.trans (hB2.mono HB1.out.size)
    clear hB2
    go_wp2
    go_ret
    exact ⟨rfl, hB⟩
  have hd' : (nm (wd d) == 0) = false := by
    rw [nm_wd, beq_eq_false_iff_ne]; intro c; exact hd (UInt8.toNat_inj.1 (by simpa using c))
  have HD : Hid (d ≠ 0) := hd
  clear hd
  obtain ⟨m, p, hm1, hm2, hm3, hp1, hp2⟩ := turn_at z n (by omega)
  go_upto_region 5 with fail
  have HS1 : Hid ((Lit.int .i64 (1 : Int)).wf = true) := by show _ = _; decide
  have hlen1 : len ≤ 70368744177664 := by omega
  go_wp2_with fail
  go_loop [9, 10] (fun u e => ∃ k E : Nat, k ≤ len ∧ u = .int .i64 k ∧ e = .int .i64 E ∧ E = (lays (ps.take k) 1).length ∧ E ≤ p) (fun u _ => len - (intOf u).toNat)
  case atStart => exact ⟨0, 0, Nat.zero_le _, rfl, rfl, rfl, Nat.zero_le _⟩
  case round =>
    obtain ⟨k, E, hk, rfl, rfl, hE, hEp⟩ := hrel
    have HE : Hid (E = (lays (ps.take k) 1).length) := hE
    clear hE
    have hlt : k < len := by
      by_cases hlt : k < len
      · exact hlt
      · exfalso
        have h1 := HE.out
        rw [List.take_of_length_le (by have := HL.out; omega), ← HN.out] at h1
        omega
    obtain ⟨b, off, rfl, hb, hc⟩ := HP.out.2 (by omega)
    obtain ⟨pa, pl, pc, hck0, hBp, hpm⟩ := hc k hlt
    have hck : w1.cell? ⟨b, off + k, none⟩ = some (.slice pa pl pc) := (HB1.out.cell (p := ⟨b, off + k, none⟩) hb).trans hck0
    have HBP : Hid (Bys w pa pl (ps.getD k [])) := hBp
    have hpl2 : pl ≤ 262144 := by
      have := HFT.out _ (getD_mem (ps := ps) (k := k) (by rw [← HL.out]; exact hlt))
      rw [hBp.1]; exact this
    have HPL : Hid (pl = (ps.getD k []).length) := hBp.1
    have HC : Hid (∀ i, i < len → ∃ pa pl pc, w.cell? ⟨b, off + i, none⟩ = some (.slice pa pl pc) ∧ Bys w pa pl (ps.getD i []) ∧ pl ≤ maxLen) := hc
    have hckw : Hid (w.cell? ⟨b, off + k, none⟩ = some (.slice pa pl pc)) := hck0
    clear hc hck0 hBp hpm
    by_cases hle : E + (pl + 20) ≤ p
    · have HNX : Hid (_ = _) := lays_step ps k (by rw [← HL.out]; exact hlt)
      rw [← HPL.out, ← HE.out] at HNX
      have hd1 : decide ((k : Int) < (len : Int)) = true := decide_eq_true (by omega)
      have hd2 : decide ((E : Int) + (pl : Int) + 20 ≤ (p : Int)) = true := decide_eq_true (by omega)
      go_wp2
      go_round
      case rel => exact ⟨k + 1, E + (pl + 20), by omega, by go_num, by go_num, HNX.out.symm, by omega⟩
      case measure => simp [intOf]; omega
    · have hd1 : decide ((k : Int) < (len : Int)) = true := decide_eq_true (by omega)
      have hd2 : decide ((E : Int) + (pl : Int) + 20 ≤ (p : Int)) = false := decide_eq_false (by omega)
      obtain ⟨T, HTT⟩ : ∃ T, Hid (T = lays ps 1) := ⟨_, rfl⟩
      rw [← HTT.out] at HTK HN
      obtain ⟨x, HX⟩ : ∃ x, Hid (x = T.getD p 0) := ⟨_, rfl⟩
      obtain ⟨y, HY⟩ : ∃ y, Hid (y = x ^^^ d) := ⟨_, rfl⟩
      have hxy : bits .xor .u8 (nm (wd x)) (nm (wd d)) = nm (wd y) := by rw [xor_byte, HY.out]
      have hx0 := nm_lo (wd x)
      have hx1 := nm_wd_hi x
      have hy0 := nm_lo (wd y)
      have hy1 := nm_wd_hi y
      have hcx : w1.cell? ⟨g, p, none⟩ = some (.int .u8 (nm (wd x))) := by
        rw [HRG.out.cell, HX.out, ← byC_at T p (by rw [← HN.out]; exact hp1), ← HTK.out, List.getElem?_take, if_pos hp1]
      have hfx := HRG.out.free p
      obtain ⟨Z, hZ, hZ2⟩ := turned_facts ps k p y HFT.out (by rw [← HL.out]; omega) (by rw [← HL.out]; exact hlt) (by rw [← HE.out]; exact hEp) (by rw [← HE.out, ← HPL.out]; omega) (by rw [← HTT.out, ← HX.out, HY.out]; exact xor_ne _ _ HD.out)
      rw [← HTT.out] at hZ
      have HZ : Hid (scz (T.set p y) 1 = num (ps.take k) 1 ++ Z) := hZ
      have HZ2 : Hid (Z = [] ∨ ∃ d r, Z = (1 + k, d) :: r ∧ d ≠ ps.getD k []) := hZ2
      have HR2 : Hid (Row (w1.setCell ⟨g, p, none⟩ (.int .u8 (nm (wd y)))) g 5 (cur.set p (.int .u8 (nm (wd y))))) := HRG.out.set p _
      have HBy2 : Hid (Bys (w1.setCell ⟨g, p, none⟩ (.int .u8 (nm (wd y)))) (some ⟨g, 0, none⟩) n (T.set p y)) := by
        have h := row_bys0 HR2.out (T.set p y) (by rw [List.length_set, ← HN.out, List.take_set, HTK.out, byC_set])
        rwa [List.length_set, ← HN.out] at h
      have HB2 : Hid (Below w.heap.size w (w1.setCell ⟨g, p, none⟩ (.int .u8 (nm (wd y))))) := HB1.out.setCell (p := ⟨g, p, none⟩) HGB.out _
      clear hZ hZ2
      go_wp2_with fail
      refine (scan_any _ _ _ (T.set p y) 1 _ HBy2.out hvc HVM.out (by omega) HS1.out).mono ?_
      rintro e w3 ⟨v3, xs, rfl, hmap, hown3, hdat, hB3⟩
      have HB3 : Hid (Below w.heap.size w w3) := HB2.out.trans (hB3.mono HB2.out.size)
      clear hcx hfx hxy hck
      rw [HZ.out] at hmap
      obtain ⟨hxl, hxi⟩ := xs_of hmap
      have HXI : Hid (∀ (i : Nat) (y : Fr), xs[i]? = some y → (num (ps.take k) 1 ++ Z)[i]? = some (y.s, y.d)) := hxi
      obtain ⟨K, HK⟩ : ∃ K, Hid (K = k + Z.length) := ⟨_, rfl⟩
      have hxl' : xs.length = K := by rw [hxl, List.length_append, num_len, List.length_take, HK.out, ← HL.out]; omega
      have hkK : k ≤ K := by rw [HK.out]; omega
      obtain ⟨ka, kc, rfl, hkc, hkm, hkf⟩ := own_frames hown3 hxl'
      have HKF : Hid (0 < K → ∃ g, ka = some ⟨g, 0, none⟩ ∧ g < w3.heap.size ∧ ∀ (i : Nat) (y : Fr), xs[i]? = some y → w3.cell? ⟨g, i * 2, none⟩ = some (.int .i64 y.s) ∧ w3.cell? ⟨g, i * 2 + 1, none⟩ = some (.slice (some ⟨y.g, 0, none⟩) y.d.length y.c)) := hkf
      have HXL : Hid (xs.length = K) := hxl'
      have HDT : Hid (∀ t ∈ xs, dat (w1.setCell ⟨g, p, none⟩ (.int .u8 (nm (wd y)))).heap.size w3 t) := hdat
      have hKm : K ≤ 9223372036854775807 := by unfold maxLen at hkm; omega
      obtain ⟨wq, HWQ⟩ : ∃ wq, Hid (wq = wdF xs) := ⟨_, rfl⟩
      rw [← HWQ.out]
      have hd3 : decide ((K : Int) < (k : Int)) = false := decide_eq_false (by omega)
      have hnlt : ¬ K < k := by omega
      clear hmap hxl hxi hxl' hkf hown3 hdat hB3
      go_wp2_with fail
      go_loopw [84] (fun i wr => ∃ j : Nat, j ≤ k ∧ i = .int .i64 j ∧ Below w3.heap.size w3 wr) (fun i _ => k - (intOf i).toNat)
      case atStart => exact ⟨0, Nat.zero_le _, rfl, Below.refl _ _⟩
      case round =>
        obtain ⟨j, hj, rfl, hbr⟩ := hrel
        have HBR : Hid (Below w3.heap.size w3 wr) := hbr
        have HBw : Hid (Below w.heap.size w wr) := HB3.out.trans (hbr.mono HB3.out.size)
        clear hbr
        by_cases hjk : j < k
        · obtain ⟨qa, ql, qc, hcj, hBj, hjm⟩ := HC.out j (by omega)
          have hcj2 := (HBw.out.cell (p := ⟨b, off + j, none⟩) hb).trans hcj
          obtain ⟨gk, rfl, hgk, hgc⟩ := HKF.out (by omega)
          obtain ⟨yy, hyy⟩ : ∃ yy, xs[j]? = some yy := ⟨_, List.getElem?_eq_getElem (by rw [HXL.out]; omega)⟩
          obtain ⟨hy0', hy1'⟩ := hgc j yy hyy
          have hyn := HXI.out j yy hyy
          rw [num_app_at [] ps k j Z (by rw [← HL.out]; omega) hjk] at hyn
          simp only [Option.some.injEq, Prod.mk.injEq] at hyn
          obtain ⟨_, hyd⟩ := hyn
          obtain ⟨dd, HDD⟩ : ∃ dd, Hid (dd = ps.getD j []) := ⟨_, rfl⟩
          rw [← HDD.out] at hyd hBj
          obtain ⟨_, hyc, hycm, cur', hyR, hyt⟩ := HDT.out yy (List.mem_of_getElem? hyy)
          rw [← hyd] at hy1' hyt hyc
          have hbd : ∀ m, Bys (wr.drewN m) (some ⟨yy.g, 0, none⟩) dd.length dd := fun m => (row_bys0 hyR dd hyt).later (below_drewN HBR.out m) (Nat.le_refl _)
          have hbp : ∀ m, Bys (wr.drewN m) qa ql dd := fun m => hBj.later (below_drewN HBw.out m) (Nat.le_refl _)
          have hcv1 : ∀ m, (convert 22 9 (.slice (some ⟨yy.g, 0, none⟩) dd.length yy.c)).run Try.prog (wr.drewN m) = .ok (.string (mk dd)) (wr.drewN m) := fun m => conv_bys (cap := yy.c) (hbd m)
          have hcv2 : ∀ m, (convert 22 9 (.slice qa ql qc)).run Try.prog (wr.drewN m) = .ok (.string (mk dd)) (wr.drewN m) := fun m => conv_bys (cap := qc) (hbp m)
          have hz1 : wr.cell? ⟨gk, j * 2 + 1, none⟩ = some (.slice (some ⟨yy.g, 0, none⟩) dd.length yy.c) := (HBR.out.cell (p := ⟨gk, j * 2 + 1, none⟩) hgk).trans hy1'
          have hj2 : j * 2 ≤ 70368744177664 := by omega
          clear hcj hBj hjm hgc hyy hy0' hy1' hyd hyR hyt hbd hbp
          go_wp2_with fail
          go_quiet (fail)
          go_wp2
          go_roundw
          case rel => exact ⟨j + 1, by omega, by go_num, below_drewN HBR.out _⟩
          case measure => simp [intOf]; omega
        · rcases HZ2.out with hZ0 | ⟨dz, rz, hZ1, hdz⟩
          · have HKk : Hid (K = k) := by show _ = _; rw [HK.out, hZ0]; rfl
            have heq : ((K : Int) == (k : Int)) = true := by rw [HKk.out]; simp
            clear hZ0
            go_upto_region 19 with fail
            have hNE : Nonempty (QW wr) := ⟨⟨wr, Below.refl _ _⟩⟩
            refine wp_region_class (by kernel_rfl) (by kernel_rfl) ?_
            repeat (go_big_quiet_step ((go_at_call 12; refine calls_class _ (alive_any _))))
            refine wpQuiet_nil ?_
            intro _ hw'
            obtain ⟨q, hw''⟩ := hw'
            subst hw''
            have hbel := HBw.out.trans (q.h.mono HBw.out.size)
            go_wp2
            go_ret
            exact ⟨rfl, hbel⟩
          · have heq : ((K : Int) == (k : Int)) = false := by rw [beq_eq_false_iff_ne]; have h1 := HK.out; rw [hZ1, List.length_cons] at h1; omega
            have hkK2 : k < K := by have h1 := HK.out; rw [hZ1, List.length_cons] at h1; omega
            obtain ⟨gk, rfl, hgk, hgc⟩ := HKF.out (by omega)
            obtain ⟨yy, hyy⟩ : ∃ yy, xs[k]? = some yy := ⟨_, List.getElem?_eq_getElem (by rw [HXL.out]; omega)⟩
            obtain ⟨hy0', hy1'⟩ := hgc k yy hyy
            have hyn := HXI.out k yy hyy
            rw [List.getElem?_append_right (by rw [num_len, List.length_take, ← HL.out]; omega), num_len, List.length_take, ← HL.out, Nat.min_eq_left (by omega), Nat.sub_self, hZ1, List.getElem?_cons_zero] at hyn
            simp only [Option.some.injEq, Prod.mk.injEq] at hyn
            obtain ⟨_, hyd⟩ := hyn
            obtain ⟨dd, HDD⟩ : ∃ dd, Hid (dd = ps.getD k []) := ⟨_, rfl⟩
            rw [← HDD.out] at hdz HBP
            obtain ⟨_, hyc, hycm, cur', hyR, hyt⟩ := HDT.out yy (List.mem_of_getElem? hyy)
            rw [← hyd] at hy1' hyt hyc
            have hcv1 : ∀ q : QW wr, (convert 22 9 (.slice (some ⟨yy.g, 0, none⟩) dz.length yy.c)).run Try.prog q.w = .ok (.string (mk dz)) q.w := fun q => conv_bys (cap := yy.c) ((row_bys0 hyR dz hyt).later (HBR.out.trans (q.h.mono HBR.out.size)) (Nat.le_refl _))
            have hcv2 : ∀ q : QW wr, (convert 22 9 (.slice pa pl pc)).run Try.prog q.w = .ok (.string (mk dd)) q.w := fun q => conv_bys (cap := pc) (HBP.out.later (HBw.out.trans (q.h.mono HBw.out.size)) (Nat.le_refl _))
            have hz1 : ∀ q : QW wr, q.w.cell? ⟨gk, k * 2 + 1, none⟩ = some (.slice (some ⟨yy.g, 0, none⟩) dz.length yy.c) := fun q => ((HBR.out.trans (q.h.mono HBR.out.size)).cell (p := ⟨gk, k * 2 + 1, none⟩) hgk).trans hy1'
            have hz2 : ∀ q : QW wr, q.w.cell? ⟨b, off + k, none⟩ = some (.slice pa pl pc) := fun q => (((HB3.out.trans (HBR.out.mono HB3.out.size)).trans (q.h.mono HBw.out.size)).cell (p := ⟨b, off + k, none⟩) hb).trans hckw.out
            have hne : ((mk dz).toList == (mk dd).toList) = false := by rw [mk_toList, mk_toList, beq_eq_false_iff_ne]; exact hdz
            have hk2 : k * 2 ≤ 70368744177664 := by omega
            clear hgc hyy hy0' hy1' hyd hyR hyt hZ1 hdz
            go_upto_region 19 with fail
            have hNE : Nonempty (QW wr) := ⟨⟨wr, Below.refl _ _⟩⟩
            refine wp_region_class (by kernel_rfl) (by kernel_rfl) ?_
            repeat (go_big_quiet_step ((go_at_call 12; refine calls_class _ (alive_any _))))
            refine wpQuiet_nil ?_
            intro _ hw'
            obtain ⟨q, hw''⟩ := hw'
            subst hw''
            have hbel := HBw.out.trans (q.h.mono HBw.out.size)
            clear hcv1 hcv2 hz1 hz2
            go_wp2
            go_ret
            exact ⟨rfl, hbel⟩

end Go.Proofs.Ythmoapigjafijaa.Frm
