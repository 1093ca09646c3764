/- The walk of DiskNobody: a disk that nobody made answers an error, and has nothing; bytes may be written over. -/
import Derived.Test.YteencknmfjegiaaDiskNob
namespace Go.Proofs.Yteencknmfjegiaa.Dsk
open Go Go.RowKit Go.Maps
set_option linter.unusedSimpArgs false
set_option linter.unusedVariables false

theorem byWorld (w : World) (D : List UInt8) : Below w.heap.size w (Lib.bytesWorld w 5 (str D)) ∧ ∃ cur f, RowF (Lib.bytesWorld w 5 (str D)) w.heap.size 5 cur f ∧ cur.take D.length = byC D ∧ D.length ≤ f := by
  refine ⟨⟨rfl, rfl, rfl, by rw [Lib.bytesWorld_size]; omega, fun k hk => Lib.bytesWorld_at_old w _ _ k hk⟩, (Lib.bytesCells w 5 (str D)).toList, (Lib.bytesCells w 5 (str D)).size, ⟨?_, by simp⟩, ?_, ?_⟩
  · have := Lib.bytesWorld_at_new w 5 (str D)
    simpa using this
  · have e : (Lib.bytesCells w 5 (str D)).toList = byC D ++ List.replicate (grownCap w (str D).size 0 5 - (str D).size) (.int .u8 0) := by
      simp [Lib.bytesCells, byC, str]
    rw [e, List.take_append_of_le_length (by rw [byC_len]; exact Nat.le_refl _), ← byC_len, List.take_length]
  · simp only [Lib.bytesCells, Array.size_append, Array.size_map]
    have : (str D).data.size = D.length := by simp [str]
    omega
theorem DiskAt.notF {w : World} {F : Nat → Prop} {d : Nat} {m : M} (h : DiskAt w F d m) : ¬ F w.heap.size := fun q => by have := h.lt _ q; omega
set_option maxRecDepth 100000 in
set_option maxHeartbeats 4000000 in
theorem diskNobody_any (r : Raw) (w : World) (hR : RawOk w r) :
    Calls Try.prog 8 #[.agg #[.int .u8 r.act.kind, .string (str r.act.nA), .string (str r.act.nB), .slice r.da r.dl r.dc, .int .i64 r.act.num, .slice r.ka r.kl r.kc]] w fun e w' => e = .returned (.bool true) ∧ Below w.heap.size w w' := by
  have HR : Hid (RawOk w r) := hR
  have hk := hR.kind
  obtain ⟨k, HK⟩ : ∃ x, Hid (x = r.act.kind) := ⟨_, rfl⟩
  obtain ⟨A, HA⟩ : ∃ x, Hid (x = str r.act.nA) := ⟨_, rfl⟩
  obtain ⟨B, HBB⟩ : ∃ x, Hid (x = str r.act.nB) := ⟨_, rfl⟩
  obtain ⟨n, HNN⟩ : ∃ x, Hid (x = r.act.num) := ⟨_, rfl⟩
  obtain ⟨da, HDA⟩ : ∃ x, Hid (x = r.da) := ⟨_, rfl⟩
  obtain ⟨dl, HDL⟩ : ∃ x, Hid (x = r.dl) := ⟨_, rfl⟩
  obtain ⟨dc, HDC⟩ : ∃ x, Hid (x = r.dc) := ⟨_, rfl⟩
  rw [← HK.out] at hk
  rw [← HK.out, ← HA.out, ← HBB.out, ← HNN.out, ← HDA.out, ← HDL.out, ← HDC.out]
  generalize r.ka = ka
  generalize r.kl = kl
  generalize r.kc = kc
  clear hR
  obtain ⟨W, HW⟩ : ∃ W, Hid (W = ((w.alloc (.cells #[.int .u8 k, .string A, .string B, .slice da dl dc, .int .i64 n, .slice ka kl kc] 40)).alloc (.cells #[.bool false, .bool false, .int .i64 0, .int .i64 0, .int .i64 0, .map none, .map none, .slice none 0 0] 69)).alloc (.cells #[.pointer none, .pointer (some ⟨w.heap.size + 1, 0, none⟩)] 25)) := ⟨_, rfl⟩
  go_enter Try.func8, Try.ntmps8
  go_wp2_with fail
  rw [← HW.out]
  obtain ⟨bx, HX⟩ : ∃ x, Hid (x = w.heap.size) := ⟨_, rfl⟩
  rw [← HX.out] at HW ⊢
  have HRX : Hid (Row W bx 40 [.int .u8 k, .string A, .string B, .slice da dl dc, .int .i64 n, .slice ka kl kc]) := by
    rw [HW.out, HX.out]
    refine Row.at_ (Row.mk w [.int .u8 k, .string A, .string B, .slice da dl dc, .int .i64 n, .slice ka kl kc] _) ?_
    rw [Below.heap_alloc _ _ _ (by simp; omega), Below.heap_alloc _ _ _ (by simp)]
  have HRU : Hid (Row W (bx + 1) 69 [.bool false, .bool false, .int .i64 0, .int .i64 0, .int .i64 0, .map none, .map none, .slice none 0 0]) := by
    rw [HW.out, HX.out]
    have h := Row.mk (w.alloc (.cells #[.int .u8 k, .string A, .string B, .slice da dl dc, .int .i64 n, .slice ka kl kc] 40)) [.bool false, .bool false, .int .i64 0, .int .i64 0, .int .i64 0, .map none, .map none, .slice none 0 0] 69
    rw [show (w.alloc (.cells #[.int .u8 k, .string A, .string B, .slice da dl dc, .int .i64 n, .slice ka kl kc] 40)).heap.size = w.heap.size + 1 by simp] at h
    exact h.at_ (Below.heap_alloc _ _ _ (by simp))
  have HRQ : Hid (Row W (bx + 1 + 1) 25 [.pointer none, .pointer (some ⟨bx + 1, 0, none⟩)]) := by
    rw [HW.out, HX.out]
    have h := Row.mk ((w.alloc (.cells #[.int .u8 k, .string A, .string B, .slice da dl dc, .int .i64 n, .slice ka kl kc] 40)).alloc (.cells #[.bool false, .bool false, .int .i64 0, .int .i64 0, .int .i64 0, .map none, .map none, .slice none 0 0] 69)) [.pointer none, .pointer (some ⟨w.heap.size + 1, 0, none⟩)] 25
    rw [show ((w.alloc (.cells #[.int .u8 k, .string A, .string B, .slice da dl dc, .int .i64 n, .slice ka kl kc] 40)).alloc (.cells #[.bool false, .bool false, .int .i64 0, .int .i64 0, .int .i64 0, .map none, .map none, .slice none 0 0] 69)).heap.size = w.heap.size + 1 + 1 by simp] at h
    exact h
  have HBW : Hid (Below w.heap.size w W) := by
    rw [HW.out]
    exact (((Below.refl _ w).alloc (Nat.le_refl _) _).alloc (by simp) _).alloc (by simp; omega) _
  clear HW
  go_loopw [21] (fun i wr => ∃ j : Nat, j ≤ 2 ∧ i = .int .i64 j ∧ Below W.heap.size W wr) (fun i _ => 2 - (intOf i).toNat)
  case atStart => exact ⟨0, Nat.zero_le _, rfl, Below.refl _ _⟩
  case round =>
    obtain ⟨j, hj, rfl, hB⟩ := hrel
    have HB : Hid (Below W.heap.size W wr) := hB
    clear hB
    have HRX1 : Hid (Row wr bx 40 [.int .u8 k, .string A, .string B, .slice da dl dc, .int .i64 n, .slice ka kl kc]) := HRX.out.at_ (HB.out.block _ HRX.out.lt)
    have x0 : wr.cell? ⟨bx, 0, none⟩ = some (.int .u8 k) := HRX1.out.cell 0
    have x1 : wr.cell? ⟨bx, 1, none⟩ = some (.string A) := HRX1.out.cell 1
    have x2 : wr.cell? ⟨bx, 2, none⟩ = some (.string B) := HRX1.out.cell 2
    have x3 : wr.cell? ⟨bx, 3, none⟩ = some (.slice da dl dc) := HRX1.out.cell 3
    have x4 : wr.cell? ⟨bx, 4, none⟩ = some (.int .i64 n) := HRX1.out.cell 4
    have x5 : wr.cell? ⟨bx, 5, none⟩ = some (.slice ka kl kc) := HRX1.out.cell 5
    by_cases hlt : j < 2
    · obtain ⟨v, hcv, hun⟩ : ∃ v, wr.cell? ⟨bx + 1 + 1, j, none⟩ = some v ∧ Un wr v := by
        have h1 := (HRQ.out.at_ (HB.out.block _ HRQ.out.lt)).cell j
        rcases (by omega : j = 0 ∨ j = 1) with q | q
        · rw [q] at h1 ⊢
          exact ⟨_, h1, .inl rfl⟩
        · rw [q] at h1 ⊢
          exact ⟨_, h1, .inr ⟨bx + 1, _, rfl, HRU.out.at_ (HB.out.block _ HRU.out.lt)⟩⟩
      have HUN : Hid (Un wr v) := hun
      clear hun
      by_cases h6 : k % 8 = 6
      · go_wp2_with (first
          | (go_at_call 25; refine (arm_un _ _ _ HUN.out).mono ?_; rintro e w' ⟨rfl, rfl⟩)
          | (go_at_call 23; refine (read_un _ _ _ HUN.out).mono ?_; rintro e w' ⟨rfl, rfl⟩)
          | (go_at_call 18; refine (names_un _ _ HUN.out).mono ?_; rintro e w' ⟨rfl, rfl⟩)
          | (go_at_call 20; refine (used_un _ _ HUN.out).mono ?_; rintro e w' ⟨rfl, rfl⟩)
          | (go_at_call 22; refine (calls_un _ _ HUN.out).mono ?_; rintro e w' ⟨rfl, rfl⟩)
          | (go_at_call 16; refine (on_un _ _ HUN.out).mono ?_; rintro e w' ⟨rfl, rfl⟩))
        go_roundw
        case rel => exact ⟨j + 1, by omega, by go_num, HB.out⟩
        case measure => simp [intOf]; omega
      · have hd := does_un v k hk A B da dl dc n ka kl kc wr HUN.out h6
        go_wp2_with fail
        refine hd.mono ?_
        rintro e w1 ⟨rfl, hB1⟩
        have HU1 : Hid (Un w1 v) := HUN.out.later hB1
        have y1 : w1.cell? ⟨bx, 1, none⟩ = some (.string A) := (hB1.cell (p := ⟨bx, 1, none⟩) HRX1.out.lt).trans x1
        have HB2 : Hid (Below W.heap.size W w1) := HB.out.trans (hB1.mono HB.out.size)
        clear hd x0 x1 x2 x3 x4 x5 hcv hB1
        go_wp2_with (first
          | (go_at_call 23; refine (read_un _ _ _ HU1.out).mono ?_; rintro e w' ⟨rfl, rfl⟩)
          | (go_at_call 18; refine (names_un _ _ HU1.out).mono ?_; rintro e w' ⟨rfl, rfl⟩)
          | (go_at_call 20; refine (used_un _ _ HU1.out).mono ?_; rintro e w' ⟨rfl, rfl⟩)
          | (go_at_call 22; refine (calls_un _ _ HU1.out).mono ?_; rintro e w' ⟨rfl, rfl⟩)
          | (go_at_call 16; refine (on_un _ _ HU1.out).mono ?_; rintro e w' ⟨rfl, rfl⟩))
        go_roundw
        case rel => exact ⟨j + 1, by omega, by go_num, HB2.out⟩
        case measure => simp [intOf]; omega
    · clear x0 x1 x2 x3 x4 x5 hk
      have hnew : Calls Try.prog 11 #[.int .i64 1048576] wr fun e w' => ∃ d F, e = .returned (.tuple #[.pointer (some ⟨d, 0, none⟩), .int .i64 0]) ∧ DiskAt w' F d (M.new 1048576) ∧ (∀ k, F k → wr.heap.size ≤ k) ∧ Below wr.heap.size wr w' := new_ok 1048576 wr (by decide)
      go_wp2_with fail
      refine hnew.mono ?_
      rintro e w1 ⟨d, F, rfl, hD1, hF1, hB1⟩
      have HD1 : Hid (DiskAt w1 F d (M.new 1048576)) := hD1
      have HB1 : Hid (Below W.heap.size W w1) := HB.out.trans (hB1.mono HB.out.size)
      have HBw : Hid (Below w.heap.size w w1) := HBW.out.trans (HB1.out.mono HBW.out.size)
      have HF1 : Hid (∀ k, F k → W.heap.size ≤ k ∧ k < w1.heap.size) := fun k hk => ⟨Nat.le_trans HB.out.size (hF1 k hk), hD1.lt k hk⟩
      have x3 : w1.cell? ⟨bx, 3, none⟩ = some (.slice da dl dc) := (HRX.out.at_ (HB1.out.block _ HRX.out.lt)).cell 3
      have HBY : Hid (Bys w1 da dl r.act.data) := by rw [HDA.out, HDL.out]; exact HR.out.data.later HBw.out
      clear hnew hD1 hF1 hB1 HB HRX1
      by_cases hbig : 100000 < dl
      · have hd : decide ((100000 : Int) < (dl : Int)) = true := decide_eq_true (by omega)
        go_wp2_with fail
        refine (alive_any _).mono ?_
        rintro e w2 ⟨rfl, hB2⟩
        have HBf : Hid (Below w.heap.size w w2) := HBw.out.trans (hB2.mono HBw.out.size)
        clear hB2
        go_wp2
        go_ret
        exact ⟨rfl, HBf.out⟩
      · have hd : decide ((100000 : Int) < (dl : Int)) = false := decide_eq_false (by omega)
        have hcv := conv_bys (cap := dc) HBY.out
        obtain ⟨D, HD⟩ : ∃ D, Hid (D = r.act.data) := ⟨_, rfl⟩
        rw [← HD.out] at hcv HBY
        have HLD : Hid (dl = D.length) := HBY.out.1
        obtain ⟨S, HS⟩ : ∃ S, Hid (S = str D) := ⟨_, rfl⟩
        rw [← HS.out] at hcv
        have hcb := Lib.run_convert_string_bytes (P := Try.prog) w1 9 37 5 S Try.underlying9 Try.underlying37 Try.underlying5
        obtain ⟨pc, HPC⟩ : ∃ c, Hid (c = grownCap w1 S.size 0 5) := ⟨_, rfl⟩
        obtain ⟨V, HV⟩ : ∃ V, Hid (V = Lib.bytesWorld w1 5 S) := ⟨_, rfl⟩
        have hSS : S.size = dl := by rw [HS.out, str_size, HLD.out]
        rw [← HPC.out, ← HV.out, hSS] at hcb
        have HCB : Hid (dl ≤ pc ∧ pc ≤ maxLen) := by
          rw [HPC.out, hSS]
          exact ⟨grownCap_ge _ _ _ _, grownCap_le_maxLen _ _ _ _ (by unfold maxLen; omega)⟩
        obtain ⟨hBV, cur, f, hRF, htk, hDf⟩ := byWorld w1 D
        rw [← HS.out, ← HV.out] at hBV hRF
        obtain ⟨p, HP⟩ : ∃ p, Hid (p = w1.heap.size) := ⟨_, rfl⟩
        rw [← HP.out] at hRF hcb
        rw [← HLD.out] at htk hDf
        have HDV : Hid (DiskAt V F d (M.new 1048576)) := HD1.out.below hBV
        have HNF : Hid (¬ F p) := by rw [HP.out]; exact HD1.out.notF
        have HBV : Hid (Below w.heap.size w V) := HBw.out.trans (hBV.mono HBw.out.size)
        have HFV : Hid (∀ k, F k → w.heap.size ≤ k) := fun k hk => Nat.le_trans HBW.out.size (HF1.out k hk).1
        have HRF : Hid (RowF V p 5 cur f) := hRF
        have HTK : Hid (cur.take dl = byC D) := htk
        have HDF : Hid (dl ≤ f) := hDf
        have HPW : Hid (w.heap.size ≤ p) := by rw [HP.out]; exact HBw.out.size
        have hcr := HDV.out.create (by decide) [120] (by unfold maxLen; decide)
        rw [nob1, show str [120] = ⟨#[120]⟩ from rfl] at hcr
        clear hBV hRF htk hDf
        go_wp2_with fail
        refine hcr.mono ?_
        rintro e w2 ⟨rfl, F2, hD2, hF2, hO2⟩
        have HD2 : Hid (DiskAt w2 F2 d (nobM [] 1)) := hD2
        have HNF2 : Hid (¬ F2 p) := fun q => (hF2 p q).elim HNF.out fun q => by have := HRF.out.lt; omega
        have HF2 : Hid (∀ k, F2 k → w.heap.size ≤ k) := fun k hk => (hF2 k hk).elim (HFV.out k) fun q => Nat.le_trans HBV.out.size q
        have HRF2 : Hid (RowF w2 p 5 cur f) := HRF.out.at_ (hO2.block p HRF.out.lt HNF.out)
        have HB2 : Hid (Below w.heap.size w w2) := HBV.out.trans (hO2.below HBV.out.size HFV.out)
        have hby2 : Bys w2 (some ⟨p, 0, none⟩) dl D := ⟨HLD.out, fun _ => ⟨p, 0, rfl, HRF2.out.lt, fun i hi => by
          rw [Nat.zero_add, HRF2.out.cell, ← byC_at D i (by rw [← HLD.out]; exact hi), ← HTK.out, List.getElem?_take, if_pos hi]⟩⟩
        have hap := HD2.out.append (by decide) [120] (by unfold maxLen; decide) (some ⟨p, 0, none⟩) dl pc D hby2 (by omega) (fun b off h => by cases h; exact HNF2.out)
        rw [nob2 D (by rw [← HLD.out]; omega), show str [120] = ⟨#[120]⟩ from rfl] at hap
        clear hcr hD2 hF2 hO2 hby2 hcv hcb x3
        go_wp2_with fail
        refine hap.mono ?_
        rintro e w3 ⟨rfl, F3, hD3, hF3, hO3⟩
        have HD3 : Hid (DiskAt w3 F3 d (nobM D 2)) := hD3
        have HNF3 : Hid (¬ F3 p) := fun q => (hF3 p q).elim HNF2.out fun q => by have := HRF2.out.lt; omega
        have HF3 : Hid (∀ k, F3 k → w.heap.size ≤ k) := fun k hk => (hF3 k hk).elim (HF2.out k) fun q => Nat.le_trans HB2.out.size q
        have HRF3 : Hid (RowF w3 p 5 cur f) := HRF2.out.at_ (hO3.block p HRF2.out.lt HNF2.out)
        have HB3 : Hid (Below w.heap.size w w3) := HB2.out.trans (hO3.below HB2.out.size HF2.out)
        have H8 : Hid (Bytes8 cur dl) := by
          have := bytes8_take (c := cur) (l := D) (by rw [← HLD.out]; exact HTK.out)
          rw [← HLD.out] at this
          exact this
        clear hap hD3 hF3 hO3 HRF2 HRF HD2 HDV HB2 HBV HNF2 HNF
        go_wp2_with fail
        go_loopw [101] (fun i wr => ∃ (m : Nat) (c : List Value), m ≤ dl ∧ i = .int .i64 m ∧ RowF wr p 5 c f ∧ Bytes8 c dl ∧ Only (· = p) w3 wr) (fun i _ => dl - (intOf i).toNat)
        case atStart => exact ⟨0, cur, Nat.zero_le _, rfl, HRF3.out, H8.out, Only.refl _ _⟩
        case round =>
          obtain ⟨m, c, hmm, rfl, hRc, h8, hOw⟩ := hrel
          have HRc : Hid (RowF wr p 5 c f) := hRc
          have HOw : Hid (Only (· = p) w3 wr) := hOw
          have H82 : Hid (Bytes8 c dl) := h8
          clear hRc h8 hOw
          by_cases hlt2 : m < dl
          · obtain ⟨x, hx⟩ := H82.out m hlt2
            have hcx : wr.cell? ⟨p, m, none⟩ = some (.int .u8 (x.toNat : Int)) := by rw [HRc.out.cell]; exact hx
            have hfx := HRc.out.free m (by have := HDF.out; omega)
            have hxx := xor255 x
            have hx1 := x.toNat_lt
            have HN1 : Hid (RowF (wr.setCell ⟨p, m, none⟩ (.int .u8 ((x ^^^ 255).toNat : Int))) p 5 (c.set m (.int .u8 ((x ^^^ 255).toNat : Int))) f) := HRc.out.set m _
            have HN3 : Hid (Only (· = p) w3 (wr.setCell ⟨p, m, none⟩ (.int .u8 ((x ^^^ 255).toNat : Int)))) := Only.setCell (F := (· = p)) (p := ⟨p, m, none⟩) HOw.out (.inl rfl) _
            have HN4 : Hid (Bytes8 (c.set m (.int .u8 ((x ^^^ 255).toNat : Int))) dl) := H82.out.set m hlt2 _
            have hpl : dl ≤ pc := HCB.out.1
            clear hx
            generalize x ^^^ 255 = y at *
            have hy1 := y.toNat_lt
            generalize x.toNat = xn at *
            generalize y.toNat = yn at *
            go_wp2
            go_roundw
            case rel => exact ⟨m + 1, _, by omega, by go_num, HN1.out, HN4.out, HN3.out⟩
            case measure => simp [intOf]; omega
          · have HD4 : Hid (DiskAt wr F3 d (nobM D 2)) := HD3.out.only HOw.out fun k hk q => HNF3.out (q ▸ hk)
            have HB4 : Hid (Below w.heap.size w wr) := HB3.out.trans (HOw.out.below HB3.out.size fun k hk => by rw [hk]; exact HPW.out)
            have hrd := HD4.out.read [120] (by unfold maxLen; decide)
            rw [nob3, show str [120] = ⟨#[120]⟩ from rfl] at hrd
            clear HRc H82 HOw
            go_wp2_with fail
            refine hrd.mono ?_
            rintro e w5 ⟨v, rfl, hFr, hB5⟩
            obtain ⟨va, vc, hva⟩ := hFr.1.form
            rw [← HLD.out] at hva
            subst hva
            have HFR : Hid (Fresh w5 wr.heap.size (.slice va dl vc) D) := hFr
            have HD5 : Hid (DiskAt w5 F3 d (nobM D 2)) := HD4.out.below hB5
            have HB5 : Hid (Below w.heap.size w w5) := HB4.out.trans (hB5.mono HB4.out.size)
            have HLT5 : Hid (∀ k, F3 k → k < wr.heap.size) := HD4.out.lt
            obtain ⟨Z, HZ⟩ : ∃ Z, Hid (Z = wr.heap.size) := ⟨_, rfl⟩
            rw [← HZ.out] at HFR HLT5
            have HZW : Hid (w.heap.size ≤ Z) := by rw [HZ.out]; exact HB4.out.size
            clear hrd hFr hB5 HD4 HB4 HD3 HB3
            go_wp2_with fail
            go_loopw [118] (fun i wr => ∃ (m : Nat), m ≤ dl ∧ i = .int .i64 m ∧ (0 < dl → ∃ g c, va = some ⟨g, 0, none⟩ ∧ Z ≤ g ∧ Row wr g 5 c ∧ Bytes8 c dl ∧ dl ≤ vc) ∧ Only (Z ≤ ·) w5 wr) (fun i _ => dl - (intOf i).toNat)
            case atStart =>
              refine ⟨0, Nat.zero_le _, rfl, fun hp => ?_, Only.refl _ _⟩
              rcases HFR.out.1 with ⟨_, q⟩ | ⟨g, cap, cur', q, hr', h1', h2', h3', h4'⟩
              · have := HLD.out
                rw [q] at this
                simp at this
                omega
              · cases q
                refine ⟨g, cur', rfl, HFR.out.2 g rfl, hr', ?_, by rw [HLD.out]; exact h1'⟩
                have := bytes8_take h4'
                rw [← HLD.out] at this
                exact this
            case round =>
              obtain ⟨m2, hm2, rfl, hrow, hO6⟩ := hrel
              have HO6 : Hid (Only (Z ≤ ·) w5 wr) := hO6
              clear hO6
              by_cases hlt3 : m2 < dl
              · obtain ⟨g, c2, hva, hZg, hr2, h82, hvc⟩ := hrow (by omega)
                subst hva
                obtain ⟨x, hx⟩ := h82 m2 hlt3
                have hcx : wr.cell? ⟨g, m2, none⟩ = some (.int .u8 (x.toNat : Int)) := by rw [hr2.cell]; exact hx
                have hfx := hr2.free m2
                have hxx := xor255 x
                have hx1 := x.toNat_lt
                have HN1 : Hid (Row (wr.setCell ⟨g, m2, none⟩ (.int .u8 ((x ^^^ 255).toNat : Int))) g 5 (c2.set m2 (.int .u8 ((x ^^^ 255).toNat : Int)))) := hr2.set m2 _
                have HN3 : Hid (Only (Z ≤ ·) w5 (wr.setCell ⟨g, m2, none⟩ (.int .u8 ((x ^^^ 255).toNat : Int)))) := Only.setCell (F := (Z ≤ ·)) (p := ⟨g, m2, none⟩) HO6.out (.inl hZg) _
                have HN4 : Hid (Bytes8 (c2.set m2 (.int .u8 ((x ^^^ 255).toNat : Int))) dl) := h82.set m2 hlt3 _
                clear hx hr2 h82 hrow
                generalize x ^^^ 255 = y at *
                have hy1 := y.toNat_lt
                generalize x.toNat = xn at *
                generalize y.toNat = yn at *
                go_wp2
                go_roundw
                case rel => exact ⟨m2 + 1, by omega, by go_num, fun _ => ⟨g, _, rfl, hZg, HN1.out, HN4.out, hvc⟩, HN3.out⟩
                case measure => simp [intOf]; omega
              · have HD6 : Hid (DiskAt wr F3 d (nobM D 2)) := HD5.out.only HO6.out fun k hk q => by have := HLT5.out k hk; omega
                have HB6 : Hid (Below w.heap.size w wr) := HB5.out.trans (HO6.out.below HB5.out.size fun k hk => Nat.le_trans HZW.out hk)
                have hrd := HD6.out.read [120] (by unfold maxLen; decide)
                rw [nob3, show str [120] = ⟨#[120]⟩ from rfl] at hrd
                clear hrow HO6
                go_wp2_with fail
                refine hrd.mono ?_
                rintro e w7 ⟨v, rfl, hFr, hB7⟩
                obtain ⟨va2, vc2, hva2, hby7, _⟩ := hFr.1.bys
                subst hva2
                have hcv7 := conv_bys (cap := vc2) hby7
                rw [← HLD.out, ← HS.out] at hcv7
                rw [← HLD.out]
                have HB7 : Hid (Below w.heap.size w w7) := HB6.out.trans (hB7.mono HB6.out.size)
                have hal := alive_any w7
                clear hrd hFr hby7 hB7
                go_wp2_with fail
                refine hal.mono ?_
                rintro e w8 ⟨rfl, hB8⟩
                have HB8 : Hid (Below w.heap.size w w8) := HB7.out.trans (hB8.mono HB7.out.size)
                clear hal hB8
                go_wp2
                go_ret
                exact ⟨rfl, HB8.out⟩
end Go.Proofs.Yteencknmfjegiaa.Dsk
