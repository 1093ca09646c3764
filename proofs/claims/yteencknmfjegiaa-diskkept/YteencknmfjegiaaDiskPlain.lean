/- The walk of DiskPlain: without a loss a disk is names and bytes alone. -/
import Derived.Test.YteencknmfjegiaaDiskTwo
import Derived.Test.YteencknmfjegiaaDiskLong
import Derived.Test.YteencknmfjegiaaDiskTexts
namespace Go.Proofs.Yteencknmfjegiaa.Dsk
open Go Go.RowKit Go.Maps
set_option linter.unusedSimpArgs false
set_option linter.unusedVariables false

theorem cut_take {w : World} {a : Option Addr} {len cap : Nat} {rs : List Raw} (h : ActsAt w a len cap rs) : ActsAt w a (cutN len) cap (rs.take 150) := by
  have hA := h.cut (cutN len) (by unfold cutN; omega)
  have ht : rs.take (cutN len) = rs.take 150 := by
    unfold cutN
    by_cases q : len ≤ 150
    · rw [Nat.min_eq_left q, h.ln, List.take_length, List.take_of_length_le (by rw [← h.ln]; exact q)]
    · rw [Nat.min_eq_right (by omega)]
  rwa [ht] at hA
theorem Texts.later {w w' : World} {B : Nat} {v : Value} {l : List Nm} (h : Texts w B v l) (hb : Below w.heap.size w w') : Texts w' B v l := by
  refine h.at_ fun b hv => ?_
  rcases h.2 with ⟨q, _⟩ | ⟨g, cap, cur, q, h0, hr, _⟩
  · rw [q] at hv; cases hv
  · rw [q] at hv
    cases hv
    exact hb.block g (Array.getElem?_eq_some_iff.1 hr).1
set_option maxRecDepth 100000 in
set_option maxHeartbeats 4000000 in
theorem diskPlain_any (a : Option Addr) (len cap : Nat) (rs : List Raw) (w : World) (hA : ActsAt w a len cap rs) :
    Calls Try.prog 6 #[.slice a len cap] w fun e w' => e = .returned (.bool true) ∧ Below w.heap.size w w' := by
  have hlong := long_ok hA
  have hsh := fun w => short_ok a len cap w hA.lc hA.cm
  have HA : Hid (ActsAt w a (cutN len) cap (rs.take 150)) := cut_take hA
  have hn150 : cutN len ≤ 150 := Nat.min_le_right _ _
  clear hA
  go_enter Try.func6, Try.ntmps6
  go_wp2_with fail
  refine hlong.mono ?_
  rintro e w1 ⟨rfl, hB1⟩
  have HB1 : Hid (Below w.heap.size w w1) := hB1
  clear hlong hB1
  by_cases hL : isLong rs = true
  · rw [hL]
    go_wp2_with fail
    refine (alive_any _).mono ?_
    rintro e w2 ⟨rfl, hB2⟩
    have HBf : Hid (Below w.heap.size w w2) := HB1.out.trans (hB2.mono HB1.out.size)
    clear hB2
    go_wp2
    go_ret
    exact ⟨rfl, HBf.out⟩
  · have hL0 : isLong rs = false := by simpa using hL
    have HDL : Hid (∀ i, i < (rs.take 150).length → ((rs.take 150).getD i raw0).dl ≤ 524288) := fun i hi => long_not hL0 i hi
    rw [hL0]
    clear hL hL0
    generalize rs.take 150 = ts at *
    generalize cutN len = n at *
    have HAW : Hid (ActsAt w1 a n cap ts) := HA.out.later HB1.out
    have h0 : Calls Try.prog 11 #[.int .i64 1048576] w1 fun e w' => ∃ d, e = .returned (.tuple #[.pointer (some ⟨d, 0, none⟩), .int .i64 0]) ∧ Mine w1 w' d (M.new 1048576) := mine_new 1048576 w1 (by decide)
    go_wp2_with fail
    refine h0.mono ?_
    rintro e w2 ⟨da, rfl, MA⟩
    have h1 : Calls Try.prog 11 #[.int .i64 1048576] w2 fun e w' => ∃ d, e = .returned (.tuple #[.pointer (some ⟨d, 0, none⟩), .int .i64 0]) ∧ Mine w2 w' d (M.new 1048576) := mine_new 1048576 w2 (by decide)
    have HMA : Hid (Mine w1 w2 da (M.new 1048576)) := MA
    clear h0 MA
    go_wp2_with fail
    refine h1.mono ?_
    rintro e w3 ⟨db, rfl, MB⟩
    have HT : Hid (Two w1 w3 da (M.new 1048576) db (M.new 1048576)) := HMA.out.two MB
    clear h1 MB HMA
    go_wp2_with (first | (go_at_call 13; refine (hsh _).mono ?_; rintro e w' ⟨rfl, rfl⟩))
    go_loopw [43] (fun i wr => ∃ j : Nat, ∃ ma mb : M, j ≤ n ∧ i = .int .i64 j ∧ Two w1 wr da ma db mb ∧ Sim ma mb ∧ ma.calls ≤ j ∧ mb.calls ≤ j) (fun i _ => n - (intOf i).toNat)
    case atStart => exact ⟨0, _, _, Nat.zero_le _, rfl, HT.out, sim_new _, Nat.le_refl _, Nat.le_refl _⟩
    case round =>
      obtain ⟨j, ma, mb, hj, rfl, hT, hS, hca, hcb⟩ := hrel
      have HT1 : Hid (Two w1 wr da ma db mb) := hT
      have HS : Hid (Sim ma mb) := hS
      have HCA : Hid (ma.calls ≤ j) := hca
      have HCB : Hid (mb.calls ≤ j) := hcb
      have HLN : Hid (n = ts.length) := HAW.out.ln
      clear hT hS hca hcb
      by_cases hlt : j < n
      · obtain ⟨b, off, rfl, hbl, hc⟩ := HAW.out.mem (by omega)
        have HR : Hid (RawOk w1 (ts.getD j raw0)) := HAW.out.ok j hlt
        have HDR : Hid ((ts.getD j raw0).dl ≤ 524288) := HDL.out j (by rw [← HLN.out]; exact hlt)
        have hcc := fun i hi => (HT1.out.bel.cell (p := ⟨b, off + j * 6 + i, none⟩) hbl).trans (hc j hlt i hi)
        clear hc
        obtain ⟨r, hr⟩ : ∃ r, r = ts.getD j raw0 := ⟨_, rfl⟩
        rw [← hr] at HR HDR hcc
        have c0 : wr.cell? ⟨b, off + j * 6, none⟩ = some (.int .u8 r.act.kind) := hcc 0 (by decide)
        have c1 : wr.cell? ⟨b, off + j * 6 + 1, none⟩ = some (.string (str r.act.nA)) := hcc 1 (by decide)
        have c2 : wr.cell? ⟨b, off + j * 6 + 2, none⟩ = some (.string (str r.act.nB)) := hcc 2 (by decide)
        have c3 : wr.cell? ⟨b, off + j * 6 + 3, none⟩ = some (.slice r.da r.dl r.dc) := hcc 3 (by decide)
        have c4 : wr.cell? ⟨b, off + j * 6 + 4, none⟩ = some (.int .i64 r.act.num) := hcc 4 (by decide)
        have c5 : wr.cell? ⟨b, off + j * 6 + 5, none⟩ = some (.slice r.ka r.kl r.kc) := hcc 5 (by decide)
        clear hcc hr
        obtain ⟨V, HV⟩ : ∃ V, Hid (V = wr.alloc (.cells #[.int .u8 r.act.kind, .string (str r.act.nA), .string (str r.act.nB), .slice r.da r.dl r.dc, .int .i64 r.act.num, .slice r.ka r.kl r.kc] 40)) := ⟨_, rfl⟩
        obtain ⟨bx, HX⟩ : ∃ x, Hid (x = wr.heap.size) := ⟨_, rfl⟩
        have HBV : Hid (Below wr.heap.size wr V) := by rw [HV.out]; exact (Below.refl _ wr).alloc (Nat.le_refl _) _
        have HRB : Hid (Row V bx 40 r.cells) := by rw [HV.out, HX.out]; exact Row.mk wr r.cells _
        have HTX : Hid (TwoX (· = bx) w1 V da ma db mb) := HT1.out.x HBV.out (fun k hk => by
          subst hk
          have := HRB.out.lt
          have := HX.out
          omega)
        have hdoes := HTX.out.does (by have := HCA.out; omega) r HR.out (by have := HDR.out; omega)
        have HK8 : Hid (r.act.kind < 256) := HR.out.kind
        obtain ⟨k, hk⟩ : ∃ k, k = r.act.kind := ⟨_, rfl⟩
        by_cases h5 : r.act.kind % 8 < 6
        · have hd5 : decide ((5 : Int) < (r.act.kind : Int) % 8) = false := decide_eq_false (by omega)
          go_wp2_with fail
          rw [← HV.out, ← HX.out]
          refine hdoes.mono ?_
          rintro e w4 ⟨rfl, hTX4, hK4⟩
          have HR4 : Hid (Row w4 bx 40 r.cells) := HRB.out.at_ (hK4 bx rfl)
          have HTX4 : Hid (TwoX (· = bx) w1 w4 da (ma.act r.act).1 db mb) := hTX4
          have x0 : w4.cell? ⟨bx, 0, none⟩ = some (.int .u8 r.act.kind) := HR4.out.cell 0
          have x1 : w4.cell? ⟨bx, 1, none⟩ = some (.string (str r.act.nA)) := HR4.out.cell 1
          have x2 : w4.cell? ⟨bx, 2, none⟩ = some (.string (str r.act.nB)) := HR4.out.cell 2
          have x3 : w4.cell? ⟨bx, 3, none⟩ = some (.slice r.da r.dl r.dc) := HR4.out.cell 3
          have x4 : w4.cell? ⟨bx, 4, none⟩ = some (.int .i64 r.act.num) := HR4.out.cell 4
          have x5 : w4.cell? ⟨bx, 5, none⟩ = some (.slice r.ka r.kl r.kc) := HR4.out.cell 5
          have HCA2 : Hid ((ma.act r.act).1.calls ≤ j + 1) := by
            have := act_calls ma r.act
            have := HCA.out
            unfold Hid
            omega
          clear c0 c1 c2 c3 c4 c5 hdoes hTX4 hK4 HTX
          by_cases h25 : r.act.kind % 8 = 2 ∨ r.act.kind % 8 = 5
          · have HSZ : Hid (Sim (ma.act r.act).1 mb) := HS.out.left r.act h25
            have HTZ := HTX4
            have HRZ := HR4
            have HCB2 : Hid (mb.calls ≤ j + 1) := by have := HCB.out; unfold Hid; omega
            clear HTX4 HR4 HCA HCB HS HT1
            generalize (ma.act r.act).2 = code0 at *
            obtain ⟨A, HAA⟩ : ∃ A, Hid (A = (ma.act r.act).1) := ⟨_, rfl⟩
            rw [← HAA.out] at HSZ HTZ HCA2
            clear HAA
            generalize mb = B at *
            generalize w4 = wz at *
            rcases h25 with h2 | h5'
            · have hk2 : ((r.act.kind : Int) % 8 != 2) = false := by simp; omega
              clear x0 x1 x2 x3 x4 x5
              have x0 : wz.cell? ⟨bx, 0, none⟩ = some (.int .u8 r.act.kind) := HRZ.out.cell 0
              have z1 : wz.cell? ⟨bx, 1, none⟩ = some (.string (str r.act.nA)) := HRZ.out.cell 1
              have hra := HTZ.out.two.mine.read r.act.nA HR.out.nA
              go_wp2_with fail
              refine hra.mono ?_
              rintro e y1 ⟨v1, rfl, hF1, hB1⟩
              have T1 := HTZ.out.two.later hB1
              have hrb := T1.swap.mine.read r.act.nA HR.out.nA
              rw [← HSZ.out.read] at hrb
              have z2 : y1.cell? ⟨bx, 1, none⟩ = some (.string (str r.act.nA)) := (hB1.cell (p := ⟨bx, 1, none⟩) HRZ.out.lt).trans z1
              clear hra z1
              go_wp2_with fail
              refine hrb.mono ?_
              rintro e y2 ⟨v2, rfl, hF2, hB2⟩
              have T2 := T1.later hB2
              obtain ⟨va, vc, hva, hby, _⟩ := hF1.1.bys
              subst hva
              obtain ⟨vb, vd, hvb, hbz, _⟩ := hF2.1.bys
              subst hvb
              have hcv1 := conv_bys (cap := vc) (hby.later hB2)
              have hcv2 := conv_bys (cap := vd) hbz
              have hq : ((str (A.read r.act.nA).1).toList == (str (A.read r.act.nA).1).toList) = true := beq_self_eq_true _
              have hna := T2.mine.names
              have HT2 : Hid (Two w1 y2 da A db B) := T2
              generalize str (A.read r.act.nA).1 = S at *
              generalize (A.read r.act.nA).1.length = sl at *
              generalize (A.read r.act.nA).2 = code at *
              clear hrb z2 T1 T2 hF1 hF2 hby hbz hB1 hB2
              go_wp2_with fail
              refine hna.mono ?_
              rintro e y3 ⟨v3, rfl, hX3, hB3⟩
              have T3 := HT2.out.later hB3
              have hnb := T3.swap.mine.names
              rw [← HSZ.out.list] at hnb
              have HT3 : Hid (Two w1 y3 da A db B) := T3
              have HX3 : Hid (Texts y3 y2.heap.size v3 A.list) := hX3
              clear hna hcv1 hcv2 T3 hX3 hB3
              go_wp2_with fail
              refine hnb.mono ?_
              rintro e y4 ⟨v4, rfl, hX4, hB4⟩
              have htx := texts_same (HX3.out.later hB4) hX4
              have T4 := HT3.out.later hB4
              have HT4 : Hid (Two w1 y4 da A db B) := T4
              clear hnb hX4 T4 hB4
              go_wp2_with fail
              refine htx.mono ?_
              rintro e y5 ⟨rfl, hB5⟩
              have T5 := HT4.out.later hB5
              have hua := T5.mine.used
              have HT5 : Hid (Two w1 y5 da A db B) := T5
              clear htx T5 hB5
              go_wp2_with fail
              refine hua.mono ?_
              rintro e y6 ⟨rfl, hB6⟩
              have T6 := HT5.out.later hB6
              have hub := T6.swap.mine.used
              rw [← HSZ.out.uses] at hub
              have HT6 : Hid (Two w1 y6 da A db B) := T6
              clear hua T6 hB6
              generalize A.uses = us at *
              go_wp2_with fail
              refine hub.mono ?_
              rintro e y7 ⟨rfl, hB7⟩
              have HT7 : Hid (Two w1 y7 da A db B) := HT6.out.later hB7
              clear hub hB7
              go_wp2
              go_roundw
              case rel => exact ⟨j + 1, A, B, by omega, by go_num, HT7.out, HSZ.out, HCA2.out, HCB2.out⟩
              case measure => simp [intOf]; omega
            · have hk2 : ((r.act.kind : Int) % 8 != 2) = true := by simp; omega
              have hk5 : ((r.act.kind : Int) % 8 != 5) = false := by simp; omega
              clear x0 x1 x2 x3 x4 x5
              have x0 : wz.cell? ⟨bx, 0, none⟩ = some (.int .u8 r.act.kind) := HRZ.out.cell 0
              have z1 : wz.cell? ⟨bx, 1, none⟩ = some (.string (str r.act.nA)) := HRZ.out.cell 1
              have hra := HTZ.out.two.mine.read r.act.nA HR.out.nA
              go_wp2_with fail
              refine hra.mono ?_
              rintro e y1 ⟨v1, rfl, hF1, hB1⟩
              have T1 := HTZ.out.two.later hB1
              have hrb := T1.swap.mine.read r.act.nA HR.out.nA
              rw [← HSZ.out.read] at hrb
              have z2 : y1.cell? ⟨bx, 1, none⟩ = some (.string (str r.act.nA)) := (hB1.cell (p := ⟨bx, 1, none⟩) HRZ.out.lt).trans z1
              clear hra z1
              go_wp2_with fail
              refine hrb.mono ?_
              rintro e y2 ⟨v2, rfl, hF2, hB2⟩
              have T2 := T1.later hB2
              obtain ⟨va, vc, hva, hby, _⟩ := hF1.1.bys
              subst hva
              obtain ⟨vb, vd, hvb, hbz, _⟩ := hF2.1.bys
              subst hvb
              have hcv1 := conv_bys (cap := vc) (hby.later hB2)
              have hcv2 := conv_bys (cap := vd) hbz
              have hq : ((str (A.read r.act.nA).1).toList == (str (A.read r.act.nA).1).toList) = true := beq_self_eq_true _
              have hna := T2.mine.names
              have HT2 : Hid (Two w1 y2 da A db B) := T2
              generalize str (A.read r.act.nA).1 = S at *
              generalize (A.read r.act.nA).1.length = sl at *
              generalize (A.read r.act.nA).2 = code at *
              clear hrb z2 T1 T2 hF1 hF2 hby hbz hB1 hB2
              go_wp2_with fail
              refine hna.mono ?_
              rintro e y3 ⟨v3, rfl, hX3, hB3⟩
              have T3 := HT2.out.later hB3
              have hnb := T3.swap.mine.names
              rw [← HSZ.out.list] at hnb
              have HT3 : Hid (Two w1 y3 da A db B) := T3
              have HX3 : Hid (Texts y3 y2.heap.size v3 A.list) := hX3
              clear hna hcv1 hcv2 T3 hX3 hB3
              go_wp2_with fail
              refine hnb.mono ?_
              rintro e y4 ⟨v4, rfl, hX4, hB4⟩
              have htx := texts_same (HX3.out.later hB4) hX4
              have T4 := HT3.out.later hB4
              have HT4 : Hid (Two w1 y4 da A db B) := T4
              clear hnb hX4 T4 hB4
              go_wp2_with fail
              refine htx.mono ?_
              rintro e y5 ⟨rfl, hB5⟩
              have T5 := HT4.out.later hB5
              have hua := T5.mine.used
              have HT5 : Hid (Two w1 y5 da A db B) := T5
              clear htx T5 hB5
              go_wp2_with fail
              refine hua.mono ?_
              rintro e y6 ⟨rfl, hB6⟩
              have T6 := HT5.out.later hB6
              have hub := T6.swap.mine.used
              rw [← HSZ.out.uses] at hub
              have HT6 : Hid (Two w1 y6 da A db B) := T6
              clear hua T6 hB6
              generalize A.uses = us at *
              go_wp2_with fail
              refine hub.mono ?_
              rintro e y7 ⟨rfl, hB7⟩
              have HT7 : Hid (Two w1 y7 da A db B) := HT6.out.later hB7
              clear hub hB7
              go_wp2
              go_roundw
              case rel => exact ⟨j + 1, A, B, by omega, by go_num, HT7.out, HSZ.out, HCA2.out, HCB2.out⟩
              case measure => simp [intOf]; omega
          · have hk2 : ((r.act.kind : Int) % 8 != 2) = true := by simp; omega
            have hk5 : ((r.act.kind : Int) % 8 != 5) = true := by simp; omega
            obtain ⟨hcode, hsim⟩ := HS.out.both r.act h5 (fun q => h25 (.inl q)) (fun q => h25 (.inr q))
            have hdb := HTX4.out.swap.does (by have := HCB.out; omega) r HR.out (by have := HDR.out; omega)
            rw [← hcode] at hdb
            have HSZ : Hid (Sim (ma.act r.act).1 (mb.act r.act).1) := hsim
            have HCB2 : Hid ((mb.act r.act).1.calls ≤ j + 1) := by
              have := act_calls mb r.act
              have := HCB.out
              unfold Hid
              omega
            clear hcode hsim HTX4 HCA HCB HS HT1
            generalize (ma.act r.act).2 = code0 at *
            go_wp2_with fail
            refine hdb.mono ?_
            rintro e wz ⟨rfl, hTZ, hKZ⟩
            have HTZ : Hid (TwoX (· = bx) w1 wz da (ma.act r.act).1 db (mb.act r.act).1) := hTZ.swap
            have HRZ : Hid (Row wz bx 40 r.cells) := HR4.out.at_ (hKZ bx rfl)
            clear hdb hTZ hKZ HR4 x0 x1 x2 x3 x4 x5
            obtain ⟨A, HAA⟩ : ∃ A, Hid (A = (ma.act r.act).1) := ⟨_, rfl⟩
            obtain ⟨B, HBB⟩ : ∃ B, Hid (B = (mb.act r.act).1) := ⟨_, rfl⟩
            rw [← HAA.out] at HSZ HTZ HCA2
            rw [← HBB.out] at HSZ HTZ HCB2
            clear HAA HBB
            have z1 : wz.cell? ⟨bx, 1, none⟩ = some (.string (str r.act.nA)) := HRZ.out.cell 1
            have hra := HTZ.out.two.mine.read r.act.nA HR.out.nA
            go_wp2_with fail
            refine hra.mono ?_
            rintro e y1 ⟨v1, rfl, hF1, hB1⟩
            have T1 := HTZ.out.two.later hB1
            have hrb := T1.swap.mine.read r.act.nA HR.out.nA
            rw [← HSZ.out.read] at hrb
            have z2 : y1.cell? ⟨bx, 1, none⟩ = some (.string (str r.act.nA)) := (hB1.cell (p := ⟨bx, 1, none⟩) HRZ.out.lt).trans z1
            clear hra z1
            go_wp2_with fail
            refine hrb.mono ?_
            rintro e y2 ⟨v2, rfl, hF2, hB2⟩
            have T2 := T1.later hB2
            obtain ⟨va, vc, hva, hby, _⟩ := hF1.1.bys
            subst hva
            obtain ⟨vb, vd, hvb, hbz, _⟩ := hF2.1.bys
            subst hvb
            have hcv1 := conv_bys (cap := vc) (hby.later hB2)
            have hcv2 := conv_bys (cap := vd) hbz
            have hq : ((str (A.read r.act.nA).1).toList == (str (A.read r.act.nA).1).toList) = true := beq_self_eq_true _
            have hna := T2.mine.names
            have HT2 : Hid (Two w1 y2 da A db B) := T2
            generalize str (A.read r.act.nA).1 = S at *
            generalize (A.read r.act.nA).1.length = sl at *
            generalize (A.read r.act.nA).2 = code at *
            clear hrb z2 T1 T2 hF1 hF2 hby hbz hB1 hB2
            go_wp2_with fail
            refine hna.mono ?_
            rintro e y3 ⟨v3, rfl, hX3, hB3⟩
            have T3 := HT2.out.later hB3
            have hnb := T3.swap.mine.names
            rw [← HSZ.out.list] at hnb
            have HT3 : Hid (Two w1 y3 da A db B) := T3
            have HX3 : Hid (Texts y3 y2.heap.size v3 A.list) := hX3
            clear hna hcv1 hcv2 T3 hX3 hB3
            go_wp2_with fail
            refine hnb.mono ?_
            rintro e y4 ⟨v4, rfl, hX4, hB4⟩
            have htx := texts_same (HX3.out.later hB4) hX4
            have T4 := HT3.out.later hB4
            have HT4 : Hid (Two w1 y4 da A db B) := T4
            clear hnb hX4 T4 hB4
            go_wp2_with fail
            refine htx.mono ?_
            rintro e y5 ⟨rfl, hB5⟩
            have T5 := HT4.out.later hB5
            have hua := T5.mine.used
            have HT5 : Hid (Two w1 y5 da A db B) := T5
            clear htx T5 hB5
            go_wp2_with fail
            refine hua.mono ?_
            rintro e y6 ⟨rfl, hB6⟩
            have T6 := HT5.out.later hB6
            have hub := T6.swap.mine.used
            rw [← HSZ.out.uses] at hub
            have HT6 : Hid (Two w1 y6 da A db B) := T6
            clear hua T6 hB6
            generalize A.uses = us at *
            go_wp2_with fail
            refine hub.mono ?_
            rintro e y7 ⟨rfl, hB7⟩
            have HT7 : Hid (Two w1 y7 da A db B) := HT6.out.later hB7
            clear hub hB7
            go_wp2
            go_roundw
            case rel => exact ⟨j + 1, A, B, by omega, by go_num, HT7.out, HSZ.out, HCA2.out, HCB2.out⟩
            case measure => simp [intOf]; omega
        · have hd5 : decide ((5 : Int) < (r.act.kind : Int) % 8) = true := decide_eq_true (by omega)
          go_wp2
          go_roundw
          case rel => exact ⟨j + 1, ma, mb, by omega, by go_num, by rw [← HV.out]; exact HT1.out.later HBV.out, HS.out, by have := HCA.out; omega, by have := HCB.out; omega⟩
          case measure => simp [intOf]; omega
      · have hal := fun w => alive_any w
        go_wp2_with fail
        refine (hal _).mono ?_
        rintro e w9 ⟨rfl, hB9⟩
        have HBf : Hid (Below w.heap.size w w9) := HB1.out.trans ((HT1.out.bel.trans (hB9.mono HT1.out.bel.size)).mono HB1.out.size)
        clear hB9
        go_wp2
        go_ret
        exact ⟨rfl, HBf.out⟩
end Go.Proofs.Yteencknmfjegiaa.Dsk
