/- The walk of DiskKept: what was synced, under names that were, is there behind each loss. -/
import Derived.Test.YteencknmfjegiaaDiskKeep2
namespace Go.Proofs.Yteencknmfjegiaa.Dsk
open Go Go.RowKit Go.Maps
set_option linter.unusedSimpArgs false
set_option linter.unusedVariables false

set_option maxRecDepth 100000 in
set_option maxHeartbeats 8000000 in
theorem diskKept_any (a : Option Addr) (len cap : Nat) (rs : List Raw) (a' : Option Addr) (len' cap' : Nat) (rs' : List Raw) (ka : Option Addr) (kl kc : Nat) (zs : List Int) (w : World) (hA : ActsAt w a len cap rs) (hA' : ActsAt w a' len' cap' rs') (hK : Ints w ka kl zs ∧ kl ≤ kc ∧ kc ≤ maxLen) :
    Calls Try.prog 4 #[.slice a len cap, .slice a' len' cap', .slice ka kl kc] w fun e w' => e = .returned (.bool true) ∧ Below w.heap.size w w' := by
  have hlong := long_ok hA
  have hsh := fun w => short_ok a len cap w hA.lc hA.cm
  have hsh' := fun w => short_ok a' len' cap' w hA'.lc hA'.cm
  have HA : Hid (ActsAt w a (cutN len) cap (rs.take 150)) := cut_take hA
  have HA' : Hid (ActsAt w a' (cutN len') cap' (rs'.take 150)) := cut_take hA'
  have HAL' : Hid (ActsAt w a' len' cap' rs') := hA'
  have hn150 : cutN len ≤ 150 := Nat.min_le_right _ _
  have hn150' : cutN len' ≤ 150 := Nat.min_le_right _ _
  have HK : Hid (Ints w ka kl zs ∧ kl ≤ kc ∧ kc ≤ maxLen) := hK
  clear hA hA' hK
  go_enter Try.func4, Try.ntmps4
  go_wp2_with fail
  refine hlong.mono ?_
  rintro e w1 ⟨rfl, hB1⟩
  have HB1 : Hid (Below w.heap.size w w1) := hB1
  clear hlong hB1
  by_cases hL : isLong rs = true
  · rw [hL]
    go_wp2_with fail
    refine (alive_any _).mono ?_
    rintro e w2 ⟨rfl, hB2⟩
    have HBf : Hid (Below w.heap.size w w2) := HB1.out.trans (hB2.mono HB1.out.size)
    clear hB2
    go_wp2
    go_ret
    exact ⟨rfl, HBf.out⟩
  have hL0 : isLong rs = false := by simpa using hL
  have HDL : Hid (∀ i, i < (rs.take 150).length → ((rs.take 150).getD i raw0).dl ≤ 524288) := fun i hi => long_not hL0 i hi
  rw [hL0]
  clear hL hL0
  have hlong' := long_ok (HAL'.out.later HB1.out)
  go_wp2_with fail
  refine hlong'.mono ?_
  rintro e w2 ⟨rfl, hB2⟩
  have HB2 : Hid (Below w.heap.size w w2) := HB1.out.trans (hB2.mono HB1.out.size)
  clear hlong' hB2
  by_cases hL : isLong rs' = true
  · rw [hL]
    go_wp2_with fail
    refine (alive_any _).mono ?_
    rintro e w3 ⟨rfl, hB3⟩
    have HBf : Hid (Below w.heap.size w w3) := HB2.out.trans (hB3.mono HB2.out.size)
    clear hB3
    go_wp2
    go_ret
    exact ⟨rfl, HBf.out⟩
  have hL0 : isLong rs' = false := by simpa using hL
  have HDL' : Hid (∀ i, i < (rs'.take 150).length → ((rs'.take 150).getD i raw0).dl ≤ 524288) := fun i hi => long_not hL0 i hi
  rw [hL0]
  clear hL hL0 HAL'
  generalize rs.take 150 = ts at *
  generalize cutN len = n at *
  generalize rs'.take 150 = ts' at *
  generalize cutN len' = n' at *
  have HAW : Hid (ActsAt w2 a n cap ts) := HA.out.later HB2.out
  have HAW' : Hid (ActsAt w2 a' n' cap' ts') := HA'.out.later HB2.out
  have HKW : Hid (Ints w2 ka kl zs ∧ kl ≤ kc ∧ kc ≤ maxLen) := ⟨HK.out.1.later HB2.out, HK.out.2⟩
  clear HA HA' HK HB1
  have h0 : Calls Try.prog 11 #[.int .i64 1048576] w2 fun e w' => ∃ d, e = .returned (.tuple #[.pointer (some ⟨d, 0, none⟩), .int .i64 0]) ∧ Mine w2 w' d (M.new 1048576) := mine_new 1048576 w2 (by decide)
  go_wp2_with fail
  refine h0.mono ?_
  rintro e w3 ⟨d, rfl, MA⟩
  have HMA : Hid (Mine w2 w3 d (M.new 1048576)) := MA
  clear h0 MA
  go_wp2_with (first | (go_at_call 13; refine (hsh _).mono ?_; rintro e w' ⟨rfl, rfl⟩))
  go_loopw [44] (fun i wr => ∃ j : Nat, ∃ m : M, j ≤ n ∧ i = .int .i64 j ∧ Mine w2 wr d m ∧ m.calls ≤ j) (fun i _ => n - (intOf i).toNat)
  case atStart => exact ⟨0, _, Nat.zero_le _, rfl, HMA.out, Nat.le_refl _⟩
  case round =>
    obtain ⟨j, m, hj, rfl, hM, hca⟩ := hrel
    have HM : Hid (Mine w2 wr d m) := hM
    have HCA : Hid (m.calls ≤ j) := hca
    clear hM hca
    by_cases hlt : j < n
    · have HBEL : Hid (Below w2.heap.size w2 wr) := HM.out.bel
      obtain ⟨b, off, rfl, hbl, hc⟩ := HAW.out.mem (by omega)
      have HR : Hid (RawOk w2 (ts.getD j raw0)) := HAW.out.ok j hlt
      have HDR : Hid ((ts.getD j raw0).dl ≤ 524288) := HDL.out j (by rw [← HAW.out.ln]; exact hlt)
      have hcc := fun i hi => (HBEL.out.cell (p := ⟨b, off + j * 6 + i, none⟩) hbl).trans (hc j hlt i hi)
      clear hc
      obtain ⟨r, hr⟩ : ∃ r, r = ts.getD j raw0 := ⟨_, rfl⟩
      rw [← hr] at HR HDR hcc
      have c0 : wr.cell? ⟨b, off + j * 6, none⟩ = some (.int .u8 r.act.kind) := hcc 0 (by decide)
      have c1 : wr.cell? ⟨b, off + j * 6 + 1, none⟩ = some (.string (str r.act.nA)) := hcc 1 (by decide)
      have c2 : wr.cell? ⟨b, off + j * 6 + 2, none⟩ = some (.string (str r.act.nB)) := hcc 2 (by decide)
      have c3 : wr.cell? ⟨b, off + j * 6 + 3, none⟩ = some (.slice r.da r.dl r.dc) := hcc 3 (by decide)
      have c4 : wr.cell? ⟨b, off + j * 6 + 4, none⟩ = some (.int .i64 r.act.num) := hcc 4 (by decide)
      have c5 : wr.cell? ⟨b, off + j * 6 + 5, none⟩ = some (.slice r.ka r.kl r.kc) := hcc 5 (by decide)
      clear hcc hr
      obtain ⟨V, HV⟩ : ∃ V, Hid (V = wr.alloc (.cells #[.int .u8 r.act.kind, .string (str r.act.nA), .string (str r.act.nB), .slice r.da r.dl r.dc, .int .i64 r.act.num, .slice r.ka r.kl r.kc] 40)) := ⟨_, rfl⟩
      have HBV : Hid (Below wr.heap.size wr V) := by rw [HV.out]; exact (Below.refl _ wr).alloc (Nat.le_refl _) _
      have hdoes := (HM.out.later HBV.out).does (by have := HCA.out; omega) r HR.out (by have := HDR.out; omega)
      go_wp2_with fail
      rw [← HV.out]
      refine hdoes.mono ?_
      rintro e w4 ⟨rfl, hM4⟩
      have HM4 : Hid (Mine w2 w4 d (m.act r.act).1) := hM4
      clear c0 c1 c2 c3 c4 c5 hdoes hM4
      go_wp2
      go_roundw
      case rel => exact ⟨j + 1, _, by omega, by go_num, HM4.out, by have := HCA.out; have := act_calls m r.act; omega⟩
      case measure => simp [intOf]; omega
    · have HC1 : Hid (m.calls ≤ 150) := by have := HCA.out; unfold Hid; omega
      have hon := HM.out.on
      clear HCA HMA hsh
      by_cases hon1 : m.on = true
      · rw [hon1] at hon
        have harm := HM.out.arm (-1) (by decide)
        go_wp2_with (first | (go_at_call 16; refine hon.mono ?_; rintro e w' ⟨rfl, rfl⟩))
        refine harm.mono ?_
        rintro e w4 ⟨rfl, hM4⟩
        obtain ⟨m1, HM1⟩ : ∃ x, Hid (x = m.arm (-1)) := ⟨_, rfl⟩
        rw [← HM1.out] at hM4
        have HM4 : Hid (Mine w2 w4 d m1) := hM4
        have HON : Hid (m1.on = true) := by rw [HM1.out]; exact hon1
        have HFU : Hid (m1.fuse = -1) := by rw [HM1.out]; rfl
        have HC2 : Hid (m1.calls ≤ 150) := by rw [HM1.out]; exact HC1.out
        have hnm := HM4.out.names
        clear HM1 hM4 harm hon hon1 HM HC1
        go_wp2_with fail
        refine hnm.mono ?_
        rintro e w5 ⟨nv, rfl, hTX, hB5⟩
        have hml : m1.list = m1.names.map (·.1) := by unfold M.list; rw [HON.out]; rfl
        rw [hml] at hTX
        obtain ⟨na, nc, hnv⟩ := hTX.form
        subst hnv
        obtain ⟨nn, HNN⟩ : ∃ x, Hid (x = m1.names.length) := ⟨_, rfl⟩
        rw [List.length_map, ← HNN.out] at hTX ⊢
        have HTX : Hid (Texts w5 w4.heap.size (.slice na nn nc) (m1.names.map (·.1))) := hTX
        have HN64 : Hid (nn ≤ 64) := by rw [HNN.out, HM4.out.wf.names, ← List.take_length (l := m1.since)]; exact HM4.out.wf.few _
        have hn64 := HN64.out
        clear hml
        have HB5 : Hid (Below w4.heap.size w4 w5) := hB5
        clear hnm hTX hB5
        obtain ⟨wl, HWL⟩ : ∃ x, Hid (x = m1.names.map (fun p => m1.dat p.2)) := ⟨_, rfl⟩
        have HLW : Hid (wl.length = nn) := by rw [HWL.out, HNN.out, List.length_map]; rfl
        obtain ⟨i0, hi0, hz0, hz1, hz2⟩ := info_parts infoString
        have HX0 : Hid (MineX (Own2 (.slice na nn nc) (.slice none 0 0)) w2 w5 d m1) := HM4.out.x HB5.out (fun k hk => by
          rcases hk with q | q
          · exact HTX.out.block q
          · cases q)
        go_wp2_with fail
        go_loopw [12, 62] (fun wv i wr => ∃ j : Nat, ∃ mj : M, j ≤ nn ∧ i = .int .i64 j ∧ Kd m1 mj j ∧ MineX (Own2 (.slice na nn nc) wv) w2 wr d mj ∧ Texts wr w4.heap.size (.slice na nn nc) (m1.names.map (·.1)) ∧ Texts wr w2.heap.size wv (wl.take j) ∧ (∀ k, (Value.slice na nn nc).ownBlock = some k → wv.ownBlock ≠ some k) ∧ mj.calls ≤ 150 + j) (fun _ i _ => nn - (intOf i).toNat)
        case atStart => exact ⟨0, m1, Nat.zero_le _, rfl, kd_start HON.out HFU.out, HX0.out, HTX.out, Texts.nil _ _, (fun k hk q => by cases q), HC2.out⟩
        case round =>
          obtain ⟨j2, mj, hj2, rfl, hKd, hMX, hTN, hTW, hdis, hcl⟩ := hrel
          have HKd : Hid (Kd m1 mj j2) := hKd
          have HMX : Hid (MineX (Own2 (.slice na nn nc) u12) w2 wr d mj) := hMX
          have HTN : Hid (Texts wr w4.heap.size (.slice na nn nc) (m1.names.map (·.1))) := hTN
          have HTW : Hid (Texts wr w2.heap.size u12 (wl.take j2)) := hTW
          have HDIS : Hid (∀ k, (Value.slice na nn nc).ownBlock = some k → u12.ownBlock ≠ some k) := hdis
          have HCL : Hid (mj.calls ≤ 150 + j2) := hcl
          clear hKd hMX hTN hTW hdis hcl
          by_cases hlt2 : j2 < nn
          · obtain ⟨p, hp⟩ : ∃ p, m1.names[j2]? = some p := ⟨_, List.getElem?_eq_getElem (by rw [← HNN.out]; exact hlt2)⟩
            obtain ⟨g, c1, e1, _, hg, hcn, _, _⟩ := HTN.out.cell (j := j2) (n := p.1) (by rw [List.getElem?_map, hp]; rfl)
            obtain ⟨NV, HNV⟩ : ∃ v, Hid (v = Value.slice na nn nc) := ⟨_, rfl⟩
            rw [← HNV.out] at HMX HTN HDIS
            have hna : na = some ⟨g, 0, none⟩ := by injection e1
            clear e1
            have HWF : Hid (Wf mj) := HMX.out.mine.wf
            have HNL : Hid (p.1.length ≤ maxLen) := HWF.out.nm_le (by rw [HKd.out.names]; exact List.mem_of_getElem? hp)
            have hrd := HMX.out.mine.read p.1 HNL.out
            rw [HKd.out.read HWF.out hp] at hrd
            obtain ⟨hs1, hs2, hs3⟩ := HKd.out.sync HWF.out hp
            have HK2 : Hid (Kd m1 (mj.sync p.1).1 (j2 + 1)) := hs2
            have HC3 : Hid ((mj.sync p.1).1.calls = mj.calls + 1) := hs3
            have HS1 : Hid ((mj.sync p.1).2 = 0) := hs1
            have HWK : Hid (wl.take (j2 + 1) = wl.take j2 ++ [m1.dat p.2]) := by
              rw [HWL.out]
              show List.take (j2 + 1) _ = _
              rw [List.take_add_one, List.getElem?_map, hp]
              rfl
            clear hs1 hs2 hs3 hp
            subst hna
            go_wp2_with fail
            refine hrd.mono ?_
            rintro e w6 ⟨v, rfl, hFr, hB6⟩
            have HMZ : Hid (MineX (fun k => Own2 NV u12 k ∨ v.ownBlock = some k) w2 w6 d mj) := HMX.out.more hB6 (fun k hk => by
              rcases hk with q | q
              · exact .inl q
              · exact .inr (hFr.block q))
            have hsy : Calls Try.prog 26 #[.pointer (some ⟨d, 0, none⟩), .string (str p.1)] w6 fun e w' => e = .returned (.int .i64 0) ∧ MineX (fun k => Own2 NV u12 k ∨ v.ownBlock = some k) w2 w' d (mj.sync p.1).1 ∧ ∀ k, (Own2 NV u12 k ∨ v.ownBlock = some k) → w'.heap[k]? = w6.heap[k]? := by
              have q := HMZ.out.sync (by have := HCL.out; omega) p.1 HNL.out
              rw [HS1.out] at q
              exact q
            have HB6 : Hid (Below wr.heap.size wr w6) := hB6
            have HFR : Hid (Fresh w6 wr.heap.size v (m1.dat p.2)) := hFr
            clear hrd hB6 hFr
            go_wp2_with fail
            refine hsy.mono ?_
            rintro e w7 ⟨rfl, hMZ7, hX7⟩
            have HMZ7 : Hid (MineX (fun k => Own2 NV u12 k ∨ v.ownBlock = some k) w2 w7 d (mj.sync p.1).1) := hMZ7
            have HTN7 : Hid (Texts w7 w4.heap.size NV (m1.names.map (·.1))) := (HTN.out.later HB6.out).at_ (fun b hb => hX7 b (.inl (.inl hb)))
            have HTW7 : Hid (Texts w7 w2.heap.size u12 (wl.take j2)) := (HTW.out.later HB6.out).at_ (fun b hb => hX7 b (.inl (.inr hb)))
            obtain ⟨va, vc, hva, hby, _⟩ := HFR.out.1.bys
            subst hva
            have hby7 : Bys w7 va (m1.dat p.2).length (m1.dat p.2) := hby.move (fun b off ha _ => hX7 b (.inr (by rw [ha]; rfl)))
            have hcv := conv_bys (cap := vc) hby7
            clear hsy hMZ7 hX7 hby hby7
            obtain ⟨D, HD⟩ : ∃ D, Hid (D = m1.dat p.2) := ⟨_, rfl⟩
            rw [← HD.out] at hcv HWK ⊢
            have HLT : Hid ((wl.take j2).length = j2) := by show _ = _; rw [List.length_take, HLW.out]; omega
            obtain ⟨W8, HW8⟩ : ∃ W, Hid (W = w7.alloc (.cells #[.string (str D)] 9)) := ⟨_, rfl⟩
            have HB8 : Hid (Below w7.heap.size w7 W8) := by rw [HW8.out]; exact (Below.refl _ w7).alloc (Nat.le_refl _) _
            have HTN8 : Hid (Texts W8 w4.heap.size NV (m1.names.map (·.1))) := HTN7.out.later HB8.out
            have HTW8 : Hid (Texts W8 w2.heap.size u12 (wl.take j2)) := HTW7.out.later HB8.out
            have HMZ8 : Hid (MineX (fun k => Own2 NV u12 k ∨ (Value.slice va D.length vc).ownBlock = some k) w2 W8 d (mj.sync p.1).1) := by
              have q := HMZ7.out.later HB8.out
              rw [← HD.out] at q
              exact q
            have HOW8 : Hid (W8.ownsRow w2.heap.size 9 1 u12 j2 ((wl.take j2).map fun n => .string (str n))) := by
              have q := HTW8.out
              unfold Texts at q
              rw [HLT.out] at q
              exact q
            have hbase : w2.heap.size ≤ W8.heap.size := HMZ8.out.bel.size
            have hce := cell1 w7 (.string (str D)) 9
            rw [← HW8.out] at hce
            have HNE : Hid (∀ k, NV.ownBlock = some k → k < w7.heap.size) := fun k hk => (HTN7.out.block hk).2
            have HSZ : Hid (W8.heap.size = w7.heap.size + 1) := by
              have q : W8.heap.size = w7.heap.size + 1 := by rw [HW8.out]; simp
              exact q
            clear HMZ7 HTN7 HTW7 HMZ hcn hg hce
            go_wp2_with (at_builtin; refine wpList_append_own_at _ rfl _ _ 45 rfl w2.heap.size 9 i0 (.string ⟨#[]⟩) 1 16 Try.underlying45 hi0 hz0 hz1 hz2 rfl (by decide) u12 j2 ((wl.take j2).map fun n => .string (str n)) rfl (by rw [← HW8.out]; exact HOW8.out) ⟨w7.heap.size, 0, none⟩ 1 1 [.string (str D)] rfl rfl (cell1 _ _ _) (by intro u hu; rw [List.mem_singleton.1 hu]; rfl) ?_ ?_ ?_ ?_)
            · unfold maxLen; omega
            · omega
            · rw [← HW8.out]; exact hbase
            rw [← HW8.out]
            intro v' w9 hown' hgrow _ hblk
            have HTN9 : Hid (Texts w9 w4.heap.size NV (m1.names.map (·.1))) := HTN8.out.grown hgrow HDIS.out
            have HTW9 : Hid (Texts w9 w2.heap.size v' (wl.take (j2 + 1))) := by
              unfold Hid Texts
              rw [HWK.out, List.length_append, HLT.out, List.map_append, List.map_take]
              exact hown'
            have HMX9 : Hid (MineX (Own2 NV v') w2 w9 d (mj.sync p.1).1) := HMZ8.out.grown (Y := fun k => u12.ownBlock = some k) (Only.of_grown hgrow fun k hk => .inl hk) (fun k hk => .inl (.inr hk)) (fun k hk => (HTW8.out.block hk).1) (fun k hk => by
              rcases hk with q | q
              · exact .inl (.inl (.inl q))
              · rcases hblk with e | e
                · exact .inl (.inl (.inr (by rw [← e]; exact q)))
                · refine .inr ?_
                  have hb := HTW9.out.block q
                  rw [e] at q
                  cases q
                  exact ⟨by have := HSZ.out; omega, hb.2⟩)
            have HDIS9 : Hid (∀ k, NV.ownBlock = some k → v'.ownBlock ≠ some k) := fun k hk q => by
              rcases hblk with e | e
              · exact HDIS.out k hk (by rw [← e]; exact q)
              · rw [e] at q
                cases q
                have := HNE.out _ hk
                have := HSZ.out
                omega
            clear hown' hgrow hblk hcv
            rw [HNV.out] at HTN9 HMX9 HDIS9
            go_wp2
            go_roundw
            case rel => exact ⟨j2 + 1, _, by omega, by go_num, HK2.out, HMX9.out, HTN9.out, HTW9.out, HDIS9.out, by have := HCL.out; have := HC3.out; omega⟩
            case measure => simp [intOf]; omega
          · obtain rfl : j2 = nn := by omega
            have HWW : Hid (wl.take j2 = wl) := List.take_of_length_le (by rw [HLW.out]; exact Nat.le_refl _)
            rw [HWW.out] at HTW
            obtain ⟨q1, q2, q3⟩ := HKd.out.dir HMX.out.mine.wf (by rw [HNN.out]; exact Nat.le_refl _)
            have HGD : Hid (Gd m1.names m1.dat mj.syncDir.1) := q2
            have hsd : Calls Try.prog 27 #[.pointer (some ⟨d, 0, none⟩)] wr fun e w' => e = .returned (.int .i64 0) ∧ MineX (Own2 (.slice na j2 nc) u12) w2 w' d mj.syncDir.1 ∧ ∀ k, Own2 (.slice na j2 nc) u12 k → w'.heap[k]? = wr.heap[k]? := by
              have q := HMX.out.syncDir (by have := HCL.out; omega)
              rw [q1] at q
              exact q
            have HCM : Hid (mj.syncDir.1.calls ≤ 300) := by have := HCL.out; unfold Hid; omega
            clear q1 q2 q3
            go_wp2_with fail
            refine hsd.mono ?_
            rintro e w6 ⟨rfl, hM6, hX6⟩
            have HM6 : Hid (MineX (Own2 (.slice na j2 nc) u12) w2 w6 d mj.syncDir.1) := hM6
            have HTN6 : Hid (Texts w6 w4.heap.size (.slice na j2 nc) (m1.names.map (·.1))) := HTN.out.at_ (fun b hb => hX6 b (.inl hb))
            have HTW6 : Hid (Texts w6 w2.heap.size u12 wl) := HTW.out.at_ (fun b hb => hX6 b (.inr hb))
            clear hsd hM6 hX6 HMX HTN HTW HKd HX0 HTX
            go_wp2_with (first | (go_at_call 13; refine (hsh' _).mono ?_; rintro e w' ⟨rfl, rfl⟩))
            generalize mj.syncDir.1 = m6 at *
            generalize u12 = wv at *
            go_loopw [92] (fun i wr => ∃ j3 : Nat, ∃ mk : M, j3 ≤ n' ∧ i = .int .i64 j3 ∧ Gd m1.names m1.dat mk ∧ MineX (Own2 (.slice na j2 nc) wv) w2 wr d mk ∧ Texts wr w4.heap.size (.slice na j2 nc) (m1.names.map (·.1)) ∧ Texts wr w2.heap.size wv wl ∧ mk.calls ≤ 300 + j3) (fun i _ => n' - (intOf i).toNat)
            case atStart => exact ⟨0, m6, Nat.zero_le _, rfl, HGD.out, HM6.out, HTN6.out, HTW6.out, HCM.out⟩
            case round =>
              obtain ⟨j3, mk, hj3, rfl, hG, hMX, hTN, hTW, hcl⟩ := hrel
              have HG : Hid (Gd m1.names m1.dat mk) := hG
              have HMX : Hid (MineX (Own2 (.slice na j2 nc) wv) w2 wr d mk) := hMX
              have HTN : Hid (Texts wr w4.heap.size (.slice na j2 nc) (m1.names.map (·.1))) := hTN
              have HTW : Hid (Texts wr w2.heap.size wv wl) := hTW
              have HCL : Hid (mk.calls ≤ 300 + j3) := hcl
              clear hG hMX hTN hTW hcl
              by_cases hlt3 : j3 < n'
              · obtain ⟨b, off, rfl, hbl, hc⟩ := HAW'.out.mem (by omega)
                have HR : Hid (RawOk w2 (ts'.getD j3 raw0)) := HAW'.out.ok j3 hlt3
                have HDR : Hid ((ts'.getD j3 raw0).dl ≤ 524288) := HDL'.out j3 (by rw [← HAW'.out.ln]; exact hlt3)
                have hcc := fun i hi => (HMX.out.bel.cell (p := ⟨b, off + j3 * 6 + i, none⟩) hbl).trans (hc j3 hlt3 i hi)
                clear hc
                obtain ⟨r, hr⟩ : ∃ r, r = ts'.getD j3 raw0 := ⟨_, rfl⟩
                rw [← hr] at HR HDR hcc
                have c0 : wr.cell? ⟨b, off + j3 * 6, none⟩ = some (.int .u8 r.act.kind) := hcc 0 (by decide)
                have c1 : wr.cell? ⟨b, off + j3 * 6 + 1, none⟩ = some (.string (str r.act.nA)) := hcc 1 (by decide)
                have c2 : wr.cell? ⟨b, off + j3 * 6 + 2, none⟩ = some (.string (str r.act.nB)) := hcc 2 (by decide)
                have c3 : wr.cell? ⟨b, off + j3 * 6 + 3, none⟩ = some (.slice r.da r.dl r.dc) := hcc 3 (by decide)
                have c4 : wr.cell? ⟨b, off + j3 * 6 + 4, none⟩ = some (.int .i64 r.act.num) := hcc 4 (by decide)
                have c5 : wr.cell? ⟨b, off + j3 * 6 + 5, none⟩ = some (.slice r.ka r.kl r.kc) := hcc 5 (by decide)
                clear hcc hr
                obtain ⟨V, HV⟩ : ∃ V, Hid (V = wr.alloc (.cells #[.int .u8 r.act.kind, .string (str r.act.nA), .string (str r.act.nB), .slice r.da r.dl r.dc, .int .i64 r.act.num, .slice r.ka r.kl r.kc] 40)) := ⟨_, rfl⟩
                have HBV : Hid (Below wr.heap.size wr V) := by rw [HV.out]; exact (Below.refl _ wr).alloc (Nat.le_refl _) _
                have HK8 : Hid (r.act.kind < 256) := HR.out.kind
                by_cases hk1 : r.act.kind % 8 = 1
                · have hd1 : ((r.act.kind : Int) % 8 == 1) = true := by simp; omega
                  have hk12 : r.act.kind % 8 = 1 ∨ r.act.kind % 8 = 2 := .inl hk1
                  have hdoes := (HMX.out.later HBV.out).does (by have := HCL.out; omega) r HR.out (by have := HDR.out; omega)
                  go_wp2_with fail
                  rw [← HV.out]
                  refine hdoes.mono ?_
                  rintro e w7 ⟨rfl, hM7, hX7⟩
                  have HM7 : Hid (MineX (Own2 (.slice na j2 nc) wv) w2 w7 d (mk.act r.act).1) := hM7
                  have HTN7 : Hid (Texts w7 w4.heap.size (.slice na j2 nc) (m1.names.map (·.1))) := (HTN.out.later HBV.out).at_ (fun b hb => hX7 b (.inl hb))
                  have HTW7 : Hid (Texts w7 w2.heap.size wv wl) := (HTW.out.later HBV.out).at_ (fun b hb => hX7 b (.inr hb))
                  have HG7 : Hid (Gd m1.names m1.dat (mk.act r.act).1) := HG.out.act r.act hk12
                  clear c0 c1 c2 c3 c4 c5 hdoes hM7 hX7
                  go_wp2
                  go_roundw
                  case rel => exact ⟨j3 + 1, _, by omega, by go_num, HG7.out, HM7.out, HTN7.out, HTW7.out, by have := HCL.out; have := act_calls mk r.act; omega⟩
                  case measure => simp [intOf]; omega
                · have hd1 : ((r.act.kind : Int) % 8 == 1) = false := by simp; omega
                  by_cases hk2 : r.act.kind % 8 = 2
                  · have hd2 : ((r.act.kind : Int) % 8 == 2) = true := by simp; omega
                    have hk12 : r.act.kind % 8 = 1 ∨ r.act.kind % 8 = 2 := .inr hk2
                    have hdoes := (HMX.out.later HBV.out).does (by have := HCL.out; omega) r HR.out (by have := HDR.out; omega)
                    go_wp2_with fail
                    rw [← HV.out]
                    refine hdoes.mono ?_
                    rintro e w7 ⟨rfl, hM7, hX7⟩
                    have HM7 : Hid (MineX (Own2 (.slice na j2 nc) wv) w2 w7 d (mk.act r.act).1) := hM7
                    have HTN7 : Hid (Texts w7 w4.heap.size (.slice na j2 nc) (m1.names.map (·.1))) := (HTN.out.later HBV.out).at_ (fun b hb => hX7 b (.inl hb))
                    have HTW7 : Hid (Texts w7 w2.heap.size wv wl) := (HTW.out.later HBV.out).at_ (fun b hb => hX7 b (.inr hb))
                    have HG7 : Hid (Gd m1.names m1.dat (mk.act r.act).1) := HG.out.act r.act hk12
                    clear c0 c1 c2 c3 c4 c5 hdoes hM7 hX7
                    go_wp2
                    go_roundw
                    case rel => exact ⟨j3 + 1, _, by omega, by go_num, HG7.out, HM7.out, HTN7.out, HTW7.out, by have := HCL.out; have := act_calls mk r.act; omega⟩
                    case measure => simp [intOf]; omega
                  · have hd2 : ((r.act.kind : Int) % 8 == 2) = false := by simp; omega
                    go_wp2
                    rw [← HV.out]
                    go_roundw
                    case rel => exact ⟨j3 + 1, mk, by omega, by go_num, HG.out, HMX.out.later HBV.out, HTN.out.later HBV.out, HTW.out.later HBV.out, by have := HCL.out; omega⟩
                    case measure => simp [intOf]; omega
              · have HRI : Hid (Rising m1.names) := HM4.out.wf.okN.rise
                have harm := HMX.out.arm 0 (by decide)
                go_wp2_with fail
                refine harm.mono ?_
                rintro e w7 ⟨rfl, hM7, hX7⟩
                have HM7 : Hid (MineX (Own2 (.slice na j2 nc) wv) w2 w7 d (mk.arm 0)) := hM7
                have HTN7 : Hid (Texts w7 w4.heap.size (.slice na j2 nc) (m1.names.map (·.1))) := HTN.out.at_ (fun b hb => hX7 b (.inl hb))
                have HTW7 : Hid (Texts w7 w2.heap.size wv wl) := HTW.out.at_ (fun b hb => hX7 b (.inr hb))
                have hsd : Calls Try.prog 27 #[.pointer (some ⟨d, 0, none⟩)] w7 fun e w' => e = .returned (.int .i64 15) ∧ MineX (Own2 (.slice na j2 nc) wv) w2 w' d (mk.arm 0).off ∧ ∀ k, Own2 (.slice na j2 nc) wv k → w'.heap[k]? = w7.heap[k]? := by
                  have q := HM7.out.syncDir (by show mk.calls < _; have := HCL.out; omega)
                  rw [HG.out.lost] at q
                  exact q
                obtain ⟨g1, g2, g3⟩ := HG.out.again HRI.out zs
                have HG2 : Hid (((mk.arm 0).off.start 0 zs).1.list = m1.names.map (·.1)) := g2
                have HG3 : Hid (∀ p ∈ m1.names, ∃ x, ((mk.arm 0).off.start 0 zs).1.read p.1 = (x, 0) ∧ m1.dat p.2 <+: x) := g3
                clear harm hM7 hX7 HMX HTN HTW
                go_wp2_with fail
                refine hsd.mono ?_
                rintro e w8 ⟨rfl, hM8, hX8⟩
                have HTN8 : Hid (Texts w8 w4.heap.size (.slice na j2 nc) (m1.names.map (·.1))) := HTN7.out.at_ (fun b hb => hX8 b (.inl hb))
                have HTW8 : Hid (Texts w8 w2.heap.size wv wl) := HTW7.out.at_ (fun b hb => hX8 b (.inr hb))
                have hst : Calls Try.prog 28 #[.pointer (some ⟨d, 0, none⟩), .int .i64 0, .slice ka kl kc] w8 fun e w' => e = .returned (.int .i64 0) ∧ MineX (Own2 (.slice na j2 nc) wv) w2 w' d ((mk.arm 0).off.start 0 zs).1 ∧ ∀ k, Own2 (.slice na j2 nc) wv k → w'.heap[k]? = w8.heap[k]? := by
                  have q := hM8.start (by show mk.calls < _; have := HCL.out; omega) 0 ka kl kc zs HKW.out.1 HKW.out.2.1 HKW.out.2.2
                  rw [g1] at q
                  exact q
                clear hsd hM8 hX8 HTN7 HTW7 g1 g2 g3 HM7
                generalize ((mk.arm 0).off.start 0 zs).1 = m9 at *
                go_wp2_with fail
                refine hst.mono ?_
                rintro e w9 ⟨rfl, hM9, hX9⟩
                have HM9 : Hid (Mine w2 w9 d m9) := hM9.mine
                have HTN9 : Hid (Texts w9 w4.heap.size (.slice na j2 nc) (m1.names.map (·.1))) := HTN8.out.at_ (fun b hb => hX9 b (.inl hb))
                have HTW9 : Hid (Texts w9 w2.heap.size wv wl) := HTW8.out.at_ (fun b hb => hX9 b (.inr hb))
                have hnm := HM9.out.names
                rw [HG2.out] at hnm
                clear hst hM9 hX9 HTN8 HTW8
                go_wp2_with fail
                refine hnm.mono ?_
                rintro e wa ⟨nv2, rfl, hTX2, hBa⟩
                have htx := texts_same hTX2 (HTN9.out.later hBa)
                have HMa : Hid (Mine w2 wa d m9) := HM9.out.later hBa
                have HTNa : Hid (Texts wa w4.heap.size (.slice na j2 nc) (m1.names.map (·.1))) := HTN9.out.later hBa
                have HTWa : Hid (Texts wa w2.heap.size wv wl) := HTW9.out.later hBa
                clear hnm hTX2 hBa HTN9 HTW9 HM9
                go_wp2_with fail
                refine htx.mono ?_
                rintro e wb ⟨rfl, hBb⟩
                have HMb : Hid (Mine w2 wb d m9) := HMa.out.later hBb
                have HTNb : Hid (Texts wb w4.heap.size (.slice na j2 nc) (m1.names.map (·.1))) := HTNa.out.later hBb
                have HTWb : Hid (Texts wb w2.heap.size wv wl) := HTWa.out.later hBb
                clear htx hBb HTNa HTWa HMa
                go_wp2_with fail
                go_loopw [129] (fun i wr => ∃ j4 : Nat, j4 ≤ j2 ∧ i = .int .i64 j4 ∧ Below wb.heap.size wb wr) (fun i _ => j2 - (intOf i).toNat)
                case atStart => exact ⟨0, Nat.zero_le _, rfl, Below.refl _ _⟩
                case round =>
                  obtain ⟨j4, hj4, rfl, hBr⟩ := hrel
                  have HBr : Hid (Below wb.heap.size wb wr) := hBr
                  clear hBr
                  by_cases hlt4 : j4 < j2
                  · obtain ⟨p, hp⟩ : ∃ p, m1.names[j4]? = some p := ⟨_, List.getElem?_eq_getElem (by rw [← HNN.out]; exact hlt4)⟩
                    obtain ⟨g, c1, e1, _, hg, hcn, _, _⟩ := (HTNb.out.later HBr.out).cell (j := j4) (n := p.1) (by rw [List.getElem?_map, hp]; rfl)
                    obtain ⟨gw, cw, e2, _, hgw, hcw, hcw1, hcw2⟩ := (HTWb.out.later HBr.out).cell (j := j4) (n := m1.dat p.2) (by rw [HWL.out, List.getElem?_map, hp]; rfl)
                    have hna : na = some ⟨g, 0, none⟩ := by injection e1
                    have HMr : Hid (Mine w2 wr d m9) := HMb.out.later HBr.out
                    have HNL : Hid (p.1.length ≤ maxLen) := HM4.out.wf.nm_le (List.mem_of_getElem? hp)
                    obtain ⟨x, hx1, hx2⟩ := HG3.out p (List.mem_of_getElem? hp)
                    have hrd := HMr.out.read p.1 HNL.out
                    rw [hx1] at hrd
                    rw [HLW.out] at e2 hcw1
                    have HPX : Hid (m1.dat p.2 <+: x) := hx2
                    have HDX : Hid ((m1.dat p.2).length ≤ x.length) := hx2.length_le
                    generalize m1.dat p.2 = D at *
                    clear e1 hx1 hx2 hp
                    subst hna
                    subst e2
                    go_wp2_with fail
                    refine hrd.mono ?_
                    rintro e wc ⟨v, rfl, hFr, hBc⟩
                    obtain ⟨va, vc, hva, hby, hxc, hcm, _⟩ := hFr.1.bys
                    subst hva
                    have hcw' : wc.cell? ⟨gw, j4, none⟩ = some (.string (str D)) := (hBc.cell (p := ⟨gw, j4, none⟩) hgw).trans hcw
                    have hsz : (str D).size = D.length := str_size _
                    have hxt : x.take D.length = D := by
                      obtain ⟨y, hy⟩ := HPX.out
                      rw [← hy, List.take_left]
                    have hbt := hby.take D.length HDX.out
                    rw [hxt] at hbt
                    have hcv : ∀ m, (convert 37 9 (.slice va D.length vc)).run Try.prog (wc.drewN m) = .ok (.string (str D)) (wc.drewN m) := fun m => conv_bys (cap := vc) (hbt.later (below_drewN (Below.refl _ _) m))
                    have hq : ((str D).toList == (str D).toList) = true := beq_self_eq_true _
                    have hdx := HDX.out
                    have HBc : Hid (Below wb.heap.size wb wc) := HBr.out.trans (hBc.mono HBr.out.size)
                    have hxm : x.length ≤ maxLen := Nat.le_trans hxc hcm
                    clear hrd hFr hby hbt hBc hcw hcn hg hgw hxt HPX HDX
                    generalize str D = S at *
                    generalize D.length = dl at *
                    generalize x.length = xl at *
                    unfold maxLen at hxm
                    have hdd : decide ((xl : Int) < (dl : Int)) = false := decide_eq_false (by omega)
                    have hdc : dl ≤ vc := by omega
                    go_wp2_with fail
                    go_quiet (fail)
                    go_wp2
                    go_roundw
                    case rel => exact ⟨j4 + 1, by omega, by go_num, below_drewN HBc.out _⟩
                    case measure => simp [intOf]; omega
                  · have hal := alive_any wr
                    go_wp2_with fail
                    refine hal.mono ?_
                    rintro e wz ⟨rfl, hBz⟩
                    have hB1 := HMb.out.bel.trans (HBr.out.mono HMb.out.bel.size)
                    have HBf : Hid (Below w.heap.size w wz) := HB2.out.trans ((hB1.trans (hBz.mono hB1.size)).mono HB2.out.size)
                    clear hBz hal hB1
                    go_wp2
                    go_ret
                    exact ⟨rfl, HBf.out⟩
      · have hon2 : m.on = false := by simpa using hon1
        rw [hon2] at hon
        go_wp2_with (first | (go_at_call 16; refine hon.mono ?_; rintro e w' ⟨rfl, rfl⟩))
        refine (alive_any _).mono ?_
        rintro e w9 ⟨rfl, hB9⟩
        have HBf : Hid (Below w.heap.size w w9) := HB2.out.trans ((HM.out.bel.trans (hB9.mono HM.out.bel.size)).mono HB2.out.size)
        clear hB9
        go_wp2
        go_ret
        exact ⟨rfl, HBf.out⟩
end Go.Proofs.Yteencknmfjegiaa.Dsk
