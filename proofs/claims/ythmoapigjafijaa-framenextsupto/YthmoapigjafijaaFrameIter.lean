/- (row).frames: the frames, one behind the other. -/
import Derived.Test.YthmoapigjafijaaFrameScan0
import Derived.BigRegionIn
import Derived.BigQuiet
import Derived.Deep.QuietTactic
namespace Go.Proofs.Ythmoapigjafijaa.Frm
open Go.RowKit Crc
set_option linter.unusedSimpArgs false
set_option linter.unusedVariables false
set_option maxRecDepth 100000
attribute [local go_sem] Oper.semAt_some

def Ia (w : World) (l : List UInt8) (s0 : Int) (Rn Ln B : Nat) (pre : List Fr) (W : World) : Prop := RunAt w l s0 Rn W pre ∧ ListAt B Ln W pre ∧ Below w.heap.size w W
def Ib (w : World) (l : List UInt8) (s0 : Int) (Rn Ln B : Nat) (pre : List Fr) (x : Fr) (W : World) : Prop := RunAt w l s0 Rn W (pre ++ [x]) ∧ ListAt B Ln W pre ∧ dat B W x ∧ Below w.heap.size w W
theorem grown_of_below {w w' : World} (h : Below w.heap.size w w') : w.grownBy w' none := ⟨h.os, h.tape, h.output, h.size, fun k hk _ => h.block k hk⟩
theorem nxtE_cases (b : List UInt8) : nxtE b = 0 ∨ nxtE b = 1 ∨ nxtE b = 3 ∨ nxtE b = 4 ∨ nxtE b = 5 ∨ nxtE b = 13 := by
  unfold nxtE
  repeat' split
  all_goals simp
theorem below_drewN {w w' : World} {B : Nat} (h : Below B w w') (k : Nat) : Below B w (w'.drewN k) := ⟨h.os, h.tape, h.output, h.size, h.block⟩
def leftLen (Rn : Nat) (W : World) : Nat := match W.cell? ⟨Rn, 0, none⟩ with
  | some (.slice _ n _) => n
  | _ => 0
theorem leftLen_row {W : World} {Rn : Nat} {t : TypeId} {a : Option Addr} {n c : Nat} {r : List Value} (h : Row W Rn t (.slice a n c :: r)) : leftLen Rn W = n := by
  unfold leftLen
  rw [h.cell]
  rfl

set_option maxHeartbeats 2000000 in
theorem frames_in (n : Nat) (hn : 1 ≤ n) (w : World) (l : List UInt8) (s0 : Int) (hs0 : (Lit.int .i64 s0).wf = true) (Rn Ln B : Nat) (hRn : w.heap.size ≤ Rn) (hB : B ≤ w.heap.size) (hl : l.length ≤ 140737488355328) (lp : Nat) (bk : World → Prop) (W1 : World) (hbk : ∀ W W', bk W → KeepsOthers W W' → bk W')
    (hY : ∀ pre x W, Ib w l s0 Rn Ln B pre x W → bk W → YieldAt Fence.wide (n - 1) Try.prog lp (encF x) W fun e W' => e = .returned (.bool true) ∧ Ia w l s0 Rn Ln B (pre ++ [x]) W' ∧ bk W') (h0 : Ia w l s0 Rn Ln B [] W1) (hb0 : bk W1) :
    CallsIn Fence.wide n Try.prog 30 (#[.pointer (some ⟨Rn, 0, none⟩)] ++ #[.func (.yield lp) #[] #[]]) W1 fun e W' => (∃ v, e = .returned v) ∧ ∃ xs, xs.map Fr.sd = scz l s0 ∧ Ia w l s0 Rn Ln B xs W' ∧ bk W' := by
  refine callsIn_of_wp Try.func30 rfl trivial ?_ rfl
  simp only [Try.ntmps30, List.size_toArray, List.length_cons, List.length_nil, Nat.reduceAdd, Nat.reduceSub, Array.replicate_succ, Array.replicate_zero, List.push_toArray, List.append_toArray, List.nil_append, List.cons_append]
  have HY : Hid (∀ pre x W, Ib w l s0 Rn Ln B pre x W → bk W → YieldAt Fence.wide (n - 1) Try.prog lp (encF x) W fun e W' => e = .returned (.bool true) ∧ Ia w l s0 Rn Ln B (pre ++ [x]) W' ∧ bk W') := hY
  have HBK : Hid (∀ W W', bk W → KeepsOthers W W' → bk W') := hbk
  clear hY hbk
  gi_wp2
  gi_loopw [] (fun wr => ∃ pre, Ia w l s0 Rn Ln B pre wr ∧ bk wr) (fun wr => leftLen Rn wr)
  case atStart => exact ⟨[], h0, hb0⟩
  case round =>
    obtain ⟨pre, ⟨⟨a, len, cap, hRr, hBy, hlc, hcm, hsc, hwd, hpos⟩, hLi, hBe⟩, hbw⟩ := hrel
    have HRr : Hid (Row wr Rn 66 [.slice a len cap, .int .i64 (s0 + pre.length), .int .i64 (wdF pre)]) := hRr
    have HLi : Hid (ListAt B Ln wr pre) := hLi
    have HBe : Hid (Below w.heap.size w wr) := hBe
    have HSC : Hid (scz l s0 = pre.map Fr.sd ++ scz (l.drop (wdF pre)) (s0 + pre.length)) := hsc
    have HBy : Hid (Bys wr a len (l.drop (wdF pre))) := hBy.later hBe (Nat.le_refl _)
    have HBy0 : Hid (Bys w a len (l.drop (wdF pre))) := hBy
    have HBW : Hid (bk wr) := hbw
    have HLC : Hid (len ≤ cap) := hlc
    have HCM : Hid (cap ≤ maxLen) := hcm
    have HPOS : Hid (pre ≠ [] → 1 ≤ s0 ∧ s0 + pre.length ≤ 4611686018427387905) := hpos
    obtain ⟨q, HQ⟩ : ∃ q : Int, Hid (q = s0 + pre.length) := ⟨_, rfl⟩
    obtain ⟨dn, HDN⟩ : ∃ dn : Nat, Hid (dn = wdF pre) := ⟨_, rfl⟩
    obtain ⟨rest, HRE⟩ : ∃ r, Hid (r = l.drop (wdF pre)) := ⟨_, rfl⟩
    rw [← HQ.out] at HSC
    rw [← HRE.out] at HSC HBy HBy0
    rw [← HQ.out, ← HDN.out] at HRr
    have hc0 : wr.cell? ⟨Rn, 0, none⟩ = some (.slice a len cap) := by rw [HRr.out.cell]; rfl
    clear hRr hLi hBe hsc hBy hbw hlc hcm hpos
    have hend : scz rest q = [] → ∀ W', Below wr.heap.size wr W' → ∃ xs, xs.map Fr.sd = scz l s0 ∧ Ia w l s0 Rn Ln B xs W' ∧ bk W' := by
      intro h0 W' hb
      refine ⟨pre, by rw [HSC.out, h0, List.append_nil], ⟨⟨a, len, cap, ?_, by rw [← HRE.out]; exact HBy0.out, HLC.out, HCM.out, by rw [← HRE.out, ← HQ.out]; exact HSC.out, hwd, HPOS.out⟩, HLi.out.cks (Cks.of_below hb) (fun k e => by cases e), HBe.out.trans (hb.mono HBe.out.size)⟩, HBK.out _ _ HBW.out (KeepsOthers.of_grownBy (grown_of_below hb) (fun j o e => by cases e))⟩
      rw [← HQ.out, ← HDN.out]
      exact HRr.out.cks (Cks.of_below hb) (by simp)
    have HEND : Hid (scz rest q = [] → ∀ W', Below wr.heap.size wr W' → ∃ xs, xs.map Fr.sd = scz l s0 ∧ Ia w l s0 Rn Ln B xs W' ∧ bk W') := hend
    clear hend
    by_cases hE : nxtE rest = 0
    · have HE : Hid (nxtE rest = 0) := hE
      obtain ⟨z1, z2, z3, z4, z5, z6⟩ := nxt_sound rest hE
      obtain ⟨S, HS⟩ : ∃ S, Hid (S = nxtS rest) := ⟨_, rfl⟩
      obtain ⟨N, HN⟩ : ∃ N, Hid (N = nxtN rest) := ⟨_, rfl⟩
      obtain ⟨D, HD⟩ : ∃ D, Hid (D = nxtD rest) := ⟨_, rfl⟩
      rw [← HS.out] at z1 z2
      rw [← HN.out] at z4 z5
      rw [← HD.out] at z3 z4
      unfold most at z3
      unfold maxSeq at z2
      have HLR : Hid (len = rest.length) := HBy0.out.1
      rw [← HLR.out] at z5
      have hc1 : wr.cell? ⟨Rn, 1, none⟩ = some (.int .i64 q) := by rw [HRr.out.cell]; rfl
      have hc2 : wr.cell? ⟨Rn, 2, none⟩ = some (.int .i64 dn) := by rw [HRr.out.cell]; rfl
      have hRlt : Rn < wr.heap.size := HRr.out.lt
      have HZ4 : Hid (N = 20 + D.length) := z4
      have hN20 : 20 ≤ N := by omega
      have hNle : N ≤ 262164 := by omega
      clear z6 hE z4 z3
      by_cases hq : (S : Int) = q
      · have hq2 : ((S : Int) != q) = false := by rw [bne_eq_false_iff_eq]; exact hq
        have HSQ : Hid ((S : Int) = q) := hq
        obtain ⟨b, off, ha, hX, hY⟩ := HBy.out.2 (by omega)
        have HA : Hid (a = some ⟨b, off, none⟩) := ha
        clear hX hY ha hq
        rw [HA.out] at HBy HBy0 HRr hc0
        refine wpIn_wide.2 ?_
        go_wp2_with fail
        refine (next_ok _ _ _ _ _ HBy.out HLC.out HCM.out HE.out S N D HS.out.symm HN.out.symm HD.out.symm).mono ?_
        rintro e w2 ⟨gv, cv, cur, rfl, hgv, hRv, htk, hlc, hcm, hB2⟩
        have hcq : (w2.alloc (.cells #[.int .i64 S, .slice (some ⟨gv, 0, none⟩) D.length cv] 28)).cell? ⟨Rn, 1, none⟩ = some (.int .i64 q) := ((hB2.alloc hB2.size _).cell (p := ⟨Rn, 1, none⟩) hRlt).trans hc1
        go_upto_region 1 with fail
        go_quiet (fail)
        clear hcq hc0 hc1 hc2
        obtain ⟨W2, HW2⟩ : ∃ W2, Hid (W2 = (w2.alloc (.cells #[.int .i64 S, .slice (some ⟨gv, 0, none⟩) D.length cv] 28)).drewN nq) := ⟨_, rfl⟩
        obtain ⟨fb, HFB⟩ : ∃ fb, Hid (fb = w2.heap.size) := ⟨_, rfl⟩
        rw [← HW2.out, ← HFB.out]
        have hBW2 : Hid (Below wr.heap.size wr W2) := by rw [HW2.out]; exact below_drewN (hB2.alloc hB2.size _) nq
        have hRf : Hid (Row W2 fb 28 [.int .i64 S, .slice (some ⟨gv, 0, none⟩) D.length cv]) := by
          rw [HW2.out, HFB.out]
          exact Row.mk w2 [.int .i64 S, .slice (some ⟨gv, 0, none⟩) D.length cv] _
        have hRv2 : Hid (Row W2 gv 5 cur) := by rw [HW2.out]; exact hRv.old _
        have hRr2 : Hid (Row W2 Rn 66 [.slice (some ⟨b, off, none⟩) len cap, .int .i64 q, .int .i64 dn]) := HRr.out.cks (Cks.of_below hBW2.out) (by simp)
        have hfbR : fb ≠ Rn := by have h1 := hB2.size; have h2 := HFB.out; omega
        have HTK : Hid (cur.take D.length = byC D) := htk
        have HCV : Hid (D.length ≤ cv ∧ cv ≤ maxLen) := ⟨hlc, hcm⟩
        have HGV : Hid (wr.heap.size ≤ gv) := hgv
        clear HW2 HFB hB2 hRv htk hgv hlc hcm
        obtain ⟨P, hP⟩ : ∃ P : Option Addr, (if cap = N then some (⟨b, off, none⟩ : Addr) else some ⟨b, off + N, none⟩) = P := ⟨_, rfl⟩
        have HByn : Hid (Bys w P (len - N) (rest.drop N)) := bys_drop HBy0.out N (by omega) P (fun hlt b' off' e => by cases e; rw [← hP, if_neg (by have := HLC.out; omega)])
        have hd0 : W2.cell? ⟨Rn, 0, none⟩ = some (.slice (some ⟨b, off, none⟩) len cap) := by rw [hRr2.out.cell]; rfl
        have hd1 : W2.cell? ⟨Rn, 1, none⟩ = some (.int .i64 q) := by rw [hRr2.out.cell]; rfl
        have hd2 : W2.cell? ⟨Rn, 2, none⟩ = some (.int .i64 dn) := by rw [hRr2.out.cell]; rfl
        have hf0 := hRr2.out.free 0
        have hf1 := hRr2.out.free 1
        have hf2 := hRr2.out.free 2
        have hNlen : N ≤ len := z5
        have hqS : q ≤ 4611686018427387904 := by have := HSQ.out; omega
        have hqS1 : 1 ≤ q := by have := HSQ.out; omega
        have hdnl : dn ≤ 140737488355328 := by rw [HDN.out]; omega
        have hlen' : len ≤ 140737488355328 := by have h1 := HLR.out; have h2 := HRE.out; rw [h2, List.length_drop] at h1; omega
        have hlc2 := HLC.out
        have hcm2 : cap ≤ 9223372036854775807 := HCM.out
        go_upto_region 5 with fail
        have hR3 := ((hRr2.out.set 0 (.slice P (len - N) (cap - N))).set 1 (.int .i64 (q + 1))).set 2 (.int .i64 ((dn : Int) + (N : Int)))
        have hC3 : Cks (some Rn) W2 (((W2.setCell ⟨Rn, 0, none⟩ (.slice P (len - N) (cap - N))).setCell ⟨Rn, 1, none⟩ (.int .i64 (q + 1))).setCell ⟨Rn, 2, none⟩ (.int .i64 ((dn : Int) + (N : Int)))) :=
          ((Cks.set W2 ⟨Rn, 0, none⟩ _).trans (Cks.set _ ⟨Rn, 1, none⟩ _)).trans (Cks.set _ ⟨Rn, 2, none⟩ _)
        have hB3 : Below w.heap.size w (((W2.setCell ⟨Rn, 0, none⟩ (.slice P (len - N) (cap - N))).setCell ⟨Rn, 1, none⟩ (.int .i64 (q + 1))).setCell ⟨Rn, 2, none⟩ (.int .i64 ((dn : Int) + (N : Int)))) :=
          (((HBe.out.trans (hBW2.out.mono HBe.out.size)).setCell (p := ⟨Rn, 0, none⟩) hRn _).setCell (p := ⟨Rn, 1, none⟩) hRn _).setCell (p := ⟨Rn, 2, none⟩) hRn _
        have hK3 : KeepsOthers wr (((W2.setCell ⟨Rn, 0, none⟩ (.slice P (len - N) (cap - N))).setCell ⟨Rn, 1, none⟩ (.int .i64 (q + 1))).setCell ⟨Rn, 2, none⟩ (.int .i64 ((dn : Int) + (N : Int)))) :=
          (((KeepsOthers.of_grownBy (grown_of_below hBW2.out) (fun j o e => by cases e)).trans (KeepsOthers.setCell _ _ _)).trans (KeepsOthers.setCell _ _ _)).trans (KeepsOthers.setCell _ _ _)
        generalize (((W2.setCell ⟨Rn, 0, none⟩ (.slice P (len - N) (cap - N))).setCell ⟨Rn, 1, none⟩ (.int .i64 (q + 1))).setCell ⟨Rn, 2, none⟩ (.int .i64 ((dn : Int) + (N : Int)))) = W3 at *
        obtain ⟨x, HX⟩ : ∃ x : Fr, Hid (x = ⟨S, gv, cv, D⟩) := ⟨_, rfl⟩
        have hxd : wdF (pre ++ [x]) = dn + N := by rw [wdF_snoc, HX.out, ← HDN.out, HZ4.out]
        have hrd : l.drop (dn + N) = rest.drop N := by rw [HRE.out, List.drop_drop, HDN.out]
        have hRf3 := hRf.out.cks hC3 (fun e => hfbR (by cases e; rfl))
        have hnr : ∀ k, some Rn = some k → ∃ t cs, t ≠ 5 ∧ t ≠ 28 ∧ t ≠ 38 ∧ Row W2 k t cs := fun k e => by cases e; exact ⟨_, _, by decide, by decide, by decide, hRr2.out⟩
        have hib : Ib w l s0 Rn Ln B pre x W3 := by
          refine ⟨⟨P, len - N, cap - N, ?_, ?_, by omega, by have := HCM.out; omega, ?_, ?_, ?_⟩, (HLi.out.cks (Cks.of_below hBW2.out) (fun k e => by cases e)).cks hC3 hnr, ⟨?_, ?_, ?_, cur, ?_, ?_⟩, hB3⟩
          · rw [hxd, List.length_append, show s0 + ((pre.length + [x].length : Nat) : Int) = q + 1 by rw [HQ.out]; simp; omega]
            exact hR3
          · rw [hxd, hrd]; exact HByn.out
          · rw [hxd, hrd, HSC.out, scz_step rest q HE.out (by rw [← HS.out]; exact HSQ.out), ← HS.out, ← HD.out, ← HN.out, List.map_append, List.append_assoc, List.length_append, show s0 + ((pre.length + [x].length : Nat) : Int) = q + 1 by rw [HQ.out]; simp; omega, HX.out]
            rfl
          · rw [hxd]
            have h1 := HLR.out
            have h2 := HRE.out
            rw [h2, List.length_drop, ← HDN.out] at h1
            rw [← HDN.out] at hwd
            omega
          · intro _
            have h1 := HQ.out
            rw [List.length_append]
            refine ⟨?_, by simp; omega⟩
            by_cases hp : pre = []
            · rw [hp] at h1; simp at h1; omega
            · exact (HPOS.out hp).1
          · rw [HX.out]; have := HBe.out.size; have := HGV.out; show B ≤ gv; omega
          · rw [HX.out]; exact HCV.out.1
          · rw [HX.out]; exact HCV.out.2
          · rw [HX.out]; exact hRv2.out.cks hC3 (hRv2.out.ne hRr2.out (by decide))
          · rw [HX.out]; exact HTK.out
        have hbk3 : bk W3 := HBK.out _ _ HBW.out hK3
        obtain ⟨fn, tmps, assign, body, hy, hR⟩ := HY.out pre x W3 hib hbk3
        have hy' : (Instr.yield lp #[.agg #[.int .i64 S, .slice (some ⟨gv, 0, none⟩) D.length cv]]).run Try.prog W3 = .ok (.round lp fn tmps assign body) W3 := by rw [HX.out] at hy; exact hy
        have hg0 : W3.cell? ⟨fb, 0, none⟩ = some (.int .i64 S) := by rw [hRf3.cell]; rfl
        have hg1 : W3.cell? ⟨fb, 1, none⟩ = some (.slice (some ⟨gv, 0, none⟩) D.length cv) := by rw [hRf3.cell]; rfl
        have HXD : Hid (wdF (pre ++ [x]) = dn + N) := hxd
        have HRD : Hid (l.drop (dn + N) = rest.drop N) := hrd
        have HR : Hid (RoundIn Fence.wide (n - 1) Try.prog lp fn tmps assign body W3 fun e W' => e = .returned (.bool true) ∧ Ia w l s0 Rn Ln B (pre ++ [x]) W' ∧ bk W') := hR
        have HLW : Hid (leftLen Rn wr = len) := leftLen_row HRr.out
        clear hib hbk3 hy hR hxd hrd hRf3 hnr hR3 hC3 hB3 hK3 hd0 hd1 hd2 hf0 hf1 hf2 hP
        refine (wpIn_wide (n := n)).1 ?_
        gi_wp2
        refine HR.out.mono ?_
        rintro e W4 ⟨rfl, hia, hbk4⟩
        have HME : Hid (leftLen Rn W4 < leftLen Rn wr) := by
          obtain ⟨⟨a4, len4, cap4, hR4, hBy4, _⟩, _⟩ := hia
          show _ < _
          rw [leftLen_row hR4, HLW.out, hBy4.1, HXD.out, HRD.out, List.length_drop, ← HLR.out]
          omega
        have HIA : Hid (Ia w l s0 Rn Ln B (pre ++ [x]) W4) := hia
        clear hia
        gi_wp2
        go_wp2
        go_roundw
        case rel => exact ⟨pre ++ [x], HIA.out, hbk4⟩
        case measure => exact HME.out
      · have hq2 : ((S : Int) != q) = true := by rw [bne_iff_ne]; exact hq
        have HEnd0 : Hid (scz rest q = []) := scz_none _ _ (.inr (by rw [← HS.out]; exact hq))
        clear hq
        refine wpIn_wide.2 ?_
        go_wp2_with fail
        refine (next_ok _ _ _ _ _ HBy.out HLC.out HCM.out HE.out S N D HS.out.symm HN.out.symm HD.out.symm).mono ?_
        rintro e w2 ⟨gv, cv, cur, rfl, hgv, hRv, htk, hlc, hcm, hB2⟩
        have HEnd : Hid (∀ k, ∃ xs, xs.map Fr.sd = scz l s0 ∧ Ia w l s0 Rn Ln B xs ((w2.alloc (.cells #[.int .i64 S, .slice (some ⟨gv, 0, none⟩) D.length cv] 28)).drewN k) ∧ bk ((w2.alloc (.cells #[.int .i64 S, .slice (some ⟨gv, 0, none⟩) D.length cv] 28)).drewN k)) := fun k => HEND.out HEnd0.out _ (below_drewN (hB2.alloc hB2.size _) k)
        have hcq : (w2.alloc (.cells #[.int .i64 S, .slice (some ⟨gv, 0, none⟩) D.length cv] 28)).cell? ⟨Rn, 1, none⟩ = some (.int .i64 q) := ((hB2.alloc hB2.size _).cell (p := ⟨Rn, 1, none⟩) hRlt).trans hc1
        clear hRv htk hB2
        go_upto_region 1 with fail
        go_quiet (fail)
        go_wp2
        refine bodyPost_ret (results_none rfl _ _ _) rfl ?_
        exact ⟨⟨_, rfl⟩, HEnd.out _⟩
    · have HEnd0 : Hid (scz rest q = []) := scz_none _ _ (.inl hE)
      obtain ⟨E, HEE⟩ : ∃ E, Hid (E = nxtE rest) := ⟨_, rfl⟩
      have HE0 : Hid (E ≠ 0) := by show _ ≠ _; rw [HEE.out]; exact hE
      have hE' : ((E : Int) == 0) = false := by rw [HEE.out, beq_eq_false_iff_ne]; omega
      have hE2 : ((E : Int) != 0) = true := by rw [HEE.out, bne_iff_ne]; omega
      clear hE
      refine wpIn_wide.2 ?_
      go_wp2_with fail
      refine (next_err _ _ _ _ _ HBy.out HLC.out HCM.out E HEE.out.symm HE0.out).mono ?_
      rintro e w2 ⟨rfl, hB2⟩
      unfold nul
      have HEnd : Hid (∀ k, ∃ xs, xs.map Fr.sd = scz l s0 ∧ Ia w l s0 Rn Ln B xs ((w2.alloc (.cells #[.int .i64 0, .slice none 0 0] 28)).drewN k) ∧ bk ((w2.alloc (.cells #[.int .i64 0, .slice none 0 0] 28)).drewN k)) := fun k => HEND.out HEnd0.out _ (below_drewN (hB2.alloc hB2.size _) k)
      go_upto_region 1 with fail
      go_quiet (fail)
      go_wp2
      refine bodyPost_ret (results_none rfl _ _ _) rfl ?_
      exact ⟨⟨_, rfl⟩, HEnd.out _⟩

end Go.Proofs.Ythmoapigjafijaa.Frm
