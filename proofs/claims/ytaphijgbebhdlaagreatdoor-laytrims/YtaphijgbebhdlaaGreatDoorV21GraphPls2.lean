/- Several texts as one: GraphPls2, GraphPlc. -/
import Derived.Test.YtaphijgbebhdlaaGreatDoorV15GraphCanZ
section
/- The composer's places, given place: the walk. -/
namespace Go.Proofs.YtaphijgbebhdlaaGreatDoor.Grp
open Utf Rws Pln Flw
open Go.RowKit Go.Maps
set_option linter.unusedSimpArgs false
set_option linter.unusedVariables false
set_option maxRecDepth 100000
set_option maxHeartbeats 4000000

theorem pls_at (f : Tr → Cs → Nat × Nat × Cs) (k : Int) (j : Nat) (ts : List Tr) (ks : List (Int × Ln)) (ps : List Nat) (s : Cs) (h : j < ts.length) : pls f k j (ts.drop j) ks ps s = if kyP k j = true ∧ ((ts.getD j tr0).kind, (ts.getD j tr0).text) ∈ ks then ([], 7, s) else
      if (f (ts.getD j tr0) s).2.1 = 0 then pls f k (j + 1) (ts.drop (j + 1)) (if kyP k j = true then ks ++ [((ts.getD j tr0).kind, (ts.getD j tr0).text)] else ks) (ps ++ [(f (ts.getD j tr0) s).1]) (f (ts.getD j tr0) s).2.2 else ([], (f (ts.getD j tr0) s).2.1, (f (ts.getD j tr0) s).2.2) := by
  rw [List.drop_eq_getElem_cons h, List.getD_eq_getElem?_getD, List.getElem?_eq_getElem h]
  rfl
theorem sum_drop (z : Tr → Nat) (ts : List Tr) (j : Nat) (h : j < ts.length) : ((ts.drop j).map z).sum = z (ts.getD j tr0) + ((ts.drop (j + 1)).map z).sum := by
  rw [List.drop_eq_getElem_cons h, List.getD_eq_getElem?_getD, List.getElem?_eq_getElem h]
  rfl
theorem sum_ge {d : Nat} (hd : 1 ≤ d) : ∀ ts : List Tr, ts.length ≤ (ts.map (tsz d)).sum
  | [] => Nat.le_refl _
  | t :: ts => by
    have h1 := sum_ge hd ts
    have h2 : 1 ≤ tsz d t := by
      obtain ⟨e, rfl⟩ : ∃ e, d = e + 1 := ⟨d - 1, by omega⟩
      rw [tsz]; omega
    rw [List.length_cons, List.map_cons, List.sum_cons]
    omega
/-- and a Kid's box -/
structure PkS (w0 W wr : World) (K M KB SB KK : Nat) (tc kc : Array Value) (nv nvj pv : Value) (l lj : List (Nd × Value)) (anj : List (Ln × Nat)) (keys : List (Int × Ln)) (ps : List Nat) : Prop where
  p : PcS w0 W wr K M KB SB tc nv nvj pv l lj anj keys ps
  k : Bx wr KK kc 29
  hk : SB < KK
  nk : some KK ≠ nvj.ownBlock
theorem PkS.later {w0 W wr wr' : World} {K M KB SB KK : Nat} {tc kc : Array Value} {nv nvj pv : Value} {l lj : List (Nd × Value)} {anj : List (Ln × Nat)} {keys : List (Int × Ln)} {ps : List Nat} (h : PkS w0 W wr K M KB SB KK tc kc nv nvj pv l lj anj keys ps) (hb : Below wr.heap.size wr wr') : PkS w0 W wr' K M KB SB KK tc kc nv nvj pv l lj anj keys ps := ⟨h.p.later hb, h.k.later hb, h.hk, h.nk⟩
theorem places_core {w0 W : World} {K M d : Nat} {k : Int} {x a : Ln} {ad : Option Addr} {len cap : Nat} {ks : List Tr} {nv : Value} {l : List (Nd × Value)} {an : List (Ln × Nat)} (hcap : len ≤ 9223372036854775807) (HKA : Hid (KAt w0 d ad len ks)) (HP : Hid (PlOk w0 K M d)) (hC : CmS w0 W K M nv l an) (hz : l.length + (ks.map (tsz d)).sum ≤ 1000000) :
    Calls Tryz.prog 56 #[.pointer (some ⟨K, 0, none⟩), tv k x a ad len cap] W (PsRes w0 K M nv l W (pls (plc d) k 0 ks [] [] ⟨l.map (·.1), an⟩)) := by
  have HL : Hid (len = ks.length) := HKA.out.1
  have h0 : PcS w0 W ((W.alloc (.cells #[.int .i64 k, .string (mk x), .string (mk a), .slice ad len cap] 29)).alloc (.map #[] 0)) K M W.heap.size (W.heap.size + 1) #[.int .i64 k, .string (mk x), .string (mk a), .slice ad len cap] nv nv (.slice none 0 0) l l an [] [] := by
    have b1 := below_alloc W (.cells #[.int .i64 k, .string (mk x), .string (mk a), .slice ad len cap] 29)
    have n1 := Bx.new W #[.int .i64 k, .string (mk x), .string (mk a), .slice ad len cap] 29
    have s1 : (W.alloc (.cells #[.int .i64 k, .string (mk x), .string (mk a), .slice ad len cap] 29)).heap.size = W.heap.size + 1 := World.size_alloc _ _
    generalize W.alloc (.cells #[.int .i64 k, .string (mk x), .string (mk a), .slice ad len cap] 29) = W1 at *
    have b2 := below_alloc W1 (.map #[] 0)
    have n2 := SetAt.new W1
    rw [s1] at n2
    have hb : Below W.heap.size W (W1.alloc (.map #[] 0)) := b1.trans (b2.mono b1.size)
    have hno : ∀ g, W.heap.size ≤ g → some g ≠ nv.ownBlock := fun g hg e => by have := (own_block hC.ow e.symm).2; omega
    exact ⟨hC.later hb, n1.later b2, n2, World.ownsRow_nil _ _ _ _, Ch.of_below hb, OB.refl _ _, NB.refl _ _, hno _ (Nat.le_refl _), hno _ (by omega), fun g hg => (by cases hg), fun p hp hk => by have := ((hC.kk p hp).lt hk).2.1; omega, Nat.le_refl _, by omega, hC.bx.lt, fun a ha => absurd ha (by simp)⟩
  obtain ⟨R, HR⟩ : ∃ R, Hid (R = pls (plc d) k 0 ks [] [] ⟨l.map (·.1), an⟩) := ⟨_, rfl⟩
  rw [← HR.out]
  have hmm := @run_makeMap Tryz.prog
  clear hC
  go_enter Tryz.func56, Tryz.ntmps56
  go_upto_region 3 with fail
  generalize (W.alloc (.cells #[.int .i64 k, .string (mk x), .string (mk a), .slice ad len cap] 29)).alloc (.map #[] 0) = W0 at h0 ⊢
  generalize W.heap.size + 1 = SB at h0 ⊢
  obtain ⟨KB, hKB⟩ : ∃ KB, KB = W.heap.size := ⟨_, rfl⟩
  rw [← hKB] at h0 ⊢
  clear hKB hmm
  obtain ⟨c0, c1, c2, c3⟩ := h0.tb.c4
  go_wp2_with fail
  clear c0 c1 c2 c3
  go_loopw [6, 16] (fun pv i wr => ∃ (j : Nat) (nvj : Value) (lj : List (Nd × Value)) (anj : List (Ln × Nat)) (keys : List (Int × Ln)) (ps : List Nat), j ≤ len ∧ i = .int .i64 j ∧ ps.length = j ∧ keys.length ≤ j ∧ Hid (PcS w0 W wr K M KB SB #[.int .i64 k, .string (mk x), .string (mk a), .slice ad len cap] nv nvj pv l lj anj keys ps) ∧ Hid (R = pls (plc d) k j (ks.drop j) keys ps ⟨lj.map (·.1), anj⟩) ∧ Hid (lj.length + ((ks.drop j).map (tsz d)).sum ≤ 1000000)) (fun _ i _ => len - (intOf i).toNat)
  case atStart => exact ⟨0, nv, l, an, [], [], Nat.zero_le _, rfl, rfl, Nat.le_refl _, h0, HR, hz⟩
  case round =>
    obtain ⟨j, nvj, lj, anj, keys, ps, hj, rfl, hps, hkl, HS, HJ, HZ⟩ := hrel
    clear h0 HR
    by_cases hlt : j < len
    · have hjl : j < ks.length := by have := HL.out; omega
      obtain ⟨b, off, rfl, hb, hcell⟩ := HKA.out.2 (by omega)
      obtain ⟨c0, c1, c2, c3, x0, x1, x2, x3, hx'⟩ := hcell j hlt
      replace x0 := (HS.out.cm.bl.cell (p := ⟨b, off + j * 4, none⟩) hb).trans x0
      replace x1 := (HS.out.cm.bl.cell (p := ⟨b, off + j * 4 + 1, none⟩) hb).trans x1
      replace x2 := (HS.out.cm.bl.cell (p := ⟨b, off + j * 4 + 2, none⟩) hb).trans x2
      replace x3 := (HS.out.cm.bl.cell (p := ⟨b, off + j * 4 + 3, none⟩) hb).trans x3
      obtain ⟨ad', len', cap', rfl, rfl, rfl, rfl⟩ := hx'.four
      have hok : okp ((ks.getD j tr0).kind, (ks.getD j tr0).text) := by
        cases d with
        | zero => exact hx'.elim
        | succ d =>
          obtain ⟨_, _, _, _, _, _, _, hzz, _⟩ := hx'
          exact ⟨⟨hzz.1, hzz.2.1⟩, hzz.2.2.1⟩
      have HV : Hid (TrV w0 d (tv (ks.getD j tr0).kind (ks.getD j tr0).text (ks.getD j tr0).anc ad' len' cap') (ks.getD j tr0)) := hx'
      have HJ2 : Hid (R = _) := HJ.out.trans (pls_at (plc d) k j ks keys ps ⟨lj.map (·.1), anj⟩ hjl)
      have HZ2 : Hid (lj.length + (tsz d (ks.getD j tr0) + ((ks.drop (j + 1)).map (tsz d)).sum) ≤ 1000000) := by
        have := HZ.out; rw [sum_drop (tsz d) ks j hjl] at this; exact this
      have HLen : Hid ((plc d (ks.getD j tr0) ⟨lj.map (·.1), anj⟩).2.2.ns.length ≤ lj.length + tsz d (ks.getD j tr0)) := by
        have := plc_len d (ks.getD j tr0) ⟨lj.map (·.1), anj⟩
        rw [List.length_map] at this
        exact this
      clear hx' hcell HJ HZ
      generalize ks.getD j tr0 = t' at *
      obtain ⟨k', y', a', ks'⟩ := t'
      simp only at x0 x1 x2 x3 HV HJ2 hok
      have HPK : Hid (PkS w0 W (wr.alloc (.cells #[.int .i64 k', .string (mk y'), .string (mk a'), .slice ad' len' cap'] 29)) K M KB SB wr.heap.size #[.int .i64 k, .string (mk x), .string (mk a), .slice (some ⟨b, off, none⟩) len cap] #[.int .i64 k', .string (mk y'), .string (mk a'), .slice ad' len' cap'] nv nvj u6 l lj anj keys ps) :=
        ⟨HS.out.later (below_alloc _ _), Bx.new _ _ _, HS.out.st.lt, fun e => by have := (own_block HS.out.cm.ow e.symm).2; omega⟩
      go_upto_region 6 with fail
      generalize wr.alloc (.cells #[.int .i64 k', .string (mk y'), .string (mk a'), .slice ad' len' cap'] 29) = W1 at HPK ⊢
      generalize wr.heap.size = KK at HPK ⊢
      clear x0 x1 x2 x3 HS
      obtain ⟨c0, c1, c2, c3⟩ := HPK.out.p.tb.c4
      obtain ⟨d0, d1, d2, d3⟩ := HPK.out.k.c4
      obtain ⟨r, Hr⟩ : ∃ r, Hid (r = plc d ⟨k', y', a', ks'⟩ ⟨lj.map (·.1), anj⟩) := ⟨_, rfl⟩
      rw [← Hr.out] at HJ2 HLen
      have HPl : Hid (∀ w2 keys2, Hid (PkS w0 W w2 K M KB SB KK #[.int .i64 k, .string (mk x), .string (mk a), .slice (some ⟨b, off, none⟩) len cap] #[.int .i64 k', .string (mk y'), .string (mk a'), .slice ad' len' cap'] nv nvj u6 l lj anj keys2 ps) → Calls Tryz.prog 36 #[.pointer (some ⟨K, 0, none⟩), tv k' y' a' ad' len' cap'] w2 (PlRes w0 K M nvj lj w2 r)) := fun w2 keys2 h => by
        rw [Hr.out]
        exact HP.out _ _ w2 nvj lj anj HV.out h.out.p.cm (by have := HZ2.out; omega)
      obtain ⟨qk, Hqk⟩ : ∃ qk, Hid (qk = kyP k j) := ⟨_, rfl⟩
      rw [← Hqk.out] at HJ2
      have HKP : Hid (∀ w', Calls Tryz.prog 70 #[.int .i64 k, .int .i64 (j : Int)] w' fun e w'' => e = .returned (.bool qk) ∧ w' = w'') := fun w' => by rw [Hqk.out]; exact kyPlace_any j (by omega)
      obtain ⟨qi, Hqi⟩ : ∃ qi, Hid (qi = decide ((k', y') ∈ keys)) := ⟨_, rfl⟩
      have HAD : Hid (Calls Tryz.prog 72 #[.map (some SB), .agg #[.int .i64 k', .string (mk y')]] W1 fun e w' => e = .returned (.bool (!qi)) ∧ Hid (PkS w0 W w' K M KB SB KK #[.int .i64 k, .string (mk x), .string (mk a), .slice (some ⟨b, off, none⟩) len cap] #[.int .i64 k', .string (mk y'), .string (mk a'), .slice ad' len' cap'] nv nvj u6 l lj anj (keys ++ [(k', y')]) ps)) := by
        refine (add_any (p := (k', y')) HPK.out.p.st hok (by omega)).mono ?_
        rintro e w' ⟨rfl, g1, g2⟩
        refine ⟨by rw [Hqi.out], HPK.out.p.add g2 g1, (g2.block KK HPK.out.k.lt (fun e => ?_)).trans HPK.out.k, HPK.out.hk, HPK.out.nk⟩
        have := HPK.out.hk
        cases e
        omega
      have hd1 : 1 ≤ d := by
        cases d with
        | zero => exact HV.out.elim
        | succ d => omega
      clear HV HP Hr Hqk HKA hok
      cases qk
      case' false =>
        have HJ3 : Hid (R = if r.2.1 = 0 then pls (plc d) k (j + 1) (ks.drop (j + 1)) keys (ps ++ [r.1]) r.2.2 else ([], r.2.1, r.2.2)) := by
          rw [HJ2.out, if_neg (fun h => by cases h.1), if_neg (by decide : ¬ false = true)]; exact rfl
        have hkl2 : keys.length ≤ j + 1 := by omega
        clear HJ2 HAD Hqi
        go_upto_region 8 with (go_at_call 70; refine (HKP.out _).mono ?_; rintro e w3 ⟨rfl, rfl⟩)
        clear c0 c1 c2 c3 d0 d1 d2 d3
        revert HPK
        generalize W1 = W2
        intro HPK
        revert HJ3 hkl2 HPK
        generalize keys = keys2
        intro HJ3 hkl2 HPK
      case' true =>
        cases qi
        case' true =>
          have hin : (k', y') ∈ keys := of_decide_eq_true Hqi.out.symm
          have HJ3 : Hid (R = ([], 7, ⟨lj.map (·.1), anj⟩)) := by rw [HJ2.out, if_pos ⟨rfl, hin⟩]; exact rfl
          clear HJ2 hin
          go_wp2_with (first | (go_at_call 70; refine (HKP.out _).mono ?_; rintro e w3 ⟨rfl, rfl⟩) | (go_at_call 72; refine HAD.out.mono ?_; rintro e w4 ⟨rfl, H4⟩))
          go_ret2
          unfold PsRes
          rw [HJ3.out]
          exact ⟨(by decide : 7 ≤ 100), none, 0, nvj, lj, rfl, Nat.le_refl _, Nat.zero_le _, ⟨rfl, fun h => absurd h (by simp)⟩, fun _ _ h => absurd h (by simp), H4.out.p.cm, rfl, H4.out.p.ch, H4.out.p.ob, H4.out.p.nb⟩
        case' false =>
          have hin : (k', y') ∉ keys := fun h => by have := Hqi.out; rw [decide_eq_true h] at this; cases this
          have HJ3 : Hid (R = if r.2.1 = 0 then pls (plc d) k (j + 1) (ks.drop (j + 1)) (keys ++ [(k', y')]) (ps ++ [r.1]) r.2.2 else ([], r.2.1, r.2.2)) := by
            rw [HJ2.out, if_neg (fun h => hin h.2), if_pos rfl]; exact rfl
          have hkl2 : (keys ++ [(k', y')]).length ≤ j + 1 := by rw [List.length_append, List.length_singleton]; omega
          clear HJ2 hin Hqi
          go_upto_region 8 with (first | (go_at_call 70; refine (HKP.out _).mono ?_; rintro e w3 ⟨rfl, rfl⟩) | (go_at_call 72; refine HAD.out.mono ?_; rintro e w4 ⟨rfl, H4⟩))
          clear c0 c1 c2 c3 d0 d1 d2 d3 HPK HAD
          have HPK := H4
          clear H4
          revert HPK
          generalize w4 = W2
          intro HPK
          revert HJ3 hkl2 HPK
          generalize keys ++ [(k', y')] = keys2
          intro HJ3 hkl2 HPK
      all_goals
        obtain ⟨d0, d1, d2, d3⟩ := HPK.out.k.c4
        obtain ⟨at_, er, s2⟩ := r
        simp only at HJ3 HLen
        have HCall := HPl.out _ _ HPK
        by_cases he : er = 0
        · subst he
          have HJ4 : Hid (R = pls (plc d) k (j + 1) (ks.drop (j + 1)) keys2 (ps ++ [at_]) s2) := by rw [HJ3.out, if_pos rfl]; exact rfl
          clear HJ3
          go_upto_region 11 with (go_at_call 36; refine HCall.mono ?_; rintro e w5 ⟨rfl, hat1, _, nv2, l2, hc2, hn2, hch2, hob2, hnb2⟩)
          have H5 : Hid (PcS w0 W w5 K M KB SB #[.int .i64 k, .string (mk x), .string (mk a), .slice (some ⟨b, off, none⟩) len cap] nv nv2 u6 l l2 s2.an keys2 ps) := HPK.out.p.call hc2 hch2 hob2 hnb2
          have HS2 : Hid (s2 = ⟨l2.map (·.1), s2.an⟩) := by rw [hn2]; exact rfl
          have HZ3 : Hid (l2.length + ((ks.drop (j + 1)).map (tsz d)).sum ≤ 1000000) := by
            have h1 := HZ2.out
            have h2 := HLen.out
            have h3 : l2.length = s2.ns.length := by rw [← hn2, List.length_map]
            show _ ≤ _
            omega
          clear hc2 hn2 hch2 hob2 hnb2 HCall d0 d1 d2 d3 HPK
          have H6 : Hid (PcS w0 W (w5.alloc (.cells #[.int .i64 (at_ : Int)] 3)) K M KB SB #[.int .i64 k, .string (mk x), .string (mk a), .slice (some ⟨b, off, none⟩) len cap] nv nv2 u6 l l2 s2.an keys2 ps) := H5.out.later (below_alloc _ _)
          obtain ⟨i0, hi, hz0, hz1, hz2⟩ := info_parts Tryz.infoInt
          have hps5 : ps.length ≤ 1000000000 := by
            have h1 := sum_ge hd1 ks
            have h2 := HL.out
            omega
          go_wp2_with (at_builtin; refine wpList_append_own_at _ rfl _ _ 45 rfl (SB + 1) 3 i0 (.int .i64 0) 1 8 Tryz.underInts hi hz0 hz1 hz2 rfl (by decide) u6 ps.length _ rfl H6.out.pw ⟨w5.heap.size, 0, none⟩ 1 1 [Value.int .i64 (at_ : Int)] rfl rfl (cell_one_new _ _ _) (fun u hu => by rw [List.mem_singleton.1 hu]; rfl) (by have : maxLen = 9223372036854775807 := rfl; omega) (by omega) (by have := H6.out.st.lt; omega) ?_; intro pv' w6 hw6 hg6 _ hat6)
          have H7 : Hid (PcS w0 W w6 K M KB SB #[.int .i64 k, .string (mk x), .string (mk a), .slice (some ⟨b, off, none⟩) len cap] nv nv2 pv' l l2 s2.an keys2 (ps ++ [at_])) := H6.out.app hat1 hw6 hg6 hat6
          go_roundw
          case rel => exact ⟨j + 1, nv2, l2, s2.an, keys2, ps ++ [at_], by omega, by go_num, by rw [List.length_append, List.length_singleton]; omega, hkl2, H7, by rw [HJ4.out]; exact congrArg _ HS2.out, HZ3⟩
          case measure => simp [intOf]; omega
        · have HJ4 : Hid (R = ([], er, s2)) := by rw [HJ3.out, if_neg he]; exact rfl
          have he' : ((er : Int) != 0) = true := by simp; omega
          clear HJ3
          go_wp2_with (go_at_call 36; refine HCall.mono ?_; rintro e w5 ⟨rfl, hat1, her, nv2, l2, hc2, hn2, hch2, hob2, hnb2⟩)
          go_ret2
          have H5 := HPK.out.p.call hc2 hch2 hob2 hnb2
          unfold PsRes
          rw [HJ4.out]
          exact ⟨her, none, 0, nv2, l2, rfl, Nat.le_refl _, Nat.zero_le _, ⟨rfl, fun h => absurd h (by simp)⟩, fun _ _ h => absurd h (by simp), hc2, hn2, H5.ch, H5.ob, H5.nb⟩
    · have HE : Hid (R = (ps, 0, ⟨lj.map (·.1), anj⟩)) := by
        rw [HJ.out, List.drop_of_length_le (by have := HL.out; omega)]; exact rfl
      obtain ⟨pa, pc, e6, h6, h7⟩ := own_shapeN HS.out.pw
      subst e6
      go_wp2
      go_ret2
      unfold PsRes
      rw [HE.out]
      have hi := iat_own (l := ps.map fun a : Nat => (a : Int)) (by have := HS.out.pw; rw [map_nat] at this; exact this) (fun q hq => by obtain ⟨z, hz, rfl⟩ := List.mem_map.1 hq; have := HS.out.pb z hz; constructor <;> omega)
      have h1 := HS.out.h1
      have h2 := HS.out.h2
      refine ⟨Nat.zero_le _, pa, pc, nvj, lj, rfl, h6, h7, hi.1.1, fun b' off' hp e => ?_, HS.out.cm, rfl, HS.out.ch, HS.out.ob, HS.out.nb⟩
      have hob : Value.ownBlock (.slice pa ps.length pc) = some b' := by rw [e]; rfl
      exact ⟨by have := (own_block HS.out.pw hob).1; omega, (HS.out.n3 b' hob).1, (HS.out.n3 b' hob).2⟩
end Go.Proofs.YtaphijgbebhdlaaGreatDoor.Grp
end

section
/- The composer's place, by its contract. -/
namespace Go.Proofs.YtaphijgbebhdlaaGreatDoor.Grp
open Utf Rws Pln Flw
open Go.RowKit Go.Maps
set_option linter.unusedSimpArgs false
set_option linter.unusedVariables false
set_option maxRecDepth 100000
set_option maxHeartbeats 4000000

theorem look_le : ∀ (l : List (Ln × Nat)) (x : Ln) (a : Nat), look l x = some a → ∃ q ∈ l, q.2 = a
  | [], x, a, h => by cases h
  | p :: t, x, a, h => by
    rw [look] at h
    by_cases e : p.1 = x
    · rw [if_pos e] at h; cases h; exact ⟨p, by simp, rfl⟩
    · rw [if_neg e] at h
      obtain ⟨q, h1, h2⟩ := look_le t x a h
      exact ⟨q, by simp [h1], h2⟩
theorem mk_nil_eq (l : Ln) : ((mk l).toList == []) = decide (l = []) := by
  rw [ByteArray.toList_eq, mk_data]; cases l <;> simp
theorem wpOp_mapUpdate {H : Type} {P : Program} {ops : Array Oper} {Q : Exit → Act → World → Prop} {j : Nat} {o : Oper} {Kk : Act → World → Prop} {a : Act} {w : World} (ho : ops[j]? = some o)
    (hg : o.guard = none) (m x v : Operand) (t : TypeId) (hop : o.op = Op.mapUpdate t m x v) (k e : TypeId) (K : Keyed P k) (ht : P.underlying t = some (.map k e)) (R : Value → Option (DataW H × List MemPlace)) (b n : Nat) (D : DataW H)
    (hm : a.eval m = .map (some b)) (hown : w.ownsMap P k R b n D) (hn : n < maxLen) (key val : Value) (kl : Lit) (hx : a.eval x = key) (hv : a.eval v = val) (hkey : keyOf P k key = some kl)
    (d : DataW H) (ps : List MemPlace) (hval : R val = some (d, ps))
    (hK : ∀ w', w'.ownsMap P k R b (n + 1) (D.put kl d) → w.grownBy w' (some b) → Kk (a.put o.dst undef) w') : wpOp P ops Q j Kk a w := by
  refine wpOp_at ho (by simp [Region.wanted, hg]) ?_
  obtain ⟨w', hrun, r1, r2⟩ := hown.update K ht hn hkey hval
  unfold Oper.wp
  simp [execOp, hop, hm, hx, hv, hrun, Result.andThen]
  exact hK w' r1 r2
theorem ancElem {n : Nat} (hn : n ≤ 1000000) : plainElem (H := Unit) Tryz.prog 3 (.int .i64 (n : Int)) = some (.lit (.int .i64 (n : Int)), []) := by
  have h1 : (-9223372036854775808 : Int) ≤ n := by omega
  have h2 : (n : Int) ≤ 9223372036854775807 := by omega
  refine plainElem_int Tryz.undI ?_
  show (decide ((-9223372036854775808 : Int) ≤ n) && decide ((n : Int) ≤ 9223372036854775807)) = true
  rw [decide_eq_true h1, decide_eq_true h2]
  rfl
def ancDp : List (List Nat) := [[], [0], [1], [2], [], [4], [], [0, 1, 2, 3, 4, 5, 6]]
def plcDp : List (List Nat) := [[], [], [1], [2], [3], [], [5], [], [7], [6, 8], [9], [4, 10], [0, 11], [12], [11, 13]]
/-- a node is appended, and the composer holds the new row -/
theorem cms_app {w0 A eW : World} {K M : Nat} {nv ev : Value} {l : List (Nd × Value)} {an : List (Ln × Nat)} {k : Int} {x : Ln} (h : CmS w0 A K M nv l an) (hk : i64 k) (hx : x.length ≤ 9223372036854775807)
    (r1 : eW.ownsRow (K + 1) 47 3 ev (l.length + 1) (ncs l ++ [.int .i64 k, .string (mk x), .slice none 0 0])) (r2 : (A.alloc (.cells #[.int .i64 k, .string (mk x), .slice none 0 0] 47)).grownBy eW nv.ownBlock) (r3 : ev.ownBlock = nv.ownBlock ∨ ev.ownBlock = some (A.alloc (.cells #[.int .i64 k, .string (mk x), .slice none 0 0] 47)).heap.size) :
    CmS w0 (eW.setCell ⟨K, 0, none⟩ ev) K M ev (l ++ [(⟨k, x, []⟩, .slice none 0 0)]) an ∧ Ch K M nv A (eW.setCell ⟨K, 0, none⟩ ev) ∧ OB nv ev A := by
  have hs : (A.alloc (.cells #[.int .i64 k, .string (mk x), .slice none 0 0] 47)).heap.size = A.heap.size + 1 := World.size_alloc _ _
  have hKl := h.bx.lt
  have hkm := h.hk
  have hw0 := h.hm
  have hws := h.bl.size
  have hss : (eW.setCell ⟨K, 0, none⟩ ev).heap.size = eW.heap.size := World.size_setCell _ _ _
  have hsz := r2.size
  have hown : ∀ g, nv.ownBlock = some g → K + 1 ≤ g ∧ g < A.heap.size := fun g hg => own_block h.ow hg
  have hkeep : ∀ b, b < A.heap.size → some b ≠ nv.ownBlock → eW.heap[b]? = A.heap[b]? := fun b hb hn => (r2.block b (by omega) hn).trans (Below.heap_alloc A _ b hb)
  have hkE : eW.heap[K]? = A.heap[K]? := hkeep K hKl (fun e => by have := (hown K e.symm).1; omega)
  have hMl : M < A.heap.size := by omega
  have hset : ∀ b, b ≠ K → (eW.setCell ⟨K, 0, none⟩ ev).heap[b]? = eW.heap[b]? := fun b hb => Below.heap_setCell _ _ _ _ hb
  have hev : ∀ b, b < A.heap.size → some b ≠ nv.ownBlock → some b ≠ ev.ownBlock := fun b hb hn => by
    rcases r3 with e | e
    · rw [e]; exact hn
    · rw [e]; intro e2; cases e2; omega
  have hbx : Bx (eW.setCell ⟨K, 0, none⟩ ev) K #[ev, .map (some M)] 92 := by
    have : Bx eW K #[nv, .map (some M)] 92 := hkE.trans h.bx
    exact this.set 0 ev
  have hch : Ch K M nv A (eW.setCell ⟨K, 0, none⟩ ev) := by
    have g1 : eW.os = A.os := r2.os
    have g2 : eW.tape = A.tape := r2.tape
    have g3 : eW.output = A.output := r2.output
    exact ⟨g1, g2, g3, by rw [hss]; omega, fun b hb e1 _ e3 => (hset b e1).trans (hkeep b hb e3)⟩
  refine ⟨⟨hbx, ?_, ?_, fun p hp => ?_, ?_, h.hm, h.hk, h.ha, by rw [List.length_append]; have := h.hl; omega⟩, hch, ?_⟩
  · rw [List.length_append, List.length_singleton, ncs_app]
    exact own_keep r1 (fun g hg => hset g (by have := (own_block r1 hg).1; omega))
  · exact h.mp.kept (by rw [hss]; omega) ((hset M (by omega)).trans (hkeep M hMl (fun e => by have := (hown M e.symm).1; omega)))
  · rcases List.mem_append.1 hp with hp | hp
    · refine (h.kk p hp).keep (by rw [hss]; omega) (fun b hb => ?_)
      have q := (h.kk p hp).lt hb
      exact ⟨(hset b (by omega)).trans (hkeep b q.2.1 q.2.2), hev b q.2.1 q.2.2⟩
    · rw [List.mem_singleton.1 hp]
      exact ⟨hk, hx, none, 0, 0, rfl, Nat.le_refl _, Nat.zero_le _, ⟨rfl, fun h => absurd h (by simp)⟩, fun _ _ h => absurd h (by simp)⟩
  · have b1 : Below w0.heap.size w0 (A.alloc (.cells #[.int .i64 k, .string (mk x), .slice none 0 0] 47)) := h.bl.trans ((below_alloc A _).mono h.bl.size)
    refine (b1.grown r2 b1.size (fun g e => ?_)).setCell (p := ⟨K, 0, none⟩) (by show w0.heap.size ≤ K; omega) _
    have := (hown g e).1
    omega
  · rcases r3 with e | e
    · exact .inl e
    · exact .inr ⟨_, e, by omega⟩
/-- an anchor is told -/
theorem cms_anc {w0 W W' : World} {K M : Nat} {nv : Value} {l : List (Nd × Value)} {an : List (Ln × Nat)} {x : Ln} {n : Nat} (h : CmS w0 W K M nv l an) (hn : n ≤ 1000000) (hal : an.length < l.length)
    (hm : W'.ownsMap Tryz.prog 9 (plainElem Tryz.prog 3) M (an.length + 1) ((aD an).put (.string x) (.lit (.int .i64 (n : Int))))) (hg : W.grownBy W' (some M)) : CmS w0 W' K M nv l ((x, n) :: an) ∧ Ch K M nv W W' := by
  have hKl := h.bx.lt
  have hkm := h.hk
  have hw0 := h.hm
  have hkeep : ∀ k, k < W.heap.size → k ≠ M → W'.heap[k]? = W.heap[k]? := fun k hk hne => hg.block k hk (fun e => hne (by cases e; rfl))
  refine ⟨⟨(hkeep K hKl (by omega)).trans h.bx, own_keep h.ow (fun g hgg => hkeep g (own_block h.ow hgg).2 (by have := (own_block h.ow hgg).1; omega)), hm, fun p hp => (h.kk p hp).keep hg.size (fun b hb => ?_), h.bl.grown hg h.bl.size (fun g e => by cases e; exact hw0), h.hm, h.hk, fun q hq => ?_, hal⟩, ⟨hg.os, hg.tape, hg.output, hg.size, fun k hk _ e2 _ => hkeep k hk e2⟩⟩
  · have q := (h.kk p hp).lt hb
    exact ⟨hkeep b q.2.1 (by omega), q.2.2⟩
  · rcases List.mem_cons.1 hq with rfl | hq
    · exact hn
    · exact h.ha q hq
/-- a node's Kids are told -/
theorem cms_kids {w0 W : World} {K M : Nat} {nv : Value} {l : List (Nd × Value)} {an : List (Ln × Nat)} (h : CmS w0 W K M nv l an) {i : Nat} {p : Nd × Value} (hp : l[i]? = some p) {pa : Option Addr} {len pc : Nat} {kds : List Int} (h1 : len ≤ pc) (h2 : pc ≤ maxLen) (hI : IAt W pa len kds)
    (hf : ∀ b off, 0 < len → pa = some ⟨b, off, none⟩ → K < b ∧ some b ≠ nv.ownBlock) {g n cap : Nat} (hnv : nv = .slice (some ⟨g, 0, none⟩) n cap) :
    CmS w0 (W.setCell ⟨g, i * 3 + 2, none⟩ (.slice pa len pc)) K M nv (l.set i (⟨p.1.kind, p.1.text, kds⟩, .slice pa len pc)) an ∧ Ch K M nv W (W.setCell ⟨g, i * 3 + 2, none⟩ (.slice pa len pc)) := by
  have hob : nv.ownBlock = some g := by rw [hnv]; rfl
  have hgb := own_block h.ow hob
  have hkm := h.hk
  have hw0 := h.hm
  have hs : (W.setCell ⟨g, i * 3 + 2, none⟩ (.slice pa len pc)).heap.size = W.heap.size := World.size_setCell _ _ _
  have hset : ∀ b, b ≠ g → (W.setCell ⟨g, i * 3 + 2, none⟩ (.slice pa len pc)).heap[b]? = W.heap[b]? := fun b hb => Below.heap_setCell _ _ _ _ hb
  have hil : i < l.length := (List.getElem?_eq_some_iff.1 hp).1
  have hn : n = l.length := by
    obtain ⟨ad, c, e, _⟩ := own_shapeN h.ow
    rw [hnv] at e
    cases e
    rfl
  refine ⟨⟨(hset K (by omega)).trans h.bx, ?_, h.mp.kept (by rw [hs]; exact Nat.le_refl _) (hset M (by omega)), fun q hq => ?_, h.bl.setCell (p := ⟨g, i * 3 + 2, none⟩) (by show w0.heap.size ≤ g; omega) _, h.hm, h.hk, h.ha, by rw [List.length_set]; exact h.hl⟩, ⟨rfl, rfl, rfl, by rw [hs]; exact Nat.le_refl _, fun k hk _ _ e3 => hset k (fun e => e3 (by rw [hob, e]))⟩⟩
  · rw [ncs_set l i p kds _ hp, List.length_set]
    have ho := h.ow
    rw [hnv, hn] at ho ⊢
    exact own_set ho (by rw [ncs_len]; omega) _
  · rcases List.mem_or_eq_of_mem_set hq with hq | rfl
    · refine (h.kk q hq).keep (by rw [hs]; exact Nat.le_refl _) (fun b hb => ?_)
      have z := (h.kk q hq).lt hb
      exact ⟨hset b (fun e => z.2.2 (by rw [hob, e])), z.2.2⟩
    · have hpk := h.kk p (List.mem_of_getElem? hp)
      refine ⟨hpk.1, hpk.2.1, pa, len, pc, rfl, h1, h2, ⟨hI.1, fun hl => ?_⟩, hf⟩
      obtain ⟨b2, off2, e2, hlt, hc⟩ := hI.2 hl
      exact ⟨b2, off2, e2, by rw [hs]; exact hlt, fun j hj => ⟨(hc j hj).1, (World.cell?_of_block (w := W) (hset b2 (fun e => (hf b2 off2 hl e2).2 (by rw [hob, e])))).trans (hc j hj).2⟩⟩
theorem pls_keep {f : Tr → Cs → Nat × Nat × Cs} (hm : ∀ t s, s.ns.length ≤ (f t s).2.2.ns.length) (hf : ∀ t s i, i < s.ns.length → (f t s).2.2.ns[i]? = s.ns[i]?) (k : Int) : ∀ (ts : List Tr) (j : Nat) (ks : List (Int × Ln)) (ps : List Nat) (s : Cs) (i : Nat), i < s.ns.length → (pls f k j ts ks ps s).2.2.ns[i]? = s.ns[i]?
  | [], j, ks, ps, s, i, h => by simp [pls]
  | t :: ts, j, ks, ps, s, i, h => by
    rw [pls]
    split
    · rfl
    · split
      · rw [pls_keep hm hf k ts _ _ _ _ i (Nat.lt_of_lt_of_le h (hm t s))]
        exact hf t s i h
      · exact hf t s i h
theorem plc_keep : ∀ (d : Nat) (t : Tr) (s : Cs) (i : Nat), i < s.ns.length → (plc d t s).2.2.ns[i]? = s.ns[i]?
  | 0, t, s, i, h => by simp [plc]
  | d + 1, t, s, i, h => by
    rw [plc]
    split
    · split <;> simp
    · have h2 : (put1 t s).ns.length = s.ns.length + 1 := by simp [put1]
      have h1 := pls_keep (plc_mono d) (fun t s => plc_keep d t s) t.kind t.kids 0 [] [] (put1 t s) i (by omega)
      unfold setK
      simp only
      rw [List.getElem?_set_ne (by omega), h1]
      simp [put1, List.getElem?_append_left h]
end Go.Proofs.YtaphijgbebhdlaaGreatDoor.Grp
end
