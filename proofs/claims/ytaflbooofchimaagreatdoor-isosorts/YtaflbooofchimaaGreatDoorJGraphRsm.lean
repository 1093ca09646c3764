/- Several texts as one: GraphRsm. -/
import Derived.Test.YtaflbooofchimaaGreatDoorJIsoIn2
import Derived.BigQuiet
import Derived.Deep.QuietTactic
section
/- The document's Same, at any two, by its contract. -/
namespace Go.Proofs.YtaflbooofchimaaGreatDoor.Grp
open Utf Rws Pln Flw
open Go.RowKit
set_option linter.unusedSimpArgs false
set_option linter.unusedVariables false
set_option maxRecDepth 100000
set_option maxHeartbeats 4000000

theorem rsame_core2 {w : World} {ad ad' : Option Addr} {len cap len' cap' : Nat} {r r' : Int} {ns ns' : List Nd} (h : NAt w ad len ns) (h' : NAt w ad' len' ns') (hl : len ≤ 9223372036854775807) (hl' : len' ≤ 9223372036854775807) :
    Calls Tryz.prog 19 #[gv ad len cap r, gv ad' len' cap' r'] w fun e w' => ∃ q : Bool, e = .returned (.bool q) ∧ (q = true ↔ (⟨ns, r⟩ : Gr) = ⟨ns', r'⟩) ∧ Below w.heap.size w w' := by
  have HA : Hid (NAt w ad len ns) := h
  have HB : Hid (NAt w ad' len' ns') := h'
  clear h h'
  have h0 := g2_new w (.slice ad len cap) (.int .i64 r) (.slice ad' len' cap') (.int .i64 r')
  go_enter Tryz.func19, Tryz.ntmps19
  go_upto_region 1 with fail
  generalize (w.alloc (.cells #[.slice ad len cap, .int .i64 r] 24)).alloc (.cells #[.slice ad' len' cap', .int .i64 r'] 24) = W0 at h0 ⊢
  generalize w.heap.size + 1 = K1 at h0 ⊢
  generalize w.heap.size = K0 at h0 ⊢
  have H0 : Hid (G2 w W0 K0 K1 (.slice ad len cap) (.int .i64 r) (.slice ad' len' cap') (.int .i64 r')) := h0
  obtain ⟨c0, c1⟩ := h0.g.c2
  obtain ⟨d0, d1⟩ := h0.h.c2
  clear h0
  by_cases hr : r = r'
  case neg =>
    have HR : Hid (¬ r = r') := hr
    go_wp2
    go_ret
    exact ⟨false, rfl, ⟨fun h => (by cases h), fun h => absurd (congrArg Gr.root h) HR.out⟩, H0.out.bl⟩
  subst hr
  by_cases h4 : len = len'
  case neg =>
    have HP : Hid (¬ ns = ns') := fun h => h4 (by rw [HA.out.1, HB.out.1, h])
    have hne' : ((len : Int) != (len' : Int)) = true := by simp; omega
    go_wp2
    all_goals first | contradiction | skip
    go_ret
    exact ⟨false, rfl, ⟨fun h => (by cases h), fun h => absurd (congrArg Gr.nodes h) HP.out⟩, H0.out.bl⟩
  subst h4
  go_wp2_with fail
  clear c0 c1 d0 d1
  go_loopw [5] (fun i wr => ∃ j : Nat, j ≤ len ∧ i = .int .i64 j ∧ Hid (ns.take j = ns'.take j) ∧ Hid (G2 w wr K0 K1 (.slice ad len cap) (.int .i64 r) (.slice ad' len cap') (.int .i64 r))) (fun i _ => len - (intOf i).toNat)
  case atStart => exact ⟨0, Nat.zero_le _, rfl, rfl, H0⟩
  case round =>
    obtain ⟨j, hj, rfl, HT, HS⟩ := hrel
    clear H0
    obtain ⟨c0, c1⟩ := HS.out.g.c2
    obtain ⟨d0, d1⟩ := HS.out.h.c2
    by_cases hlt : j < len
    · obtain ⟨b, off, rfl, hb, hc⟩ := HA.out.2 (by omega)
      obtain ⟨b', off', rfl, hb', hc'⟩ := HB.out.2 (by omega)
      obtain ⟨ka, kl, kc, q1, q2, _, _, qI, x0, x1, x2⟩ := hc j hlt
      obtain ⟨ka', kl', kc', q1', q2', _, _, qI', y0, y1, y2⟩ := hc' j hlt
      replace x0 := (HS.out.bl.cell (p := ⟨b, off + j * 3, none⟩) hb).trans x0
      replace x1 := (HS.out.bl.cell (p := ⟨b, off + j * 3 + 1, none⟩) hb).trans x1
      replace x2 := (HS.out.bl.cell (p := ⟨b, off + j * 3 + 2, none⟩) hb).trans x2
      replace y0 := (HS.out.bl.cell (p := ⟨b', off' + j * 3, none⟩) hb').trans y0
      replace y1 := (HS.out.bl.cell (p := ⟨b', off' + j * 3 + 1, none⟩) hb').trans y1
      replace y2 := (HS.out.bl.cell (p := ⟨b', off' + j * 3 + 2, none⟩) hb').trans y2
      clear hc hc'
      obtain ⟨nd, HND⟩ : ∃ nd, Hid (nd = ns.getD j nd0) := ⟨_, rfl⟩
      obtain ⟨md, HMD⟩ : ∃ md, Hid (md = ns'.getD j nd0) := ⟨_, rfl⟩
      rw [← HND.out] at x0 x1 qI
      rw [← HMD.out] at y0 y1 qI'
      obtain ⟨nk, nx, nl⟩ := nd
      obtain ⟨mk', mx, ml⟩ := md
      simp only at x0 x1 y0 y1 qI qI'
      have HI : Hid (IAt w ka kl nl) := qI
      have HI' : Hid (IAt w ka' kl' ml) := qI'
      have hkl : kl ≤ 9223372036854775807 := by have : maxLen = 9223372036854775807 := rfl; omega
      have hkl' : kl' ≤ 9223372036854775807 := by have : maxLen = 9223372036854775807 := rfl; omega
      have HYES : Hid ((⟨nk, nx, nl⟩ : Nd) = ⟨mk', mx, ml⟩ → ns.take (j + 1) = ns'.take (j + 1)) := fun e => take_nd (by have := HA.out.1; omega) (by have := HB.out.1; omega) HT.out (by rw [← HND.out, ← HMD.out, e])
      have HNO : Hid (¬ (⟨nk, nx, nl⟩ : Nd) = ⟨mk', mx, ml⟩ → ¬ (⟨ns, r⟩ : Gr) = ⟨ns', r⟩) := fun hn e => hn (by have e' : ns = ns' := congrArg Gr.nodes e; rw [HND.out, HMD.out, e'])
      clear qI qI' q1 q2 q1' q2' HND HMD
      go_upto_region 6 with fail
      have hK0 := HS.out.g.lt
      have hK1 := HS.out.h.lt
      have hs := HS.out.bl.size
      have hbw : b < wr.heap.size := by omega
      have hbw' : b' < wr.heap.size := by omega
      clear hs
      go_region
      have H4 : G4 w ((wr.alloc (.cells #[.int .i64 nk, .string (mk nx), .slice ka kl kc] 35)).alloc (.cells #[.int .i64 mk', .string (mk mx), .slice ka' kl' kc'] 35)).drew K0 K1 wr.heap.size (wr.heap.size + 1) (.slice (some ⟨b, off, none⟩) len cap) (.int .i64 r) (.slice (some ⟨b', off', none⟩) len cap') (.int .i64 r) #[.int .i64 nk, .string (mk nx), .slice ka kl kc] #[.int .i64 mk', .string (mk mx), .slice ka' kl' kc'] := ⟨(HS.out.two _ _).2.2, (HS.out.two _ _).1, (HS.out.two _ _).2.1⟩
      generalize ((wr.alloc (.cells #[.int .i64 nk, .string (mk nx), .slice ka kl kc] 35)).alloc (.cells #[.int .i64 mk', .string (mk mx), .slice ka' kl' kc'] 35)).drew = W2 at H4 ⊢
      clear hbw hbw' hK0 hK1
      generalize wr.heap.size + 1 = L1 at H4 ⊢
      generalize wr.heap.size = L0 at H4 ⊢
      rotate_left
      have H4 : G4 w ((wr.alloc (.cells #[.int .i64 mk', .string (mk mx), .slice ka' kl' kc'] 35)).alloc (.cells #[.int .i64 nk, .string (mk nx), .slice ka kl kc] 35)).drew K0 K1 (wr.heap.size + 1) wr.heap.size (.slice (some ⟨b, off, none⟩) len cap) (.int .i64 r) (.slice (some ⟨b', off', none⟩) len cap') (.int .i64 r) #[.int .i64 nk, .string (mk nx), .slice ka kl kc] #[.int .i64 mk', .string (mk mx), .slice ka' kl' kc'] := ⟨(HS.out.two _ _).2.2, (HS.out.two _ _).2.1, (HS.out.two _ _).1⟩
      generalize ((wr.alloc (.cells #[.int .i64 mk', .string (mk mx), .slice ka' kl' kc'] 35)).alloc (.cells #[.int .i64 nk, .string (mk nx), .slice ka kl kc] 35)).drew = W2 at H4 ⊢
      clear hbw hbw' hK0 hK1
      generalize wr.heap.size + 1 = L0 at H4 ⊢
      generalize wr.heap.size = L1 at H4 ⊢
      all_goals
        obtain ⟨e0, e1, e2⟩ := H4.n.c3
        obtain ⟨f0, f1, f2⟩ := H4.m.c3
        have HBL : Hid (Below w.heap.size w W2) := H4.g.bl
        have HC : Hid (Calls Tryz.prog 20 #[.slice ka kl kc, .slice ka' kl' kc'] W2 fun e w' => e = .returned (.bool (eqI nl ml)) ∧ Hid (G2 w w' K0 K1 (.slice (some ⟨b, off, none⟩) len cap) (.int .i64 r) (.slice (some ⟨b', off', none⟩) len cap') (.int .i64 r))) :=
          (ints_any (HI.out.later H4.g.bl (Nat.le_refl _)) (HI'.out.later H4.g.bl (Nat.le_refl _)) hkl hkl').mono (fun e w' h => ⟨h.1, H4.g.later h.2⟩)
        clear c0 c1 d0 d1 x0 x1 x2 y0 y1 y2 H4
        by_cases hk : nk = mk'
        case neg =>
          have HF : Hid (¬ (⟨ns, r⟩ : Gr) = ⟨ns', r⟩) := HNO.out (fun e => hk (congrArg Nd.kind e))
          clear HC HYES HNO
          go_wp2
          go_ret
          exact ⟨false, rfl, ⟨fun h => (by cases h), fun h => absurd h HF.out⟩, HBL.out⟩
        subst hk
        by_cases hx : nx = mx
        case neg =>
          have HF : Hid (¬ (⟨ns, r⟩ : Gr) = ⟨ns', r⟩) := HNO.out (fun e => hx (congrArg Nd.text e))
          have hx3 : ((mk nx).toList == (mk mx).toList) = false := by
            rw [ByteArray.toList_eq, ByteArray.toList_eq, mk_data, mk_data]
            exact beq_false_of_ne hx
          have hx4 : ((mk nx).toList != (mk mx).toList) = true := by
            show (!((mk nx).toList == (mk mx).toList)) = true
            rw [hx3]; rfl
          clear HC HYES HNO hx
          go_wp2
          go_ret
          exact ⟨false, rfl, ⟨fun h => (by cases h), fun h => absurd h HF.out⟩, HBL.out⟩
        subst hx
        cases hq : eqI nl ml
        · have HF : Hid (¬ (⟨ns, r⟩ : Gr) = ⟨ns', r⟩) := HNO.out (fun e => by
            have e2 : nl = ml := congrArg Nd.kids e
            unfold eqI at hq
            exact absurd e2 (of_decide_eq_false hq))
          rw [hq] at HC
          clear HYES HNO hq
          go_wp2_with (go_at_call 20; refine HC.out.mono ?_; rintro e w3 ⟨rfl, H3⟩)
          go_ret
          exact ⟨false, rfl, ⟨fun h => (by cases h), fun h => absurd h HF.out⟩, H3.out.bl⟩
        · have HF : Hid (ns.take (j + 1) = ns'.take (j + 1)) := HYES.out (by
            unfold eqI at hq
            rw [of_decide_eq_true hq])
          rw [hq] at HC
          clear HYES HNO hq
          go_wp2_with (go_at_call 20; refine HC.out.mono ?_; rintro e w3 ⟨rfl, H3⟩)
          go_roundw
          case rel => exact ⟨j + 1, by omega, by go_num, HF, H3⟩
          case measure => simp [intOf]; omega
    · have HE : Hid ((⟨ns, r⟩ : Gr) = ⟨ns', r⟩) := by
        have h := HT.out
        have l1 := HA.out.1
        have l2 := HB.out.1
        rw [List.take_of_length_le (by omega), List.take_of_length_le (by omega)] at h
        show _ = _
        rw [h]
      go_wp2
      go_ret
      exact ⟨true, rfl, ⟨fun _ => HE.out, fun _ => rfl⟩, HS.out.bl⟩
theorem rsame_any {w : World} {u v : Value} {g g' : Gr} (h : GrV w u g) (h' : GrV w v g') : Calls Tryz.prog 19 #[u, v] w fun e w' => ∃ q : Bool, e = .returned (.bool q) ∧ (q = true ↔ g = g') ∧ Below w.heap.size w w' := by
  obtain ⟨ns, r⟩ := g
  obtain ⟨ns', r'⟩ := g'
  obtain ⟨ad, len, cap, rfl, h1, h2, _, hN⟩ := h
  obtain ⟨ad', len', cap', rfl, h1', h2', _, hN'⟩ := h'
  have : maxLen = 9223372036854775807 := rfl
  exact rsame_core2 hN hN' (by omega) (by omega)
end Go.Proofs.YtaflbooofchimaaGreatDoor.Grp
end
