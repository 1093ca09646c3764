/- Several texts as one: GraphRsm, GraphTel. -/
import Derived.Test.YtfohbiohleekbaaGreatDoorQTG
import Derived.BigQuiet
import Derived.Deep.QuietTactic
import Derived.Test.YtfohbiohleekbaaGreatDoorQGraphAgS
import Derived.Test.YtfohbiohleekbaaGreatDoorQGraphAlive
import Derived.Test.YtfohbiohleekbaaGreatDoorQTF
section
/- The document's Same, at any two, by its contract. -/
namespace Go.Proofs.YtfohbiohleekbaaGreatDoor.Grp
open Utf Rws Pln Flw
open Go.RowKit
set_option linter.unusedSimpArgs false
set_option linter.unusedVariables false
set_option maxRecDepth 100000
set_option maxHeartbeats 4000000

theorem rsame_core2 {w : World} {ad ad' : Option Addr} {len cap len' cap' : Nat} {r r' : Int} {ns ns' : List Nd} (h : NAt w ad len ns) (h' : NAt w ad' len' ns') (hl : len ≤ 9223372036854775807) (hl' : len' ≤ 9223372036854775807) :
    Calls Tryz.prog 10 #[gv ad len cap r, gv ad' len' cap' r'] w fun e w' => ∃ q : Bool, e = .returned (.bool q) ∧ (q = true ↔ (⟨ns, r⟩ : Gr) = ⟨ns', r'⟩) ∧ Below w.heap.size w w' := by
  have HA : Hid (NAt w ad len ns) := h
  have HB : Hid (NAt w ad' len' ns') := h'
  clear h h'
  have h0 := g2_new w (.slice ad len cap) (.int .i64 r) (.slice ad' len' cap') (.int .i64 r')
  go_enter Tryz.func10, Tryz.ntmps10
  go_upto_region 1 with fail
  generalize (w.alloc (.cells #[.slice ad len cap, .int .i64 r] 30)).alloc (.cells #[.slice ad' len' cap', .int .i64 r'] 30) = W0 at h0 ⊢
  generalize w.heap.size + 1 = K1 at h0 ⊢
  generalize w.heap.size = K0 at h0 ⊢
  have H0 : Hid (G2 w W0 K0 K1 (.slice ad len cap) (.int .i64 r) (.slice ad' len' cap') (.int .i64 r')) := h0
  obtain ⟨c0, c1⟩ := h0.g.c2
  obtain ⟨d0, d1⟩ := h0.h.c2
  clear h0
  by_cases hr : r = r'
  case neg =>
    have HR : Hid (¬ r = r') := hr
    go_wp2
    go_ret
    exact ⟨false, rfl, ⟨fun h => (by cases h), fun h => absurd (congrArg Gr.root h) HR.out⟩, H0.out.bl⟩
  subst hr
  by_cases h4 : len = len'
  case neg =>
    have HP : Hid (¬ ns = ns') := fun h => h4 (by rw [HA.out.1, HB.out.1, h])
    have hne' : ((len : Int) != (len' : Int)) = true := by simp; omega
    go_wp2
    all_goals first | contradiction | skip
    go_ret
    exact ⟨false, rfl, ⟨fun h => (by cases h), fun h => absurd (congrArg Gr.nodes h) HP.out⟩, H0.out.bl⟩
  subst h4
  go_wp2_with fail
  clear c0 c1 d0 d1
  go_loopw [5] (fun i wr => ∃ j : Nat, j ≤ len ∧ i = .int .i64 j ∧ Hid (ns.take j = ns'.take j) ∧ Hid (G2 w wr K0 K1 (.slice ad len cap) (.int .i64 r) (.slice ad' len cap') (.int .i64 r))) (fun i _ => len - (intOf i).toNat)
  case atStart => exact ⟨0, Nat.zero_le _, rfl, rfl, H0⟩
  case round =>
    obtain ⟨j, hj, rfl, HT, HS⟩ := hrel
    clear H0
    obtain ⟨c0, c1⟩ := HS.out.g.c2
    obtain ⟨d0, d1⟩ := HS.out.h.c2
    by_cases hlt : j < len
    · obtain ⟨b, off, rfl, hb, hc⟩ := HA.out.2 (by omega)
      obtain ⟨b', off', rfl, hb', hc'⟩ := HB.out.2 (by omega)
      obtain ⟨ka, kl, kc, q1, q2, _, _, qI, x0, x1, x2⟩ := hc j hlt
      obtain ⟨ka', kl', kc', q1', q2', _, _, qI', y0, y1, y2⟩ := hc' j hlt
      replace x0 := (HS.out.bl.cell (p := ⟨b, off + j * 3, none⟩) hb).trans x0
      replace x1 := (HS.out.bl.cell (p := ⟨b, off + j * 3 + 1, none⟩) hb).trans x1
      replace x2 := (HS.out.bl.cell (p := ⟨b, off + j * 3 + 2, none⟩) hb).trans x2
      replace y0 := (HS.out.bl.cell (p := ⟨b', off' + j * 3, none⟩) hb').trans y0
      replace y1 := (HS.out.bl.cell (p := ⟨b', off' + j * 3 + 1, none⟩) hb').trans y1
      replace y2 := (HS.out.bl.cell (p := ⟨b', off' + j * 3 + 2, none⟩) hb').trans y2
      clear hc hc'
      obtain ⟨nd, HND⟩ : ∃ nd, Hid (nd = ns.getD j nd0) := ⟨_, rfl⟩
      obtain ⟨md, HMD⟩ : ∃ md, Hid (md = ns'.getD j nd0) := ⟨_, rfl⟩
      rw [← HND.out] at x0 x1 qI
      rw [← HMD.out] at y0 y1 qI'
      obtain ⟨nk, nx, nl⟩ := nd
      obtain ⟨mk', mx, ml⟩ := md
      simp only at x0 x1 y0 y1 qI qI'
      have HI : Hid (IAt w ka kl nl) := qI
      have HI' : Hid (IAt w ka' kl' ml) := qI'
      have hkl : kl ≤ 9223372036854775807 := by have : maxLen = 9223372036854775807 := rfl; omega
      have hkl' : kl' ≤ 9223372036854775807 := by have : maxLen = 9223372036854775807 := rfl; omega
      have HYES : Hid ((⟨nk, nx, nl⟩ : Nd) = ⟨mk', mx, ml⟩ → ns.take (j + 1) = ns'.take (j + 1)) := fun e => take_nd (by have := HA.out.1; omega) (by have := HB.out.1; omega) HT.out (by rw [← HND.out, ← HMD.out, e])
      have HNO : Hid (¬ (⟨nk, nx, nl⟩ : Nd) = ⟨mk', mx, ml⟩ → ¬ (⟨ns, r⟩ : Gr) = ⟨ns', r⟩) := fun hn e => hn (by have e' : ns = ns' := congrArg Gr.nodes e; rw [HND.out, HMD.out, e'])
      clear qI qI' q1 q2 q1' q2' HND HMD
      go_upto_region 6 with fail
      have hK0 := HS.out.g.lt
      have hK1 := HS.out.h.lt
      have hs := HS.out.bl.size
      have hbw : b < wr.heap.size := by omega
      have hbw' : b' < wr.heap.size := by omega
      clear hs
      go_region
      have H4 : G4 w ((wr.alloc (.cells #[.int .i64 nk, .string (mk nx), .slice ka kl kc] 50)).alloc (.cells #[.int .i64 mk', .string (mk mx), .slice ka' kl' kc'] 50)).drew K0 K1 wr.heap.size (wr.heap.size + 1) (.slice (some ⟨b, off, none⟩) len cap) (.int .i64 r) (.slice (some ⟨b', off', none⟩) len cap') (.int .i64 r) #[.int .i64 nk, .string (mk nx), .slice ka kl kc] #[.int .i64 mk', .string (mk mx), .slice ka' kl' kc'] := ⟨(HS.out.two _ _).2.2, (HS.out.two _ _).1, (HS.out.two _ _).2.1⟩
      generalize ((wr.alloc (.cells #[.int .i64 nk, .string (mk nx), .slice ka kl kc] 50)).alloc (.cells #[.int .i64 mk', .string (mk mx), .slice ka' kl' kc'] 50)).drew = W2 at H4 ⊢
      clear hbw hbw' hK0 hK1
      generalize wr.heap.size + 1 = L1 at H4 ⊢
      generalize wr.heap.size = L0 at H4 ⊢
      rotate_left
      have H4 : G4 w ((wr.alloc (.cells #[.int .i64 mk', .string (mk mx), .slice ka' kl' kc'] 50)).alloc (.cells #[.int .i64 nk, .string (mk nx), .slice ka kl kc] 50)).drew K0 K1 (wr.heap.size + 1) wr.heap.size (.slice (some ⟨b, off, none⟩) len cap) (.int .i64 r) (.slice (some ⟨b', off', none⟩) len cap') (.int .i64 r) #[.int .i64 nk, .string (mk nx), .slice ka kl kc] #[.int .i64 mk', .string (mk mx), .slice ka' kl' kc'] := ⟨(HS.out.two _ _).2.2, (HS.out.two _ _).2.1, (HS.out.two _ _).1⟩
      generalize ((wr.alloc (.cells #[.int .i64 mk', .string (mk mx), .slice ka' kl' kc'] 50)).alloc (.cells #[.int .i64 nk, .string (mk nx), .slice ka kl kc] 50)).drew = W2 at H4 ⊢
      clear hbw hbw' hK0 hK1
      generalize wr.heap.size + 1 = L0 at H4 ⊢
      generalize wr.heap.size = L1 at H4 ⊢
      all_goals
        obtain ⟨e0, e1, e2⟩ := H4.n.c3
        obtain ⟨f0, f1, f2⟩ := H4.m.c3
        have HBL : Hid (Below w.heap.size w W2) := H4.g.bl
        have HC : Hid (Calls Tryz.prog 18 #[.slice ka kl kc, .slice ka' kl' kc'] W2 fun e w' => e = .returned (.bool (eqI nl ml)) ∧ Hid (G2 w w' K0 K1 (.slice (some ⟨b, off, none⟩) len cap) (.int .i64 r) (.slice (some ⟨b', off', none⟩) len cap') (.int .i64 r))) :=
          (ints_any (HI.out.later H4.g.bl (Nat.le_refl _)) (HI'.out.later H4.g.bl (Nat.le_refl _)) hkl hkl').mono (fun e w' h => ⟨h.1, H4.g.later h.2⟩)
        clear c0 c1 d0 d1 x0 x1 x2 y0 y1 y2 H4
        by_cases hk : nk = mk'
        case neg =>
          have HF : Hid (¬ (⟨ns, r⟩ : Gr) = ⟨ns', r⟩) := HNO.out (fun e => hk (congrArg Nd.kind e))
          clear HC HYES HNO
          go_wp2
          go_ret
          exact ⟨false, rfl, ⟨fun h => (by cases h), fun h => absurd h HF.out⟩, HBL.out⟩
        subst hk
        by_cases hx : nx = mx
        case neg =>
          have HF : Hid (¬ (⟨ns, r⟩ : Gr) = ⟨ns', r⟩) := HNO.out (fun e => hx (congrArg Nd.text e))
          have hx3 : ((mk nx).toList == (mk mx).toList) = false := by
            rw [ByteArray.toList_eq, ByteArray.toList_eq, mk_data, mk_data]
            exact beq_false_of_ne hx
          have hx4 : ((mk nx).toList != (mk mx).toList) = true := by
            show (!((mk nx).toList == (mk mx).toList)) = true
            rw [hx3]; rfl
          clear HC HYES HNO hx
          go_wp2
          go_ret
          exact ⟨false, rfl, ⟨fun h => (by cases h), fun h => absurd h HF.out⟩, HBL.out⟩
        subst hx
        cases hq : eqI nl ml
        · have HF : Hid (¬ (⟨ns, r⟩ : Gr) = ⟨ns', r⟩) := HNO.out (fun e => by
            have e2 : nl = ml := congrArg Nd.kids e
            unfold eqI at hq
            exact absurd e2 (of_decide_eq_false hq))
          rw [hq] at HC
          clear HYES HNO hq
          go_wp2_with (go_at_call 18; refine HC.out.mono ?_; rintro e w3 ⟨rfl, H3⟩)
          go_ret
          exact ⟨false, rfl, ⟨fun h => (by cases h), fun h => absurd h HF.out⟩, H3.out.bl⟩
        · have HF : Hid (ns.take (j + 1) = ns'.take (j + 1)) := HYES.out (by
            unfold eqI at hq
            rw [of_decide_eq_true hq])
          rw [hq] at HC
          clear HYES HNO hq
          go_wp2_with (go_at_call 18; refine HC.out.mono ?_; rintro e w3 ⟨rfl, H3⟩)
          go_roundw
          case rel => exact ⟨j + 1, by omega, by go_num, HF, H3⟩
          case measure => simp [intOf]; omega
    · have HE : Hid ((⟨ns, r⟩ : Gr) = ⟨ns', r⟩) := by
        have h := HT.out
        have l1 := HA.out.1
        have l2 := HB.out.1
        rw [List.take_of_length_le (by omega), List.take_of_length_le (by omega)] at h
        show _ = _
        rw [h]
      go_wp2
      go_ret
      exact ⟨true, rfl, ⟨fun _ => HE.out, fun _ => rfl⟩, HS.out.bl⟩
theorem rsame_any {w : World} {u v : Value} {g g' : Gr} (h : GrV w u g) (h' : GrV w v g') : Calls Tryz.prog 10 #[u, v] w fun e w' => ∃ q : Bool, e = .returned (.bool q) ∧ (q = true ↔ g = g') ∧ Below w.heap.size w w' := by
  obtain ⟨ns, r⟩ := g
  obtain ⟨ns', r'⟩ := g'
  obtain ⟨ad, len, cap, rfl, h1, h2, _, hN⟩ := h
  obtain ⟨ad', len', cap', rfl, h1', h2', _, hN'⟩ := h'
  have : maxLen = 9223372036854775807 := rfl
  exact rsame_core2 hN hN' (by omega) (by omega)
end Go.Proofs.YtfohbiohleekbaaGreatDoor.Grp
end

section
/- grommetlaw12.GraphTells. -/
namespace Go.Proofs.YtfohbiohleekbaaGreatDoor.Grp
open Utf Rws Pln Flw
open Go.RowKit
set_option linter.unusedSimpArgs false
set_option linter.unusedVariables false
set_option maxRecDepth 100000
set_option maxHeartbeats 4000000

theorem ores_of {w : World} {q : Bool} {O : List Nat} {e : Ending} {w' : World} (h : ORes w q O e w') : ∃ (ad : Option Addr) (len cap : Nat), e = .returned (.tuple #[.slice ad len cap, .int .i64 (if q = true then 0 else 1)]) ∧ Hid (IAt w' ad len (if q = true then O.map (fun a : Nat => (a : Int)) else [])) ∧ len ≤ 5000 ∧ Hid (Below w.heap.size w w') := by
  obtain ⟨h1, h2⟩ := h
  cases q
  · rw [if_neg (by decide)] at h1
    exact ⟨none, 0, 0, h1, ⟨rfl, fun h => absurd h (by decide)⟩, by omega, h2⟩
  · rw [if_pos rfl] at h1
    obtain ⟨ad, cap, e1, e2, e3⟩ := h1
    exact ⟨ad, O.length, cap, e1, e2, e3, h2⟩
theorem dres_of {w : World} {q : Bool} {d : Nat} {e : Ending} {w' : World} (h : DRes w q d e w') : e = .returned (.tuple #[.int .i64 (if q = true then (d : Int) else 0), .int .i64 (if q = true then 0 else 1)]) ∧ Hid (Below w.heap.size w w') := by
  obtain ⟨h1, h2⟩ := h
  cases q
  · rw [if_neg (by decide)] at h1
    exact ⟨h1, h2⟩
  · rw [if_pos rfl] at h1
    exact ⟨h1, h2⟩
/-- two graphs in their boxes -/
structure TlS (w W : World) (K K' : Nat) (ad : Option Addr) (len cap : Nat) (r : Int) (ns : List Nd) (ad' : Option Addr) (len' cap' : Nat) (r' : Int) (ns' : List Nd) : Prop where
  a : AgS w W K ad len cap r ns
  b : AgS w W K' ad' len' cap' r' ns'
theorem TlS.later {w W W' : World} {K K' : Nat} {ad ad' : Option Addr} {len cap len' cap' : Nat} {r r' : Int} {ns ns' : List Nd} (h : TlS w W K K' ad len cap r ns ad' len' cap' r' ns') (hb : Below W.heap.size W W') : TlS w W' K K' ad len cap r ns ad' len' cap' r' ns' := ⟨h.a.later hb, h.b.later hb⟩
theorem TlS.new {w : World} {ad ad' : Option Addr} {len cap len' cap' : Nat} {r r' : Int} {ns ns' : List Nd} (h : GrV w (gv ad len cap r) ⟨ns, r⟩) (h' : GrV w (gv ad' len' cap' r') ⟨ns', r'⟩) :
    TlS w ((w.alloc (.cells #[.slice ad len cap, .int .i64 r] 30)).alloc (.cells #[.slice ad' len' cap', .int .i64 r'] 30)) w.heap.size (w.heap.size + 1) ad len cap r ns ad' len' cap' r' ns' := by
  have b1 := below_alloc w (.cells #[.slice ad len cap, .int .i64 r] 30)
  have h1 : AgS w _ w.heap.size ad len cap r ns := AgS.new (Below.refl _ _) h
  have s1 : (w.alloc (.cells #[.slice ad len cap, .int .i64 r] 30)).heap.size = w.heap.size + 1 := World.size_alloc _ _
  have h2 : AgS w _ _ ad' len' cap' r' ns' := AgS.new h1.bl (h'.later b1 (Nat.le_refl _))
  rw [s1] at h2
  exact ⟨h1.later (below_alloc _ _), h2⟩
theorem TlS.cs {w W : World} {K K' : Nat} {ad ad' : Option Addr} {len cap len' cap' : Nat} {r r' : Int} {ns ns' : List Nd} (h : TlS w W K K' ad len cap r ns ad' len' cap' r' ns') :
    (W.cell? ⟨K, 0, none⟩ = some (.slice ad len cap) ∧ W.cell? ⟨K, 1, none⟩ = some (.int .i64 r)) ∧ W.cell? ⟨K', 0, none⟩ = some (.slice ad' len' cap') ∧ W.cell? ⟨K', 1, none⟩ = some (.int .i64 r') := ⟨h.a.b.c2, h.b.b.c2⟩
theorem tells_core {w : World} {ad ad' : Option Addr} {len cap len' cap' : Nat} {r r' : Int} {ns ns' : List Nd} (hG : GrV w (gv ad len cap r) ⟨ns, r⟩) (hG' : GrV w (gv ad' len' cap' r') ⟨ns', r'⟩) (hT : Tb w) :
    Calls Tryz.prog 4 #[gv ad len cap r, gv ad' len' cap' r'] w fun e w' => e = .returned (.bool true) ∧ Below w.heap.size w w' := by
  have HA : Hid (∀ W, Below w.heap.size w W → Calls Tryz.prog 7 #[] W fun e W' => e = .returned (.bool true) ∧ Below W.heap.size W W') := fun W b => alive_any (hT.later b)
  have h0 : Hid (TlS w _ w.heap.size (w.heap.size + 1) ad len cap r ns ad' len' cap' r' ns') := TlS.new hG hG'
  obtain ⟨K0, hK0⟩ : ∃ K0, Hid (w.heap.size = K0) := ⟨_, rfl⟩
  obtain ⟨K1, hK1⟩ : ∃ K1, Hid (w.heap.size + 1 = K1) := ⟨_, rfl⟩
  have HLA : Hid (∀ W, Hid (TlS w W K0 K1 ad len cap r ns ad' len' cap' r' ns') → Calls Tryz.prog 11 #[gv ad len cap r] W fun e W' => e = .returned (.bool (lgB ns)) ∧ Hid (TlS w W' K0 K1 ad len cap r ns ad' len' cap' r' ns')) := fun W h => (large_any h.out.a.g).mono (fun e W' q => ⟨q.1, h.out.later q.2⟩)
  have HLB : Hid (∀ W, Hid (TlS w W K0 K1 ad len cap r ns ad' len' cap' r' ns') → Calls Tryz.prog 11 #[gv ad' len' cap' r'] W fun e W' => e = .returned (.bool (lgB ns')) ∧ Hid (TlS w W' K0 K1 ad len cap r ns ad' len' cap' r' ns')) := fun W h => (large_any h.out.b.g).mono (fun e W' q => ⟨q.1, h.out.later q.2⟩)
  cases hl : lgB ns
  case true =>
    rw [hl] at HLA
    clear hT hG hG' HLB
    go_enter Tryz.func4, Tryz.ntmps4
    go_wp2_with fail
    generalize (w.alloc (.cells #[.slice ad len cap, .int .i64 r] 30)).alloc (.cells #[.slice ad' len' cap', .int .i64 r'] 30) = W0 at h0 ⊢
    rw [hK1.out, hK0.out] at h0
    refine (HLA.out _ h0).mono ?_
    rintro e w1 ⟨rfl, H1⟩
    clear hK0 hK1
    go_wp2_with (go_at_call 7; refine (HA.out _ H1.out.a.bl).mono ?_; rintro e w2 ⟨rfl, H2⟩)
    go_ret
    exact ⟨rfl, H1.out.a.bl.trans (H2.mono H1.out.a.bl.size)⟩
  case false =>
  rw [hl] at HLA
  cases hl' : lgB ns'
  case true =>
    rw [hl'] at HLB
    clear hT hG hG'
    go_enter Tryz.func4, Tryz.ntmps4
    go_wp2_with fail
    generalize (w.alloc (.cells #[.slice ad len cap, .int .i64 r] 30)).alloc (.cells #[.slice ad' len' cap', .int .i64 r'] 30) = W0 at h0 ⊢
    rw [hK1.out, hK0.out] at h0
    try rw [hK1.out]
    try rw [hK0.out]
    refine (HLA.out _ h0).mono ?_
    rintro e w1 ⟨rfl, H1⟩
    clear hK0 hK1 h0 HLA
    obtain ⟨⟨c0, c1⟩, c2, c3⟩ := H1.out.cs
    go_wp2_with (first | (go_at_call 11; refine (HLB.out _ H1).mono ?_; rintro e w2 ⟨rfl, H2⟩) | (go_at_call 7; refine (HA.out _ H2.out.a.bl).mono ?_; rintro e w3 ⟨rfl, H3⟩))
    go_ret
    exact ⟨rfl, H2.out.a.bl.trans (H3.mono H2.out.a.bl.size)⟩
  case false =>
    rw [hl'] at HLB
    have hS := lgB_sml hl
    have hS2 := lgB_sm2 hl
    obtain ⟨qr, hqr⟩ : ∃ qr, qr = rgG ⟨ns, r⟩ := ⟨_, rfl⟩
    obtain ⟨er, her⟩ : ∃ er : Int, er = if qr = true then 0 else 1 := ⟨_, rfl⟩
    obtain ⟨ol, hol⟩ : ∃ ol : List Int, ol = if qr = true then (odG ns r.toNat).map (fun a : Nat => (a : Int)) else [] := ⟨_, rfl⟩
    obtain ⟨dd, hdd⟩ : ∃ dd : Int, dd = if qr = true then (dpG ns r.toNat : Int) else 0 := ⟨_, rfl⟩
    obtain ⟨qs, hqs⟩ : ∃ qs : Bool, (qs = true ↔ (⟨ns, r⟩ : Gr) = ⟨ns', r'⟩) := by
      by_cases h : (⟨ns, r⟩ : Gr) = ⟨ns', r'⟩
      · exact ⟨true, ⟨fun _ => h, fun _ => rfl⟩⟩
      · exact ⟨false, ⟨fun q => absurd q (by decide), fun q => absurd q h⟩⟩
    have HO : Hid (∀ W, Hid (TlS w W K0 K1 ad len cap r ns ad' len' cap' r' ns') → Calls Tryz.prog 12 #[gv ad len cap r] W fun e W' => ∃ (oa : Option Addr) (on oc : Nat), e = .returned (.tuple #[.slice oa on oc, .int .i64 er]) ∧ Hid (IAt W' oa on ol) ∧ on ≤ 5000 ∧ Hid (TlS w W' K0 K1 ad len cap r ns ad' len' cap' r' ns')) := fun W h => (order_any h.out.a.g hS (hT.later h.out.a.bl)).mono (fun e W' q => by
      obtain ⟨oa, on, oc, q1, q2, q3, q4⟩ := ores_of q
      rw [her, hol, hqr]
      exact ⟨oa, on, oc, q1, q2, q3, h.out.later q4.out⟩)
    have HRO : Hid (∀ W, Hid (TlS w W K0 K1 ad len cap r ns ad' len' cap' r' ns') → Calls Tryz.prog 13 #[gv ad len cap r] W fun e W' => ∃ (oa : Option Addr) (on oc : Nat), e = .returned (.tuple #[.slice oa on oc, .int .i64 er]) ∧ Hid (IAt W' oa on ol) ∧ on ≤ 5000 ∧ Hid (TlS w W' K0 K1 ad len cap r ns ad' len' cap' r' ns') ∧ Hid (Below W.heap.size W W')) := fun W h => (rorder12_any h.out.a.g hS2).mono (fun e W' q => by
      obtain ⟨oa, on, oc, q1, q2, q3, q4⟩ := ores_of q
      rw [her, hol, hqr]
      exact ⟨oa, on, oc, q1, q2, q3, h.out.later q4.out, q4⟩)
    have HD : Hid (∀ W, Hid (TlS w W K0 K1 ad len cap r ns ad' len' cap' r' ns') → Calls Tryz.prog 14 #[gv ad len cap r] W fun e W' => e = .returned (.tuple #[.int .i64 dd, .int .i64 er]) ∧ Hid (TlS w W' K0 K1 ad len cap r ns ad' len' cap' r' ns') ∧ Hid (Below W.heap.size W W')) := fun W h => (depth_any h.out.a.g hS (hT.later h.out.a.bl)).mono (fun e W' q => by
      obtain ⟨q1, q4⟩ := dres_of q
      rw [her, hdd, hqr]
      exact ⟨q1, h.out.later q4.out, q4⟩)
    have HRD : Hid (∀ W, Hid (TlS w W K0 K1 ad len cap r ns ad' len' cap' r' ns') → Calls Tryz.prog 15 #[gv ad len cap r] W fun e W' => e = .returned (.tuple #[.int .i64 dd, .int .i64 er]) ∧ Hid (TlS w W' K0 K1 ad len cap r ns ad' len' cap' r' ns') ∧ Hid (Below W.heap.size W W')) := fun W h => (rdepth12_any h.out.a.g hS2).mono (fun e W' q => by
      obtain ⟨q1, q4⟩ := dres_of q
      rw [her, hdd, hqr]
      exact ⟨q1, h.out.later q4.out, q4⟩)
    have HR : Hid (∀ W, TlS w W K0 K1 ad len cap r ns ad' len' cap' r' ns' → Calls Tryz.prog 16 #[gv ad len cap r] W fun e W' => e = .returned (.bool qr) ∧ Below W.heap.size W W') := fun W h => (right_gr h.a.g hS (hT.later h.a.bl)).mono (fun e W' q => by rw [hqr]; exact q)
    have HRR : Hid (∀ W, TlS w W K0 K1 ad len cap r ns ad' len' cap' r' ns' → Calls Tryz.prog 17 #[gv ad len cap r] W fun e W' => e = .returned (.bool qr) ∧ Below W.heap.size W W') := fun W h => (rright12_any h.a.g hS2).mono (fun e W' q => by rw [hqr]; exact q)
    have HI : Hid (∀ W a1 n1 c1 a2 n2 c2, IAt W a1 n1 ol → IAt W a2 n2 ol → n1 ≤ 5000 → n2 ≤ 5000 → Calls Tryz.prog 18 #[.slice a1 n1 c1, .slice a2 n2 c2] W fun e W' => e = .returned (.bool true) ∧ Below W.heap.size W W') := fun W a1 n1 c1 a2 n2 c2 h1 h2 l1 l2 => (ints_any h1 h2 (by omega) (by omega)).mono (fun e W' q => by
      have : eqI ol ol = true := by unfold eqI; simp
      rw [this] at q; exact q)
    have HS : Hid (∀ W, TlS w W K0 K1 ad len cap r ns ad' len' cap' r' ns' → Calls Tryz.prog 19 #[gv ad len cap r, gv ad' len' cap' r'] W fun e W' => e = .returned (.bool qs) ∧ Below W.heap.size W W') := fun W h => (gsame_any h.a.g h.b.g).mono (fun e W' q => by
      obtain ⟨q, q1, q2, q3⟩ := q
      have : q = qs := by rw [Bool.eq_iff_iff, q2, hqs]
      rw [← this]; exact ⟨q1, q3⟩)
    have HSR : Hid (∀ W, TlS w W K0 K1 ad len cap r ns ad' len' cap' r' ns' → Calls Tryz.prog 10 #[gv ad len cap r, gv ad' len' cap' r'] W fun e W' => e = .returned (.bool qs) ∧ Below W.heap.size W W') := fun W h => (rsame_any h.a.g h.b.g).mono (fun e W' q => by
      obtain ⟨q, q1, q2, q3⟩ := q
      have : q = qs := by rw [Bool.eq_iff_iff, q2, hqs]
      rw [← this]; exact ⟨q1, q3⟩)
    have HSS : Hid (∀ W, TlS w W K0 K1 ad len cap r ns ad' len' cap' r' ns' → Calls Tryz.prog 19 #[gv ad len cap r, gv ad len cap r] W fun e W' => e = .returned (.bool true) ∧ Below W.heap.size W W') := fun W h => (gsame_any h.a.g h.a.g).mono (fun e W' q => by
      obtain ⟨q, q1, q2, q3⟩ := q
      have : q = true := q2.2 rfl
      rw [← this]; exact ⟨q1, q3⟩)
    clear hT hG hG' hS hS2 hqr her hol hdd hqs hl hl'
    go_enter Tryz.func4, Tryz.ntmps4
    go_wp2_with fail
    generalize (w.alloc (.cells #[.slice ad len cap, .int .i64 r] 30)).alloc (.cells #[.slice ad' len' cap', .int .i64 r'] 30) = W0 at h0 ⊢
    rw [hK1.out, hK0.out] at h0
    try rw [hK1.out]
    try rw [hK0.out]
    refine (HLA.out _ h0).mono ?_
    rintro e w1 ⟨rfl, H1⟩
    clear hK0 hK1 h0 HLA
    obtain ⟨⟨c0, c1⟩, c2, c3⟩ := H1.out.cs
    go_upto_region 3 with (go_at_call 11; refine (HLB.out _ H1).mono ?_; rintro e w2 ⟨rfl, H2⟩)
    clear H1 c0 c1 c2 c3 HLB
    obtain ⟨⟨c0, c1⟩, c2, c3⟩ := H2.out.cs
    go_upto_region 4 with (go_at_call 12; refine (HO.out _ H2).mono ?_; rintro e w3 ⟨oa, on, oc, rfl, I3, on5, H3⟩)
    clear H2 c0 c1 c2 c3 HO
    obtain ⟨⟨c0, c1⟩, c2, c3⟩ := H3.out.cs
    go_upto_region 5 with (go_at_call 13; refine (HRO.out _ H3).mono ?_; rintro e w4 ⟨pa, pn, pc, rfl, J4, pn5, H4, B4⟩)
    have I4 : Hid (IAt w4 oa on ol) := I3.out.later B4.out (Nat.le_refl _)
    clear H3 c0 c1 c2 c3 HRO I3 B4
    obtain ⟨⟨c0, c1⟩, c2, c3⟩ := H4.out.cs
    go_upto_region 6 with (go_at_call 14; refine (HD.out _ H4).mono ?_; rintro e w5 ⟨rfl, H5, B5⟩)
    have I5 : Hid (IAt w5 oa on ol) := I4.out.later B5.out (Nat.le_refl _)
    have J5 : Hid (IAt w5 pa pn ol) := J4.out.later B5.out (Nat.le_refl _)
    clear H4 c0 c1 c2 c3 HD I4 J4 B5
    obtain ⟨⟨c0, c1⟩, c2, c3⟩ := H5.out.cs
    go_upto_region 7 with (go_at_call 15; refine (HRD.out _ H5).mono ?_; rintro e w6 ⟨rfl, H6, B6⟩)
    have I6 : Hid (IAt w6 oa on ol) := I5.out.later B6.out (Nat.le_refl _)
    have J6 : Hid (IAt w6 pa pn ol) := J5.out.later B6.out (Nat.le_refl _)
    clear H5 c0 c1 c2 c3 HRD I5 J5 B6
    have HQ : Hid (∀ q : QW w6, TlS w q.w K0 K1 ad len cap r ns ad' len' cap' r' ns') := fun q => H6.out.later q.h
    have c0 : ∀ q : QW w6, q.w.cell? ⟨K0, 0, none⟩ = some (.slice ad len cap) := fun q => (HQ.out q).cs.1.1
    have c1 : ∀ q : QW w6, q.w.cell? ⟨K0, 1, none⟩ = some (.int .i64 r) := fun q => (HQ.out q).cs.1.2
    have c2 : ∀ q : QW w6, q.w.cell? ⟨K1, 0, none⟩ = some (.slice ad' len' cap') := fun q => (HQ.out q).cs.2.1
    have c3 : ∀ q : QW w6, q.w.cell? ⟨K1, 1, none⟩ = some (.int .i64 r') := fun q => (HQ.out q).cs.2.2
    have HIQ : Hid (∀ q : QW w6, Calls Tryz.prog 18 #[.slice oa on oc, .slice pa pn pc] q.w fun e W' => e = .returned (.bool true) ∧ Below q.w.heap.size q.w W') := fun q => HI.out _ _ _ _ _ _ _ (I6.out.later q.h (Nat.le_refl _)) (J6.out.later q.h (Nat.le_refl _)) on5 pn5
    have HAQ : Hid (∀ q : QW w6, Calls Tryz.prog 7 #[] q.w fun e W' => e = .returned (.bool true) ∧ Below q.w.heap.size q.w W') := fun q => HA.out _ (HQ.out q).a.bl
    have HBW : Hid (∀ q : QW w6, Below w.heap.size w q.w) := fun q => (HQ.out q).a.bl
    have hNE : Nonempty (QW w6) := ⟨⟨w6, Below.refl _ _⟩⟩
    obtain ⟨SA, hSA1, hSA2, TSS⟩ : ∃ SA : Value → Bool → Prop, SA (gv ad' len' cap' r') qs ∧ SA (gv ad len cap r) true ∧ Hid (∀ (q : QW w6) (v : Value) (b : Bool), SA v b → Calls Tryz.prog 19 #[gv ad len cap r, v] q.w fun e w' => e = .returned (.bool b) ∧ Below q.w.heap.size q.w w') := ⟨fun v b => ∀ q : QW w6, Calls Tryz.prog 19 #[gv ad len cap r, v] q.w fun e w' => e = .returned (.bool b) ∧ Below q.w.heap.size q.w w', fun q => HS.out _ (HQ.out q), fun q => HSS.out _ (HQ.out q), fun q v b h => h q⟩
    have HR6 : Hid (∀ q : QW w6, Calls Tryz.prog 16 #[gv ad len cap r] q.w fun e W' => e = .returned (.bool qr) ∧ Below q.w.heap.size q.w W') := fun q => HR.out _ (HQ.out q)
    have HRR6 : Hid (∀ q : QW w6, Calls Tryz.prog 17 #[gv ad len cap r] q.w fun e W' => e = .returned (.bool qr) ∧ Below q.w.heap.size q.w W') := fun q => HRR.out _ (HQ.out q)
    have HSR6 : Hid (∀ q : QW w6, Calls Tryz.prog 10 #[gv ad len cap r, gv ad' len' cap' r'] q.w fun e W' => e = .returned (.bool qs) ∧ Below q.w.heap.size q.w W') := fun q => HSR.out _ (HQ.out q)
    clear HI HA H6 I6 J6 HS HSS HR HRR HSR HQ
    go_wp2_with fail
    refine wp_region_class (by kernel_rfl) (by kernel_rfl) ?_
    repeat (go_big_quiet_step (first | (go_at_call 16; refine calls_class _ (HR6.out _)) | (go_at_call 17; refine calls_class _ (HRR6.out _)) | (go_at_call 18; refine calls_class _ (HIQ.out _)) | (go_at_call 19; apply calls_class; apply TSS.out; first | exact hSA1 | exact hSA2) | (go_at_call 10; refine calls_class _ (HSR6.out _)) | (go_at_call 7; refine calls_class _ (HAQ.out _))))
    refine wpQuiet_nil ?_
    intro _ hw'
    obtain ⟨q, hw''⟩ := hw'
    subst hw''
    have hbel := HBW.out q
    clear c0 c1 c2 c3
    go_wp2
    go_ret
    exact ⟨rfl, hbel⟩
theorem tells_walk (v : Value) (g : Gr) (v' : Value) (g' : Gr) (w : World) (hG : GrV w v g) (hG' : GrV w v' g') (hT : Tb w) : Calls Tryz.prog 4 #[v, v'] w fun e w' => e = .returned (.bool true) ∧ Below w.heap.size w w' := by
  obtain ⟨ns, r⟩ := g
  obtain ⟨ns', r'⟩ := g'
  have h2 := hG
  have h3 := hG'
  obtain ⟨ad, len, cap, rfl, _⟩ := h2
  obtain ⟨ad', len', cap', rfl, _⟩ := h3
  exact tells_core hG hG' hT
end Go.Proofs.YtfohbiohleekbaaGreatDoor.Grp
end
