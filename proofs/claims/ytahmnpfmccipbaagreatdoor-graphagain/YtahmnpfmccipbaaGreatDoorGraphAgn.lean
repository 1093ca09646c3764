/- grommetlaw12.GraphAgain. -/
import Derived.Test.YtahmnpfmccipbaaGreatDoorGraphAlive
import Derived.Test.YtahmnpfmccipbaaGreatDoorGgK
import Derived.Test.YtahmnpfmccipbaaGreatDoorGraphAgS
namespace Go.Proofs.YtahmnpfmccipbaaGreatDoor.Grp
open Utf Rws Pln Flw
open Go.RowKit
set_option linter.unusedSimpArgs false
set_option linter.unusedVariables false
set_option maxRecDepth 100000
set_option maxHeartbeats 4000000

theorem again_core {w : World} {ad : Option Addr} {len cap : Nat} {r : Int} {ns : List Nd} (hG : GrV w (gv ad len cap r) ⟨ns, r⟩) (hT : Tb w) : Calls Tryz.prog 4 #[gv ad len cap r] w fun e w' => e = .returned (.bool true) ∧ Below w.heap.size w w' := by
  have HA : Hid (∀ W, Below w.heap.size w W → Calls Tryz.prog 8 #[] W fun e W' => e = .returned (.bool true) ∧ Hid (Below w.heap.size w W')) := fun W b => (alive_any (hT.later b)).mono (fun e W' q => ⟨q.1, b.trans (q.2.mono b.size)⟩)
  have HLG : Hid (∀ W, Hid (AgS w W w.heap.size ad len cap r ns) → Calls Tryz.prog 13 #[gv ad len cap r] W fun e W' => e = .returned (.bool (lgB ns)) ∧ Hid (AgS w W' w.heap.size ad len cap r ns)) := fun W h => (large_any h.out.g).mono (fun e W' q => ⟨q.1, h.out.later q.2⟩)
  have h0 : Hid (AgS w (w.alloc (.cells #[.slice ad len cap, .int .i64 r] 30)) w.heap.size ad len cap r ns) := AgS.new (Below.refl _ _) hG
  cases hl : lgB ns
  case true =>
    rw [hl] at HLG
    clear hT hG
    go_enter Tryz.func4, Tryz.ntmps4
    go_wp2_with fail
    generalize w.alloc (.cells #[.slice ad len cap, .int .i64 r] 30) = W0 at h0 ⊢
    refine (HLG.out _ h0).mono ?_
    rintro e w1 ⟨rfl, H1⟩
    go_wp2_with (go_at_call 8; refine (HA.out _ H1.out.bl).mono ?_; rintro e w2 ⟨rfl, H2⟩)
    go_ret
    exact ⟨rfl, H2.out⟩
  case false =>
    have hS := lgB_sml hl
    have HCA : Hid (∀ W, Hid (AgS w W w.heap.size ad len cap r ns) → Calls Tryz.prog 11 #[gv ad len cap r] W fun e W' => (if rgG ⟨ns, r⟩ = true then ∃ ad' len' cap', e = .returned (.tuple #[gv ad' len' cap' 0, .int .i64 0]) ∧ Hid (GrV W' (gv ad' len' cap' 0) ⟨cnN ns (odG ns r.toNat), 0⟩) else e = .returned (.tuple #[gv none 0 0 0, .int .i64 1])) ∧ Hid (AgS w W' w.heap.size ad len cap r ns)) := fun W h => (canon_any h.out.g hS (hT.later h.out.bl)).mono (fun e W' q => ⟨by
      have q1 := q.1
      split at q1
      · rename_i hc
        rw [if_pos hc]
        obtain ⟨v, rfl, hv⟩ := q1
        have hv2 := hv.v
        obtain ⟨ad', len', cap', rfl, _⟩ := hv.v
        exact ⟨ad', len', cap', rfl, hv2⟩
      · rename_i hc
        rw [if_neg hc]
        exact q1, h.out.later q.2⟩)
    have HRA : Hid (∀ W, Hid (AgS w W w.heap.size ad len cap r ns) → Calls Tryz.prog 10 #[gv ad len cap r] W fun e W' => e = .returned (.bool (rgG ⟨ns, r⟩)) ∧ Hid (AgS w W' w.heap.size ad len cap r ns) ∧ Hid (Below W.heap.size W W')) := fun W h => (right_gr h.out.g hS (hT.later h.out.bl)).mono (fun e W' q => ⟨q.1, h.out.later q.2, q.2⟩)
    cases hq : rgG ⟨ns, r⟩
    case false =>
      rw [hl] at HLG
      rw [hq] at HRA
      simp only [hq, if_neg (show ¬ (false = true) by decide)] at HCA
      clear hT hG hS
      go_enter Tryz.func4, Tryz.ntmps4
      go_wp2_with fail
      generalize w.alloc (.cells #[.slice ad len cap, .int .i64 r] 30) = W0 at h0 ⊢
      refine (HLG.out _ h0).mono ?_
      rintro e w1 ⟨rfl, H1⟩
      clear h0 HLG
      obtain ⟨c0, c1⟩ := H1.out.b.c2
      go_upto_region 4 with (go_at_call 11; refine (HCA.out _ H1).mono ?_; rintro e w2 ⟨rfl, H2⟩)
      have H3 : Hid (AgS w (w2.alloc (.cells #[.slice none 0 0, .int .i64 0] 30)) w.heap.size ad len cap r ns) := H2.out.later (below_alloc _ _)
      have T3 := Bx.new w2 #[.slice none 0 0, .int .i64 0] 30
      generalize w2.alloc (.cells #[.slice none 0 0, .int .i64 0] 30) = w3 at H3 T3 ⊢
      obtain ⟨K3, hK3⟩ : ∃ K3, w2.heap.size = K3 := ⟨_, rfl⟩
      rw [hK3] at T3 ⊢
      have HT3 : Hid (Bx w3 K3 #[.slice none 0 0, .int .i64 0] 30) := T3
      obtain ⟨d0, d1⟩ := H3.out.b.c2
      clear T3 hK3 H2 H1 HCA c0 c1
      go_wp2_with (first | (go_at_call 10; refine (HRA.out _ H3).mono ?_; rintro e w4 ⟨rfl, H4, B4⟩; obtain ⟨e0, e1⟩ := (HT3.out.later B4.out).c2) | (go_at_call 8; refine (HA.out _ H4.out.bl).mono ?_; rintro e w5 ⟨rfl, H5⟩))
      go_ret
      exact ⟨rfl, H5.out⟩
    case true =>
      obtain ⟨f1, f2, f3⟩ := rgG_facts hq
      obtain ⟨m, rfl, hm⟩ := isP_nat f2
      rw [hl] at HLG
      simp only [hq, if_pos, Int.toNat_natCast] at HCA
      obtain ⟨cn, hcn⟩ : ∃ cn, cn = cnN ns (odG ns m) := ⟨_, rfl⟩
      have hSc : Sml cn := by rw [hcn]; exact sml_can hq hm hS
      have hqc : rgG ⟨cn, 0⟩ = true := by rw [hcn]; exact rg_can hq hm (.inl rfl)
      have hoc : odG cn 0 = List.range cn.length := by rw [hcn, od_can f3 hm, cnN_len]
      have hdc : dpG cn 0 = dpG ns m := by rw [hcn]; exact dp_can f3 hm
      have hcc : cnN cn (odG cn 0) = cn := by rw [hcn]; exact cn_can f3 hm
      have hlc : cn.length ≤ 4096 := (rgG_facts hqc).1
      rw [← hcn] at HCA
      obtain ⟨D, hD⟩ : ∃ D, D = dpG ns m := ⟨_, rfl⟩
      -- the second Canon, the order, the depths
      have HC2 : Hid (∀ W ad' len' cap', Below w.heap.size w W → GrV W (gv ad' len' cap' 0) ⟨cn, 0⟩ → Calls Tryz.prog 11 #[gv ad' len' cap' 0] W fun e W' => ∃ a2 l2 c2, e = .returned (.tuple #[gv a2 l2 c2 0, .int .i64 0]) ∧ Hid (GrV W' (gv a2 l2 c2 0) ⟨cn, 0⟩) ∧ Hid (Below W.heap.size W W')) := fun W ad' len' cap' b h => (canon_any h hSc (hT.later b)).mono (fun e W' q => by
        have q1 := q.1
        rw [if_pos hqc] at q1
        obtain ⟨v, rfl, hv⟩ := q1
        have e0 : (⟨cnN cn (odG cn (0 : Int).toNat), 0⟩ : Gr) = ⟨cn, 0⟩ := by rw [show (0 : Int).toNat = 0 from rfl, hcc]
        have hv2 : GrV W' v ⟨cn, 0⟩ := by rw [← e0]; exact hv.v
        obtain ⟨a2, l2, c2, rfl, h5⟩ := hv2
        exact ⟨a2, l2, c2, rfl, ⟨a2, l2, c2, rfl, h5⟩, q.2⟩)
      have HOC : Hid (∀ W ad' len' cap', Below w.heap.size w W → GrV W (gv ad' len' cap' 0) ⟨cn, 0⟩ → Calls Tryz.prog 14 #[gv ad' len' cap' 0] W fun e W' => ∃ oa oc, e = .returned (.tuple #[.slice oa cn.length oc, .int .i64 0]) ∧ Hid (IAt W' oa cn.length ((List.range cn.length).map fun a : Nat => (a : Int))) ∧ Hid (Below W.heap.size W W')) := fun W ad' len' cap' b h => (order_any h hSc (hT.later b)).mono (fun e W' q => by
        have q1 := q.1
        rw [if_pos hqc] at q1
        obtain ⟨oa, oc, rfl, hi, _⟩ := q1
        have e0 : odG cn (0 : Int).toNat = List.range cn.length := hoc
        simp only [e0, List.length_range] at hi ⊢
        exact ⟨oa, oc, rfl, hi, q.2⟩)
      have HSA : Hid (∀ W v v', GrV W v ⟨cn, 0⟩ → GrV W v' ⟨cn, 0⟩ → Calls Tryz.prog 12 #[v, v'] W fun e W' => e = .returned (.bool true) ∧ Hid (Below W.heap.size W W')) := fun W v v' h h' => rsame_eq h h'
      have HDA : Hid (∀ W, Hid (AgS w W w.heap.size ad len cap (m : Int) ns) → Calls Tryz.prog 15 #[gv ad len cap (m : Int)] W fun e W' => e = .returned (.tuple #[.int .i64 (D : Int), .int .i64 0]) ∧ Hid (AgS w W' w.heap.size ad len cap (m : Int) ns) ∧ Hid (Below W.heap.size W W')) := fun W h => (depth_any h.out.g hS (hT.later h.out.bl)).mono (fun e W' q => by
        have q1 := q.1
        rw [if_pos hq] at q1
        rw [hD]
        exact ⟨q1, h.out.later q.2, q.2⟩)
      have HDC : Hid (∀ W ad' len' cap', Below w.heap.size w W → GrV W (gv ad' len' cap' 0) ⟨cn, 0⟩ → Calls Tryz.prog 15 #[gv ad' len' cap' 0] W fun e W' => e = .returned (.tuple #[.int .i64 (D : Int), .int .i64 0]) ∧ Hid (Below W.heap.size W W')) := fun W ad' len' cap' b h => (depth_any h hSc (hT.later b)).mono (fun e W' q => by
        have q1 := q.1
        rw [if_pos hqc] at q1
        rw [hD, ← hdc]
        exact ⟨q1, q.2⟩)
      have HRC : Hid (∀ W ad' len' cap', Below w.heap.size w W → GrV W (gv ad' len' cap' 0) ⟨cn, 0⟩ → Calls Tryz.prog 10 #[gv ad' len' cap' 0] W fun e W' => e = .returned (.bool true) ∧ Hid (Below w.heap.size w W')) := fun W ad' len' cap' b h => (right_gr h hSc (hT.later b)).mono (fun e W' q => by rw [hqc] at q; exact ⟨q.1, b.trans (q.2.mono b.size)⟩)
      have HLC : Hid (∀ W ad' len' cap', GrV W (gv ad' len' cap' 0) ⟨cn, 0⟩ → len' = cn.length) := fun W ad' len' cap' h => by
        obtain ⟨_, _, _, e, _, _, _, hN⟩ := h
        cases e
        exact hN.1
      clear hT hG hS HRA hSc hqc hoc hdc hcc hD hcn f1 f2 f3 hq hm hl
      go_enter Tryz.func4, Tryz.ntmps4
      go_wp2_with fail
      generalize w.alloc (.cells #[.slice ad len cap, .int .i64 (m : Int)] 30) = W0 at h0 ⊢
      refine (HLG.out _ h0).mono ?_
      rintro e w1 ⟨rfl, H1⟩
      clear h0 HLG
      obtain ⟨c0, c1⟩ := H1.out.b.c2
      go_upto_region 4 with (go_at_call 11; refine (HCA.out _ H1).mono ?_; rintro e w2 ⟨⟨ad', len', cap', rfl, hg2⟩, H2⟩)
      have hln := HLC.out _ _ _ _ hg2.out
      subst hln
      have H3 : Hid (AgS w (w2.alloc (.cells #[.slice ad' cn.length cap', .int .i64 0] 30)) w.heap.size ad len cap (m : Int) ns) := H2.out.later (below_alloc _ _)
      have HC3 : Hid (AgS w (w2.alloc (.cells #[.slice ad' cn.length cap', .int .i64 0] 30)) w2.heap.size ad' cn.length cap' 0 cn) := AgS.new H2.out.bl hg2.out
      clear H2 H1 HCA c0 c1 hg2
      generalize w2.alloc (.cells #[.slice ad' cn.length cap', .int .i64 0] 30) = w3 at H3 HC3 ⊢
      obtain ⟨K3, hK3⟩ : ∃ K3, w2.heap.size = K3 := ⟨_, rfl⟩
      rw [hK3] at HC3 ⊢
      clear hK3
      obtain ⟨d0, d1⟩ := HC3.out.b.c2
      go_upto_region 7 with (go_at_call 11; refine (HC2.out _ _ _ _ HC3.out.bl HC3.out.g).mono ?_; rintro e w4 ⟨a2, l2, c2, rfl, hg4, B4⟩)
      have H5 : Hid (AgS w (w4.alloc (.cells #[.slice a2 l2 c2, .int .i64 0] 30)) w.heap.size ad len cap (m : Int) ns) := (H3.out.later B4.out).later (below_alloc _ _)
      have HC5 : Hid (AgS w (w4.alloc (.cells #[.slice a2 l2 c2, .int .i64 0] 30)) K3 ad' cn.length cap' 0 cn) := (HC3.out.later B4.out).later (below_alloc _ _)
      have HD5 : Hid (AgS w (w4.alloc (.cells #[.slice a2 l2 c2, .int .i64 0] 30)) w4.heap.size a2 l2 c2 0 cn) := AgS.new (HC3.out.later B4.out).bl hg4.out
      clear H3 HC3 B4 hg4 d0 d1 HC2
      generalize w4.alloc (.cells #[.slice a2 l2 c2, .int .i64 0] 30) = w5 at H5 HC5 HD5 ⊢
      obtain ⟨K5, hK5⟩ : ∃ K5, w4.heap.size = K5 := ⟨_, rfl⟩
      rw [hK5] at HD5 ⊢
      clear hK5
      obtain ⟨d0, d1⟩ := HC5.out.b.c2
      go_upto_region 8 with (go_at_call 14; refine (HOC.out _ _ _ _ HC5.out.bl HC5.out.g).mono ?_; rintro e w6 ⟨oa, oc, rfl, hi6, B6⟩)
      have H6 : Hid (AgS w w6 w.heap.size ad len cap (m : Int) ns) := H5.out.later B6.out
      have HC6 : Hid (AgS w w6 K3 ad' cn.length cap' 0 cn) := HC5.out.later B6.out
      have HD6 : Hid (AgS w w6 K5 a2 l2 c2 0 cn) := HD5.out.later B6.out
      clear H5 HC5 HD5 B6 d0 d1 HOC
      obtain ⟨d0, d1⟩ := HC6.out.b.c2
      obtain ⟨e0, e1⟩ := HD6.out.b.c2
      have HS6 : Hid (Calls Tryz.prog 12 _ _ _) := HSA.out _ _ _ HC6.out.g HD6.out.g
      clear HSA
      go_upto_region 10 with (go_at_call 12; refine HS6.out.mono ?_; rintro e w7 ⟨rfl, B7⟩; obtain ⟨d0, d1⟩ := (HC6.out.later B7.out).b.c2)
      have H7 : Hid (AgS w w7 w.heap.size ad len cap (m : Int) ns) := H6.out.later B7.out
      have HC7 : Hid (AgS w w7 K3 ad' cn.length cap' 0 cn) := HC6.out.later B7.out
      have HI7 : Hid (IAt w7 oa cn.length ((List.range cn.length).map fun a : Nat => (a : Int))) := hi6.out.later B7.out (Nat.le_refl _)
      clear H6 HC6 HD6 B7 d0 d1 e0 e1 hi6 HS6 HLC
      obtain ⟨n, hn⟩ : ∃ n, n = cn.length := ⟨_, rfl⟩
      rw [← hn] at hlc HC7 HI7 ⊢
      clear hn
      go_wp2_with fail
      go_loopw [74] (fun i wr => ∃ j : Nat, j ≤ n ∧ i = .int .i64 j ∧ Hid (Below w7.heap.size w7 wr)) (fun i _ => n - (intOf i).toNat)
      case atStart => exact ⟨0, Nat.zero_le _, rfl, Below.refl _ _⟩
      case round =>
        obtain ⟨j, hj, rfl, HW⟩ := hrel
        by_cases hlt : j < n
        · obtain ⟨b, off, rfl, hb, hc⟩ := HI7.out.2 (by omega)
          have x0 := (HW.out.cell (p := ⟨b, off + j, none⟩) hb).trans (hc j hlt).2
          rw [List.getD_eq_getElem?_getD, List.getElem?_map, List.getElem?_range hlt, Option.map_some, Option.getD_some] at x0
          clear hc
          go_wp2
          go_roundw
          case rel => exact ⟨j + 1, by omega, by go_num, HW⟩
          case measure => simp [intOf]; omega
        · have H8 : Hid (AgS w wr w.heap.size ad len cap (m : Int) ns) := H7.out.later HW.out
          have HC8 : Hid (AgS w wr K3 ad' n cap' 0 cn) := HC7.out.later HW.out
          obtain ⟨c0, c1⟩ := H8.out.b.c2
          clear H7 HC7 HI7 HW
          go_upto_region 17 with (go_at_call 15; refine (HDA.out _ H8).mono ?_; rintro e w9 ⟨rfl, H9, B9⟩)
          have HC9 : Hid (AgS w w9 K3 ad' n cap' 0 cn) := HC8.out.later B9.out
          obtain ⟨d0, d1⟩ := HC9.out.b.c2
          clear c0 c1 H8 HC8 H9 B9 HDA
          go_upto_region 18 with (go_at_call 15; refine (HDC.out _ _ _ _ HC9.out.bl HC9.out.g).mono ?_; rintro e w10 ⟨rfl, B10⟩)
          have HC10 : Hid (AgS w w10 K3 ad' n cap' 0 cn) := HC9.out.later B10.out
          clear d0 d1
          obtain ⟨d0, d1⟩ := HC10.out.b.c2
          go_wp2_with (first | (go_at_call 10; refine (HRC.out _ _ _ _ HC10.out.bl HC10.out.g).mono ?_; rintro e w11 ⟨rfl, H11⟩) | (go_at_call 8; refine (HA.out _ H11.out).mono ?_; rintro e w12 ⟨rfl, H12⟩))
          go_ret
          exact ⟨rfl, H12.out⟩
theorem again_walk (v : Value) (g : Gr) (w : World) (hG : GrV w v g) (hT : Tb w) : Calls Tryz.prog 4 #[v] w fun e w' => e = .returned (.bool true) ∧ Below w.heap.size w w' := by
  obtain ⟨ns, r⟩ := g
  have h2 := hG
  obtain ⟨ad, len, cap, rfl, _⟩ := h2
  exact again_core hG hT
end Go.Proofs.YtahmnpfmccipbaaGreatDoor.Grp
