/- Several texts as one: GraphSameY. -/
import Derived.Test.YtcplgjclkjcekaaGreatDoorY15GraphTop
import Derived.BigQuiet
import Derived.Deep.QuietTactic
section
/- The reference's Ints and Same at equal ones, by their contracts. -/
namespace Go.Proofs.YtcplgjclkjcekaaGreatDoor.Grp
open Utf Rws Pln Flw
open Go.RowKit
set_option linter.unusedSimpArgs false
set_option linter.unusedVariables false
set_option maxRecDepth 100000
set_option maxHeartbeats 4000000

theorem ints_eq {w : World} {ad ad' : Option Addr} {len cap len' cap' : Nat} {l : List Int} (h : IAt w ad len l) (h' : IAt w ad' len' l) (hl : len ≤ 9223372036854775807) :
    Calls Tryz.prog 30 #[.slice ad len cap, .slice ad' len' cap'] w fun e w' => e = .returned (.bool true) ∧ Below w.heap.size w w' := by
  have e : len' = len := h'.1.trans h.1.symm
  subst e
  have HA : Hid (IAt w ad len' l) := h
  have HB : Hid (IAt w ad' len' l) := h'
  clear h h'
  go_enter Tryz.func30, Tryz.ntmps30
  go_wp2_with fail
  go_loopw [5] (fun i wr => ∃ j : Nat, j ≤ len' ∧ i = .int .i64 j ∧ Hid (Below w.heap.size w wr)) (fun i _ => len' - (intOf i).toNat)
  case atStart => exact ⟨0, Nat.zero_le _, rfl, Below.refl _ _⟩
  case round =>
    obtain ⟨j, hj, rfl, HW⟩ := hrel
    by_cases hlt : j < len'
    · obtain ⟨b, off, rfl, hb, hc⟩ := HA.out.2 (by omega)
      obtain ⟨b', off', rfl, hb', hc'⟩ := HB.out.2 (by omega)
      have x0 := (HW.out.cell (p := ⟨b, off + j, none⟩) hb).trans (hc j hlt).2
      have x1 := (HW.out.cell (p := ⟨b', off' + j, none⟩) hb').trans (hc' j hlt).2
      clear hc hc'
      generalize l.getD j 0 = a at *
      go_wp2_with fail
      go_quiet (fail)
      go_wp2
      go_roundw
      case rel => exact ⟨j + 1, by omega, by go_num, below_drewN HW.out _⟩
      case measure => simp [intOf]; omega
    · go_wp2
      go_ret
      exact ⟨rfl, HW.out⟩
/-- two graphs' boxes -/
structure G2 (w W : World) (K0 K1 : Nat) (g0 g1 h0 h1 : Value) : Prop where
  g : Bx W K0 #[g0, g1] 24
  h : Bx W K1 #[h0, h1] 24
  bl : Below w.heap.size w W
theorem G2.later {w W W' : World} {K0 K1 : Nat} {g0 g1 h0 h1 : Value} (h : G2 w W K0 K1 g0 g1 h0 h1) (hb : Below W.heap.size W W') : G2 w W' K0 K1 g0 g1 h0 h1 := ⟨h.g.later hb, h.h.later hb, h.bl.trans (hb.mono h.bl.size)⟩
/-- and two nodes' -/
structure G4 (w W : World) (K0 K1 L0 L1 : Nat) (g0 g1 h0 h1 : Value) (n m : Array Value) : Prop where
  g : G2 w W K0 K1 g0 g1 h0 h1
  n : Bx W L0 n 52
  m : Bx W L1 m 52
theorem G2.two {w W : World} {K0 K1 : Nat} {g0 g1 h0 h1 : Value} (h : G2 w W K0 K1 g0 g1 h0 h1) (n m : Array Value) : Bx ((W.alloc (.cells n 52)).alloc (.cells m 52)).drew W.heap.size n 52 ∧ Bx ((W.alloc (.cells n 52)).alloc (.cells m 52)).drew (W.heap.size + 1) m 52 ∧ G2 w ((W.alloc (.cells n 52)).alloc (.cells m 52)).drew K0 K1 g0 g1 h0 h1 := by
  have b1 := below_alloc W (.cells n 52)
  have n1 := Bx.new W n 52
  have s1 : (W.alloc (.cells n 52)).heap.size = W.heap.size + 1 := World.size_alloc _ _
  have h1 := h.later b1
  generalize W.alloc (.cells n 52) = w1 at *
  have b2 := below_alloc w1 (.cells m 52)
  have n2 := Bx.new w1 m 52
  rw [s1] at n2
  have h2 := h1.later b2
  have n1 := n1.later b2
  exact ⟨n1, n2, ⟨h2.g, h2.h, h2.bl.drew⟩⟩
theorem same_core {w : World} {ad ad' : Option Addr} {len cap len' cap' : Nat} {r : Int} {ns : List Nd} (h : NAt w ad len ns) (h' : NAt w ad' len' ns) (hl : len ≤ 9223372036854775807) :
    Calls Tryz.prog 14 #[gv ad len cap r, gv ad' len' cap' r] w fun e w' => e = .returned (.bool true) ∧ Below w.heap.size w w' := by
  have e : len' = len := h'.1.trans h.1.symm
  subst e
  have HA : Hid (NAt w ad len' ns) := h
  have HB : Hid (NAt w ad' len' ns) := h'
  clear h h'
  have h0 : G2 w ((w.alloc (.cells #[.slice ad len' cap, .int .i64 r] 24)).alloc (.cells #[.slice ad' len' cap', .int .i64 r] 24)) w.heap.size (w.heap.size + 1) (.slice ad len' cap) (.int .i64 r) (.slice ad' len' cap') (.int .i64 r) := by
    have b1 := below_alloc w (.cells #[.slice ad len' cap, .int .i64 r] 24)
    have s1 : (w.alloc (.cells #[.slice ad len' cap, .int .i64 r] 24)).heap.size = w.heap.size + 1 := World.size_alloc _ _
    have b2 := below_alloc (w.alloc (.cells #[.slice ad len' cap, .int .i64 r] 24)) (.cells #[.slice ad' len' cap', .int .i64 r] 24)
    have n2 := Bx.new (w.alloc (.cells #[.slice ad len' cap, .int .i64 r] 24)) #[.slice ad' len' cap', .int .i64 r] 24
    rw [s1] at n2
    exact ⟨(Bx.new w _ _).later b2, n2, b1.trans (b2.mono b1.size)⟩
  go_enter Tryz.func14, Tryz.ntmps14
  go_upto_region 1 with fail
  generalize (w.alloc (.cells #[.slice ad len' cap, .int .i64 r] 24)).alloc (.cells #[.slice ad' len' cap', .int .i64 r] 24) = W0 at h0 ⊢
  generalize w.heap.size + 1 = K1 at h0 ⊢
  generalize w.heap.size = K0 at h0 ⊢
  obtain ⟨c0, c1⟩ := h0.g.c2
  obtain ⟨d0, d1⟩ := h0.h.c2
  go_wp2_with fail
  clear c0 c1 d0 d1
  go_loopw [5] (fun i wr => ∃ j : Nat, j ≤ len' ∧ i = .int .i64 j ∧ Hid (G2 w wr K0 K1 (.slice ad len' cap) (.int .i64 r) (.slice ad' len' cap') (.int .i64 r))) (fun i _ => len' - (intOf i).toNat)
  case atStart => exact ⟨0, Nat.zero_le _, rfl, h0⟩
  case round =>
    obtain ⟨j, hj, rfl, HS⟩ := hrel
    clear h0
    obtain ⟨c0, c1⟩ := HS.out.g.c2
    obtain ⟨d0, d1⟩ := HS.out.h.c2
    by_cases hlt : j < len'
    · obtain ⟨b, off, rfl, hb, hc⟩ := HA.out.2 (by omega)
      obtain ⟨b', off', rfl, hb', hc'⟩ := HB.out.2 (by omega)
      obtain ⟨ka, kl, kc, q1, q2, _, _, qI, x0, x1, x2⟩ := hc j hlt
      obtain ⟨ka', kl', kc', q1', q2', _, _, qI', y0, y1, y2⟩ := hc' j hlt
      replace x0 := (HS.out.bl.cell (p := ⟨b, off + j * 3, none⟩) hb).trans x0
      replace x1 := (HS.out.bl.cell (p := ⟨b, off + j * 3 + 1, none⟩) hb).trans x1
      replace x2 := (HS.out.bl.cell (p := ⟨b, off + j * 3 + 2, none⟩) hb).trans x2
      replace y0 := (HS.out.bl.cell (p := ⟨b', off' + j * 3, none⟩) hb').trans y0
      replace y1 := (HS.out.bl.cell (p := ⟨b', off' + j * 3 + 1, none⟩) hb').trans y1
      replace y2 := (HS.out.bl.cell (p := ⟨b', off' + j * 3 + 2, none⟩) hb').trans y2
      clear hc hc'
      generalize ns.getD j nd0 = nd at *
      obtain ⟨nk, nx, nl⟩ := nd
      simp only at x0 x1 x2 y0 y1 y2 qI qI'
      have HI : Hid (IAt w ka kl nl) := qI
      have HI' : Hid (IAt w ka' kl' nl) := qI'
      have hkl : kl ≤ 9223372036854775807 := by have : maxLen = 9223372036854775807 := rfl; omega
      clear qI qI' q1 q2 q1' q2'
      go_upto_region 6 with fail
      have hK0 := HS.out.g.lt
      have hK1 := HS.out.h.lt
      have hs := HS.out.bl.size
      have hbw : b < wr.heap.size := by omega
      have hbw' : b' < wr.heap.size := by omega
      clear hs
      go_region
      have H4 : G4 w ((wr.alloc (.cells #[.int .i64 nk, .string (mk nx), .slice ka kl kc] 52)).alloc (.cells #[.int .i64 nk, .string (mk nx), .slice ka' kl' kc'] 52)).drew K0 K1 wr.heap.size (wr.heap.size + 1) (.slice (some ⟨b, off, none⟩) len' cap) (.int .i64 r) (.slice (some ⟨b', off', none⟩) len' cap') (.int .i64 r) #[.int .i64 nk, .string (mk nx), .slice ka kl kc] #[.int .i64 nk, .string (mk nx), .slice ka' kl' kc'] := ⟨(HS.out.two _ _).2.2, (HS.out.two _ _).1, (HS.out.two _ _).2.1⟩
      generalize ((wr.alloc (.cells #[.int .i64 nk, .string (mk nx), .slice ka kl kc] 52)).alloc (.cells #[.int .i64 nk, .string (mk nx), .slice ka' kl' kc'] 52)).drew = W2 at H4 ⊢
      clear hbw hbw' hK0 hK1
      generalize wr.heap.size + 1 = L1 at H4 ⊢
      generalize wr.heap.size = L0 at H4 ⊢
      rotate_left
      have H4 : G4 w ((wr.alloc (.cells #[.int .i64 nk, .string (mk nx), .slice ka' kl' kc'] 52)).alloc (.cells #[.int .i64 nk, .string (mk nx), .slice ka kl kc] 52)).drew K0 K1 (wr.heap.size + 1) wr.heap.size (.slice (some ⟨b, off, none⟩) len' cap) (.int .i64 r) (.slice (some ⟨b', off', none⟩) len' cap') (.int .i64 r) #[.int .i64 nk, .string (mk nx), .slice ka kl kc] #[.int .i64 nk, .string (mk nx), .slice ka' kl' kc'] := ⟨(HS.out.two _ _).2.2, (HS.out.two _ _).2.1, (HS.out.two _ _).1⟩
      generalize ((wr.alloc (.cells #[.int .i64 nk, .string (mk nx), .slice ka' kl' kc'] 52)).alloc (.cells #[.int .i64 nk, .string (mk nx), .slice ka kl kc] 52)).drew = W2 at H4 ⊢
      clear hbw hbw' hK0 hK1
      generalize wr.heap.size + 1 = L0 at H4 ⊢
      generalize wr.heap.size = L1 at H4 ⊢
      all_goals
        obtain ⟨e0, e1, e2⟩ := H4.n.c3
        obtain ⟨f0, f1, f2⟩ := H4.m.c3
        have HC : Hid (Calls Tryz.prog 30 #[.slice ka kl kc, .slice ka' kl' kc'] W2 fun e w' => e = .returned (.bool true) ∧ Hid (G2 w w' K0 K1 (.slice (some ⟨b, off, none⟩) len' cap) (.int .i64 r) (.slice (some ⟨b', off', none⟩) len' cap') (.int .i64 r))) :=
          (ints_eq (HI.out.later H4.g.bl (Nat.le_refl _)) (HI'.out.later H4.g.bl (Nat.le_refl _)) hkl).mono (fun e w' h => ⟨h.1, H4.g.later h.2⟩)
        clear c0 c1 d0 d1 x0 x1 x2 y0 y1 y2 H4
        go_wp2_with (go_at_call 30; refine HC.out.mono ?_; rintro e w3 ⟨rfl, H3⟩)
        go_roundw
        case rel => exact ⟨j + 1, by omega, by go_num, H3⟩
        case measure => simp [intOf]; omega
    · go_wp2
      go_ret
      exact ⟨rfl, HS.out.bl⟩
theorem rsame_eq {w : World} {v v' : Value} {g : Gr} (h : GrV w v g) (h' : GrV w v' g) : Calls Tryz.prog 14 #[v, v'] w fun e w' => e = .returned (.bool true) ∧ Below w.heap.size w w' := by
  obtain ⟨ad, len, cap, rfl, h1, h2, h3, h4⟩ := h
  obtain ⟨ad', len', cap', rfl, h1', h2', h3', h4'⟩ := h'
  have : maxLen = 9223372036854775807 := rfl
  exact same_core h4 h4' (by omega)
end Go.Proofs.YtcplgjclkjcekaaGreatDoor.Grp
end
