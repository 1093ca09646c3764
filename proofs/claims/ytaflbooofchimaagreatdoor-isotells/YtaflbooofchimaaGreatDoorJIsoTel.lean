/- Several texts as one: IsoTel. -/
import Derived.Test.YtaflbooofchimaaGreatDoorJIsoREq
import Derived.Test.YtaflbooofchimaaGreatDoorJ23IsoTop
import Derived.Test.YtaflbooofchimaaGreatDoorJ24IsoLst
import Derived.Test.YtaflbooofchimaaGreatDoorJIsoIn2
section
/- grommetlaw13.IsoTells. -/
namespace Go.Proofs.YtaflbooofchimaaGreatDoor.Alk
open Utf Rws Pln Flw Grp
open Go.RowKit Go.Shelf
set_option linter.unusedSimpArgs false
set_option linter.unusedVariables false
set_option maxRecDepth 100000
set_option maxHeartbeats 4000000
attribute [local go_sem ↓] Go.wp_at_zero Go.wp_at_succ

/-- the boxes' cells -/
theorem TwS.cells {w W : World} {K0 K1 : Nat} {a0 a1 b0 b1 : Value} (h : TwS w W K0 K1 a0 a1 b0 b1) : W.cell? ⟨K0, 0, none⟩ = some a0 ∧ W.cell? ⟨K0, 1, none⟩ = some a1 ∧ W.cell? ⟨K1, 0, none⟩ = some b0 ∧ W.cell? ⟨K1, 1, none⟩ = some b1 := ⟨h.a.c2.1, h.a.c2.2, h.b.c2.1, h.b.c2.2⟩
/-- what a call and its fellow answer: one bool that hangs on the two graphs alone, and one error -/
theorem bres_one {w W : World} {ok : Bool} {p : Prop} {b : Bool} {e : Ending} (hb : b = true ↔ ok = true ∧ p) (h : BRes w ok p e W) : e = .returned (.tuple #[.bool b, .int .i64 (if ok = true then 0 else 1)]) ∧ Below w.heap.size w W := by
  obtain ⟨q, h1, h2, h3⟩ := h
  have : q = b := by
    cases q <;> cases b <;> simp_all
  subst this
  exact ⟨h1, h3⟩
theorem iff_bool (p : Prop) : ∃ b : Bool, b = true ↔ p := by
  by_cases h : p
  · exact ⟨true, fun _ => h, fun _ => rfl⟩
  · exact ⟨false, fun e => absurd e (by decide), fun q => absurd q h⟩
theorem itells_core {w : World} {ada adb : Option Addr} {n m capa capb : Nat} {ra rb : Int} {nsa nsb : List Nd} (hga : GrV w (gv ada n capa ra) ⟨nsa, ra⟩) (hgb : GrV w (gv adb m capb rb) ⟨nsb, rb⟩) (hT : Tb w) :
    Calls Tryz.prog 3 #[gv ada n capa ra, gv adb m capb rb] w fun e w' => e = .returned (.bool true) ∧ Below w.heap.size w w' := by
  have h0 : Hid (TwS w _ w.heap.size (w.heap.size + 1) (.slice ada n capa) (.int .i64 ra) (.slice adb m capb) (.int .i64 rb)) := TwS.new w (.slice ada n capa) (.int .i64 ra) (.slice adb m capb) (.int .i64 rb)
  obtain ⟨K1, HK1⟩ : ∃ K1, Hid (K1 = w.heap.size + 1) := ⟨_, rfl⟩
  obtain ⟨K0, HK0⟩ : ∃ K0, Hid (K0 = w.heap.size) := ⟨_, rfl⟩
  obtain ⟨JS, hJS⟩ : ∃ JS : World → Prop, Hid (∀ w', JS w' ↔ TwS w w' K0 K1 (.slice ada n capa) (.int .i64 ra) (.slice adb m capb) (.int .i64 rb)) := ⟨fun w' => TwS w w' K0 K1 (.slice ada n capa) (.int .i64 ra) (.slice adb m capb) (.int .i64 rb), fun _ => Iff.rfl⟩
  have HA : Hid (∀ W, Below w.heap.size w W → Calls Tryz.prog 6 #[] W fun e W' => e = .returned (.bool true) ∧ Hid (Below w.heap.size w W')) := fun W b => (alive_any (hT.later b)).mono (fun e W' q => ⟨q.1, b.trans (q.2.mono b.size)⟩)
  have HLA : Hid (∀ W, JS W → Calls Tryz.prog 5 #[gv ada n capa ra] W fun e W' => e = .returned (.bool (lgB nsa)) ∧ JS W' ∧ W'.cell? ⟨K0, 0, none⟩ = some (.slice ada n capa) ∧ W'.cell? ⟨K0, 1, none⟩ = some (.int .i64 ra) ∧ W'.cell? ⟨K1, 0, none⟩ = some (.slice adb m capb) ∧ W'.cell? ⟨K1, 1, none⟩ = some (.int .i64 rb)) := fun W hj => by
    have ht := (hJS.out _).1 hj
    exact (large_any (hga.later ht.bl (Nat.le_refl _))).mono (fun e W' q => ⟨q.1, (hJS.out _).2 (ht.later q.2), (ht.later q.2).cells⟩)
  have HLB : Hid (∀ W, JS W → Calls Tryz.prog 5 #[gv adb m capb rb] W fun e W' => e = .returned (.bool (lgB nsb)) ∧ JS W' ∧ W'.cell? ⟨K0, 0, none⟩ = some (.slice ada n capa) ∧ W'.cell? ⟨K0, 1, none⟩ = some (.int .i64 ra) ∧ W'.cell? ⟨K1, 0, none⟩ = some (.slice adb m capb) ∧ W'.cell? ⟨K1, 1, none⟩ = some (.int .i64 rb)) := fun W hj => by
    have ht := (hJS.out _).1 hj
    exact (large_any (hgb.later ht.bl (Nat.le_refl _))).mono (fun e W' q => ⟨q.1, (hJS.out _).2 (ht.later q.2), (ht.later q.2).cells⟩)
  cases hla : lgB nsa
  case true =>
    rw [hla] at HLA
    clear hT hga hgb HLB
    go_enter Tryz.func3, Tryz.ntmps3
    go_wp2_with fail
    generalize (w.alloc (.cells #[.slice ada n capa, .int .i64 ra] 24)).alloc (.cells #[.slice adb m capb, .int .i64 rb] 24) = W0 at h0 ⊢
    rw [← HK1.out, ← HK0.out]
    rw [← HK1.out, ← HK0.out] at h0
    have j0 : JS W0 := (hJS.out _).2 h0.out
    clear h0 HK0 HK1
    refine (HLA.out _ j0).mono ?_
    rintro e w1 ⟨rfl, j1, c0, c1, c2, c3⟩
    go_wp2_with (go_at_call 6; refine (HA.out _ ((hJS.out _).1 j1).bl).mono ?_; rintro e w9 ⟨rfl, HZ⟩)
    go_ret
    exact ⟨rfl, HZ.out⟩
  case false =>
  cases hlb : lgB nsb
  case true =>
    rw [hla] at HLA
    rw [hlb] at HLB
    clear hT hga hgb
    go_enter Tryz.func3, Tryz.ntmps3
    go_wp2_with fail
    generalize (w.alloc (.cells #[.slice ada n capa, .int .i64 ra] 24)).alloc (.cells #[.slice adb m capb, .int .i64 rb] 24) = W0 at h0 ⊢
    rw [← HK1.out, ← HK0.out]
    rw [← HK1.out, ← HK0.out] at h0
    have j0 : JS W0 := (hJS.out _).2 h0.out
    clear h0 HK0 HK1
    refine (HLA.out _ j0).mono ?_
    rintro e w1 ⟨rfl, j1, c0, c1, c2, c3⟩
    clear j0
    go_wp2_with (first | (go_at_call 5; refine (HLB.out _ j1).mono ?_; rintro e w2 ⟨rfl, j2, c4, c5, c6, c7⟩) | (go_at_call 6; refine (HA.out _ ((hJS.out _).1 j2).bl).mono ?_; rintro e w9 ⟨rfl, HZ⟩))
    go_ret
    exact ⟨rfl, HZ.out⟩
  case false =>
  have hSa := lgB_sml hla
  have hSb := lgB_sml hlb
  have hMa := lgB_sm2 hla
  have hMb := lgB_sm2 hlb
  rw [hla] at HLA
  rw [hlb] at HLB
  obtain ⟨ok, Hok⟩ : ∃ ok, Hid (ok = (rgG ⟨nsa, ra⟩ && rgG ⟨nsb, rb⟩)) := ⟨_, rfl⟩
  obtain ⟨b1, hb1⟩ := iff_bool (ok = true ∧ EqP (lab (ris nsa)) (lab (ris nsb)) (kd (ris nsa)) (kd (ris nsb)) ra.toNat rb.toNat)
  obtain ⟨b2, hb2⟩ := iff_bool (ok = true ∧ LkP (lab (ris nsa)) (lab (ris nsb)) (kd (ris nsa)) (kd (ris nsb)) ra.toNat rb.toNat)
  obtain ⟨b3, hb3⟩ := iff_bool (ok = true ∧ LkP (lab nsa) (lab nsb) (kd nsa) (kd nsb) ra.toNat rb.toNat)
  rw [Hok.out] at hb1 hb2 hb3
  obtain ⟨EC, HEC⟩ : ∃ EC : Int, Hid (EC = if (rgG ⟨nsa, ra⟩ && rgG ⟨nsb, rb⟩) = true then 0 else 1) := ⟨_, rfl⟩
  obtain ⟨CS, hCS⟩ : ∃ CS : World → Prop, Hid (∀ W, CS W ↔ W.cell? ⟨K0, 0, none⟩ = some (.slice ada n capa) ∧ W.cell? ⟨K0, 1, none⟩ = some (.int .i64 ra) ∧ W.cell? ⟨K1, 0, none⟩ = some (.slice adb m capb) ∧ W.cell? ⟨K1, 1, none⟩ = some (.int .i64 rb)) := ⟨_, fun _ => Iff.rfl⟩
  have mk9 : ∀ (f : FuncId) (p : Prop) (b : Bool), (b = true ↔ (rgG ⟨nsa, ra⟩ && rgG ⟨nsb, rb⟩) = true ∧ p) → (∀ W, GrV W (gv ada n capa ra) ⟨nsa, ra⟩ → GrV W (gv adb m capb rb) ⟨nsb, rb⟩ → Tb W → Calls Tryz.prog f #[gv ada n capa ra, gv adb m capb rb] W (BRes W (rgG ⟨nsa, ra⟩ && rgG ⟨nsb, rb⟩) p)) →
      Hid (∀ W, JS W → Calls Tryz.prog f #[gv ada n capa ra, gv adb m capb rb] W fun e W' => e = .returned (.tuple #[.bool b, .int .i64 EC]) ∧ JS W' ∧ W'.cell? ⟨K0, 0, none⟩ = some (.slice ada n capa) ∧ W'.cell? ⟨K0, 1, none⟩ = some (.int .i64 ra) ∧ W'.cell? ⟨K1, 0, none⟩ = some (.slice adb m capb) ∧ W'.cell? ⟨K1, 1, none⟩ = some (.int .i64 rb)) := fun f p b hb hc W hj => by
    have ht := (hJS.out _).1 hj
    refine (hc W (hga.later ht.bl (Nat.le_refl _)) (hgb.later ht.bl (Nat.le_refl _)) (hT.later ht.bl)).mono (fun e W' q => ?_)
    obtain ⟨q1, q2⟩ := bres_one hb q
    rw [HEC.out]
    exact ⟨q1, (hJS.out _).2 (ht.later q2), (ht.later q2).cells⟩
  have H1 := mk9 7 _ b1 hb1 (fun W g1 g2 g3 => equal_any g1 g2 hSa hSb g3)
  have H2 := mk9 8 _ b1 hb1 (fun W g1 g2 g3 => requal_any g1 g2 hMa hMb)
  have H3 := mk9 9 _ b2 hb2 (fun W g1 g2 g3 => liked_any g1 g2 hSa hSb g3)
  have H4 := mk9 10 _ b2 hb2 (fun W g1 g2 g3 => rlike_any g1 g2 hMa hMb)
  have H5 := mk9 11 _ b3 hb3 (fun W g1 g2 g3 => iso_any g1 g2 hSa hSb g3)
  have H6 := mk9 12 _ b3 hb3 (fun W g1 g2 g3 => riso_any g1 g2 hMa hMb)
  clear mk9 hT hga hgb hSa hSb hMa hMb hb1 hb2 hb3 HEC hCS
  go_enter Tryz.func3, Tryz.ntmps3
  go_wp2_with fail
  generalize (w.alloc (.cells #[.slice ada n capa, .int .i64 ra] 24)).alloc (.cells #[.slice adb m capb, .int .i64 rb] 24) = W0 at h0 ⊢
  rw [← HK1.out, ← HK0.out]
  rw [← HK1.out, ← HK0.out] at h0
  have j0 : JS W0 := (hJS.out _).2 h0.out
  clear h0 HK0 HK1
  refine (HLA.out _ j0).mono ?_
  rintro e w1 ⟨rfl, j1, c0, c1, c2, c3⟩
  clear j0 HLA
  go_wp2_with (first
    | (go_at_call 5; refine (HLB.out _ j1).mono ?_; rintro e w2 ⟨rfl, j2, c4, c5, c6, c7⟩)
    | (go_at_call 7; refine (H1.out _ j2).mono ?_; rintro e w3 ⟨rfl, j3, d0, d1, d2, d3⟩)
    | (go_at_call 8; refine (H2.out _ j3).mono ?_; rintro e w4 ⟨rfl, j4, e0, e1, e2, e3⟩)
    | (go_at_call 9; refine (H3.out _ j4).mono ?_; rintro e w5 ⟨rfl, j5, f0, f1, f2, f3⟩)
    | (go_at_call 10; refine (H4.out _ j5).mono ?_; rintro e w6 ⟨rfl, j6, g0, g1, g2, g3⟩)
    | (go_at_call 11; refine (H5.out _ j6).mono ?_; rintro e w7 ⟨rfl, j7, h0, h1, h2, h3⟩)
    | (go_at_call 12; refine (H6.out _ j7).mono ?_; rintro e w8 ⟨rfl, j8, i0, i1, i2, i3⟩)
    | (go_at_call 6; refine (HA.out _ ((hJS.out _).1 j8).bl).mono ?_; rintro e w9 ⟨rfl, HZ⟩))
  go_ret
  exact ⟨by simp, HZ.out⟩
theorem itells_walk (v : Value) (g : Gr) (u : Value) (h : Gr) (w : World) (hg : GrV w v g) (hh : GrV w u h) (hT : Tb w) : Calls Tryz.prog 3 #[v, u] w fun e w' => e = .returned (.bool true) ∧ Below w.heap.size w w' := by
  have hg' := hg
  have hh' := hh
  obtain ⟨ad, len, cap, rfl, _⟩ := hg'
  obtain ⟨ad', len', cap', rfl, _⟩ := hh'
  exact itells_core hg hh hT
end Go.Proofs.YtaflbooofchimaaGreatDoor.Alk
end
