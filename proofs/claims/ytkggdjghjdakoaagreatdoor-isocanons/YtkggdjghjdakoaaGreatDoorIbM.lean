/- Several texts as one: IsoWth, IsoSrd, IsoCns. -/
import Derived.Test.YtkggdjghjdakoaaGreatDoorIbF
import Derived.Test.YtkggdjghjdakoaaGreatDoorIbH
import Derived.Test.YtkggdjghjdakoaaGreatDoorIbD
import Derived.Test.YtkggdjghjdakoaaGreatDoorIbA
import Derived.Test.YtkggdjghjdakoaaGreatDoorIbK
section
/- IsoWithin, the walk. -/
namespace Go.Proofs.YtkggdjghjdakoaaGreatDoor.Alk
open Utf Rws Pln Flw Grp
open Go.RowKit Go.Shelf
set_option linter.unusedSimpArgs false
set_option linter.unusedVariables false
set_option maxRecDepth 100000
set_option maxHeartbeats 4000000
attribute [local go_sem ↓] Go.wp_at_zero Go.wp_at_succ


/-- alike in Kids as they rise: as much is reached -/
theorem lk_reach {nsa nsb : List Nd} {ra rb : Int} (hqa : rgG ⟨nsa, ra⟩ = true) (hqb : rgG ⟨nsb, rb⟩ = true) (h : LkP (lab (ris nsa)) (lab (ris nsb)) (kd (ris nsa)) (kd (ris nsb)) ra.toNat rb.toNat) : (odG nsa ra.toNat).length = (odG nsb rb.toNat).length := by
  obtain ⟨f1, f2, f3⟩ := rgG_facts hqa
  obtain ⟨g1, g2, g3⟩ := rgG_facts hqb
  obtain ⟨f4, f5, f6⟩ := rgG_facts (rg_ris hqa)
  obtain ⟨g4, g5, g6⟩ := rgG_facts (rg_ris hqb)
  obtain ⟨x, rfl, hx⟩ := isP_nat f2
  obtain ⟨y, rfl, hy⟩ := isP_nat g2
  rw [Int.toNat_natCast, Int.toNat_natCast] at *
  rw [← od_ris_len (rg_evn hqa) f3 hx, ← od_ris_len (rg_evn hqb) g3 hy, od_eq, od_eq]
  exact lk_len (kd_lt f6 rfl) (kd_lt g6 rfl) (by rw [ris_len]; exact hx) (by rw [ris_len]; exact hy) h
theorem within_core {w : World} {ada adb : Option Addr} {n m capa capb : Nat} {ra rb : Int} {nsa nsb : List Nd} (hga : GrV w (gv ada n capa ra) ⟨nsa, ra⟩) (hgb : GrV w (gv adb m capb rb) ⟨nsb, rb⟩) (hT : Tb w) :
    Calls Tryz.prog 4 #[gv ada n capa ra, gv adb m capb rb] w fun e w' => e = .returned (.bool true) ∧ Below w.heap.size w w' := by
  have h0 : Hid (TwS w _ w.heap.size (w.heap.size + 1) (.slice ada n capa) (.int .i64 ra) (.slice adb m capb) (.int .i64 rb)) := TwS.new w (.slice ada n capa) (.int .i64 ra) (.slice adb m capb) (.int .i64 rb)
  obtain ⟨K1, HK1⟩ : ∃ K1, Hid (K1 = w.heap.size + 1) := ⟨_, rfl⟩
  obtain ⟨K0, HK0⟩ : ∃ K0, Hid (K0 = w.heap.size) := ⟨_, rfl⟩
  obtain ⟨JS, hJS⟩ : ∃ JS : World → Prop, Hid (∀ w', JS w' ↔ TwS w w' K0 K1 (.slice ada n capa) (.int .i64 ra) (.slice adb m capb) (.int .i64 rb)) := ⟨fun w' => TwS w w' K0 K1 (.slice ada n capa) (.int .i64 ra) (.slice adb m capb) (.int .i64 rb), fun _ => Iff.rfl⟩
  have HA : Hid (∀ W, Below w.heap.size w W → Calls Tryz.prog 10 #[] W fun e W' => e = .returned (.bool true) ∧ Hid (Below w.heap.size w W')) := fun W b => (alive_any (hT.later b)).mono (fun e W' q => ⟨q.1, b.trans (q.2.mono b.size)⟩)
  obtain ⟨SL, sa, sb, HLG⟩ : ∃ SL : Value → Bool → Prop, SL (gv ada n capa ra) (lgB nsa) ∧ SL (gv adb m capb rb) (lgB nsb) ∧ Hid (∀ W v b, SL v b → JS W → Calls Tryz.prog 8 #[v] W fun e W' => e = .returned (.bool b) ∧ JS W' ∧ W'.cell? ⟨K0, 0, none⟩ = some (.slice ada n capa) ∧ W'.cell? ⟨K0, 1, none⟩ = some (.int .i64 ra) ∧ W'.cell? ⟨K1, 0, none⟩ = some (.slice adb m capb) ∧ W'.cell? ⟨K1, 1, none⟩ = some (.int .i64 rb)) :=
    ⟨fun v b => ∃ g, GrV w v g ∧ lgB g.nodes = b, ⟨_, hga, rfl⟩, ⟨_, hgb, rfl⟩, fun W v b hs hj => by
      obtain ⟨g, h1, h2⟩ := hs
      have ht := (hJS.out _).1 hj
      exact (large_any (h1.later ht.bl (Nat.le_refl _))).mono (fun e W' q => ⟨by rw [← h2]; exact q.1, (hJS.out _).2 (ht.later q.2), (ht.later q.2).ce⟩)⟩
  cases hla : lgB nsa
  case true =>
    rw [hla] at sa
    clear hT hga hgb
    go_enter Tryz.func4, Tryz.ntmps4
    go_wp2_with fail
    generalize (w.alloc (.cells #[.slice ada n capa, .int .i64 ra] 24)).alloc (.cells #[.slice adb m capb, .int .i64 rb] 24) = W0 at h0 ⊢
    rw [← HK1.out, ← HK0.out]
    rw [← HK1.out, ← HK0.out] at h0
    have j0 : JS W0 := (hJS.out _).2 h0.out
    clear h0 HK0 HK1
    refine (HLG.out _ _ _ sa j0).mono ?_
    rintro e w1 ⟨rfl, j1, c0, c1, c2, c3⟩
    go_wp2_with (first | (go_at_call 8; refine (HLG.out _ _ _ (by first | exact sa | exact sb) (by assumption)).mono ?_; rintro e w1 ⟨rfl, j1, c0, c1, c2, c3⟩) | (go_at_call 9; refine (HRG.out _ _ _ (by first | exact ta | exact tb) (by assumption)).mono ?_; rintro e w1 ⟨rfl, j1, c0, c1, c2, c3⟩) | (go_at_call 10; refine (HA.out _ (by first | exact ((hJS.out _).1 (by assumption)).bl)).mono ?_; rintro e w9 ⟨rfl, HZ⟩))
    go_ret
    exact ⟨rfl, HZ.out⟩
  case false =>
  cases hlb : lgB nsb
  case true =>
    rw [hla] at sa
    rw [hlb] at sb
    clear hT hga hgb
    go_enter Tryz.func4, Tryz.ntmps4
    go_wp2_with fail
    generalize (w.alloc (.cells #[.slice ada n capa, .int .i64 ra] 24)).alloc (.cells #[.slice adb m capb, .int .i64 rb] 24) = W0 at h0 ⊢
    rw [← HK1.out, ← HK0.out]
    rw [← HK1.out, ← HK0.out] at h0
    have j0 : JS W0 := (hJS.out _).2 h0.out
    clear h0 HK0 HK1
    refine (HLG.out _ _ _ sa j0).mono ?_
    rintro e w1 ⟨rfl, j1, c0, c1, c2, c3⟩
    go_wp2_with (first | (go_at_call 8; refine (HLG.out _ _ _ (by first | exact sa | exact sb) (by assumption)).mono ?_; rintro e w1 ⟨rfl, j1, c0, c1, c2, c3⟩) | (go_at_call 9; refine (HRG.out _ _ _ (by first | exact ta | exact tb) (by assumption)).mono ?_; rintro e w1 ⟨rfl, j1, c0, c1, c2, c3⟩) | (go_at_call 10; refine (HA.out _ (by first | exact ((hJS.out _).1 (by assumption)).bl)).mono ?_; rintro e w9 ⟨rfl, HZ⟩))
    go_ret
    exact ⟨rfl, HZ.out⟩
  case false =>
  have hSa := lgB_sml hla
  have hSb := lgB_sml hlb
  rw [hla] at sa
  rw [hlb] at sb
  obtain ⟨SR, ta, tb, HRG⟩ : ∃ SR : Value → Bool → Prop, SR (gv ada n capa ra) (rgG ⟨nsa, ra⟩) ∧ SR (gv adb m capb rb) (rgG ⟨nsb, rb⟩) ∧ Hid (∀ W v b, SR v b → JS W → Calls Tryz.prog 9 #[v] W fun e W' => e = .returned (.bool b) ∧ JS W' ∧ W'.cell? ⟨K0, 0, none⟩ = some (.slice ada n capa) ∧ W'.cell? ⟨K0, 1, none⟩ = some (.int .i64 ra) ∧ W'.cell? ⟨K1, 0, none⟩ = some (.slice adb m capb) ∧ W'.cell? ⟨K1, 1, none⟩ = some (.int .i64 rb)) :=
    ⟨fun v b => ∃ g, GrV w v g ∧ Sml g.nodes ∧ rgG g = b, ⟨_, hga, hSa, rfl⟩, ⟨_, hgb, hSb, rfl⟩, fun W v b hs hj => by
      obtain ⟨g, h1, h3, h2⟩ := hs
      have ht := (hJS.out _).1 hj
      exact (right_gr (h1.later ht.bl (Nat.le_refl _)) h3 (hT.later ht.bl)).mono (fun e W' q => ⟨by rw [← h2]; exact q.1, (hJS.out _).2 (ht.later q.2), (ht.later q.2).ce⟩)⟩
  cases hqa : rgG ⟨nsa, ra⟩
  case false =>
    rw [hqa] at ta
    clear hT hga hgb hSa hSb
    go_enter Tryz.func4, Tryz.ntmps4
    go_wp2_with fail
    generalize (w.alloc (.cells #[.slice ada n capa, .int .i64 ra] 24)).alloc (.cells #[.slice adb m capb, .int .i64 rb] 24) = W0 at h0 ⊢
    rw [← HK1.out, ← HK0.out]
    rw [← HK1.out, ← HK0.out] at h0
    have j0 : JS W0 := (hJS.out _).2 h0.out
    clear h0 HK0 HK1
    refine (HLG.out _ _ _ sa j0).mono ?_
    rintro e w1 ⟨rfl, j1, c0, c1, c2, c3⟩
    go_wp2_with (first | (go_at_call 8; refine (HLG.out _ _ _ (by first | exact sa | exact sb) (by assumption)).mono ?_; rintro e w1 ⟨rfl, j1, c0, c1, c2, c3⟩) | (go_at_call 9; refine (HRG.out _ _ _ (by first | exact ta | exact tb) (by assumption)).mono ?_; rintro e w1 ⟨rfl, j1, c0, c1, c2, c3⟩) | (go_at_call 10; refine (HA.out _ (by first | exact ((hJS.out _).1 (by assumption)).bl)).mono ?_; rintro e w9 ⟨rfl, HZ⟩))
    go_ret
    exact ⟨rfl, HZ.out⟩
  case true =>
  cases hqb : rgG ⟨nsb, rb⟩
  case false =>
    rw [hqa] at ta
    rw [hqb] at tb
    clear hT hga hgb hSa hSb
    go_enter Tryz.func4, Tryz.ntmps4
    go_wp2_with fail
    generalize (w.alloc (.cells #[.slice ada n capa, .int .i64 ra] 24)).alloc (.cells #[.slice adb m capb, .int .i64 rb] 24) = W0 at h0 ⊢
    rw [← HK1.out, ← HK0.out]
    rw [← HK1.out, ← HK0.out] at h0
    have j0 : JS W0 := (hJS.out _).2 h0.out
    clear h0 HK0 HK1
    refine (HLG.out _ _ _ sa j0).mono ?_
    rintro e w1 ⟨rfl, j1, c0, c1, c2, c3⟩
    go_wp2_with (first | (go_at_call 8; refine (HLG.out _ _ _ (by first | exact sa | exact sb) (by assumption)).mono ?_; rintro e w1 ⟨rfl, j1, c0, c1, c2, c3⟩) | (go_at_call 9; refine (HRG.out _ _ _ (by first | exact ta | exact tb) (by assumption)).mono ?_; rintro e w1 ⟨rfl, j1, c0, c1, c2, c3⟩) | (go_at_call 10; refine (HA.out _ (by first | exact ((hJS.out _).1 (by assumption)).bl)).mono ?_; rintro e w9 ⟨rfl, HZ⟩))
    go_ret
    exact ⟨rfl, HZ.out⟩
  case true =>
    rw [hqa] at ta
    rw [hqb] at tb
    have HAL : Hid (∀ W, JS W → Calls Tryz.prog 11 #[gv ada n capa ra, gv adb m capb rb] W fun e W' => ∃ q0 q1 q2 : Bool, e = .returned (.agg #[.bool q0, .bool q1, .bool q2]) ∧ Hid ((q2 = true → q1 = true) ∧ (q1 = true → q0 = true) ∧ (q1 = true → (odG nsa ra.toNat).length = (odG nsb rb.toNat).length)) ∧ JS W') := fun W hj => by
      have ht := (hJS.out _).1 hj
      refine (all_any (hga.later ht.bl (Nat.le_refl _)) (hgb.later ht.bl (Nat.le_refl _)) hSa hSb (hT.later ht.bl) hqa hqb).mono ?_
      rintro e W' ⟨q0, q1, q2, rfl, HQ, HB⟩
      obtain ⟨e0, e1, e2⟩ := HQ.out
      exact ⟨q0, q1, q2, rfl, ⟨fun h => e1.2 (lk_ris (rg_evn hqa) (rg_evn hqb) (e2.1 h)), fun h => e0.2 (e1.1 h).eqP, fun h => lk_reach hqa hqb (e1.1 h)⟩, (hJS.out _).2 (ht.later HB.out)⟩
    have HOR : Hid (∀ W, Below w.heap.size w W → Calls Tryz.prog 12 #[gv ada n capa ra] W (fun e W' => ∃ ad cap, e = .returned (.tuple #[.slice ad (odG nsa ra.toNat).length cap, .int .i64 0]) ∧ Below W.heap.size W W') ∧ Calls Tryz.prog 12 #[gv adb m capb rb] W (fun e W' => ∃ ad cap, e = .returned (.tuple #[.slice ad (odG nsb rb.toNat).length cap, .int .i64 0]) ∧ Below W.heap.size W W')) := fun W hb =>
      ⟨(order_any (hga.later hb (Nat.le_refl _)) hSa (hT.later hb)).mono (fun e W' q => by obtain ⟨q1, q2⟩ := q; rw [hqa, if_pos rfl] at q1; obtain ⟨ad, cap, e1, _⟩ := q1; exact ⟨ad, cap, e1, q2⟩), (order_any (hgb.later hb (Nat.le_refl _)) hSb (hT.later hb)).mono (fun e W' q => by obtain ⟨q1, q2⟩ := q; rw [hqb, if_pos rfl] at q1; obtain ⟨ad, cap, e1, _⟩ := q1; exact ⟨ad, cap, e1, q2⟩)⟩
    generalize (odG nsa ra.toNat).length = X at HAL HOR
    generalize (odG nsb rb.toNat).length = Y at HAL HOR
    clear hT hga hgb hSa hSb
    go_enter Tryz.func4, Tryz.ntmps4
    go_wp2_with fail
    generalize (w.alloc (.cells #[.slice ada n capa, .int .i64 ra] 24)).alloc (.cells #[.slice adb m capb, .int .i64 rb] 24) = W0 at h0 ⊢
    rw [← HK1.out, ← HK0.out]
    rw [← HK1.out, ← HK0.out] at h0
    have j0 : JS W0 := (hJS.out _).2 h0.out
    clear h0 HK0 HK1
    refine (HLG.out _ _ _ sa j0).mono ?_
    rintro e w1 ⟨rfl, j1, c0, c1, c2, c3⟩
    go_upto_region 4 with (first | (go_at_call 8; refine (HLG.out _ _ _ (by first | exact sa | exact sb) (by assumption)).mono ?_; rintro e w1 ⟨rfl, j1, c0, c1, c2, c3⟩) | (go_at_call 9; refine (HRG.out _ _ _ (by first | exact ta | exact tb) (by assumption)).mono ?_; rintro e w1 ⟨rfl, j1, c0, c1, c2, c3⟩) | (go_at_call 11; refine (HAL.out _ (by assumption)).mono ?_; rintro e w5 ⟨q0, q1, q2, rfl, HQ, j5⟩))
    have h5 := (hJS.out _).1 j5
    have x5 := below_alloc w5 (.cells #[.bool q0, .bool q1, .bool q2] 27)
    have HT6 : Hid (TwS w (w5.alloc (.cells #[.bool q0, .bool q1, .bool q2] 27)) K0 K1 (.slice ada n capa) (.int .i64 ra) (.slice adb m capb) (.int .i64 rb) ∧ Bx (w5.alloc (.cells #[.bool q0, .bool q1, .bool q2] 27)) w5.heap.size #[.bool q0, .bool q1, .bool q2] 27) := ⟨h5.later x5, Bx.new _ _ _⟩
    clear h5 x5
    generalize w5.alloc (.cells #[.bool q0, .bool q1, .bool q2] 27) = W6 at HT6 ⊢
    generalize w5.heap.size = K5 at HT6 ⊢
    clear j5 j1 j0 c0 c1 c2 c3
    obtain ⟨JT, hJT⟩ : ∃ JT : World → Prop, Hid (∀ w', JT w' ↔ (TwS w w' K0 K1 (.slice ada n capa) (.int .i64 ra) (.slice adb m capb) (.int .i64 rb) ∧ Bx w' K5 #[.bool q0, .bool q1, .bool q2] 27)) := ⟨fun w' => (TwS w w' K0 K1 (.slice ada n capa) (.int .i64 ra) (.slice adb m capb) (.int .i64 rb) ∧ Bx w' K5 #[.bool q0, .bool q1, .bool q2] 27), fun _ => Iff.rfl⟩
    have ce : ∀ {W'}, JT W' → W'.cell? ⟨K0, 0, none⟩ = some (.slice ada n capa) ∧ W'.cell? ⟨K0, 1, none⟩ = some (.int .i64 ra) ∧ W'.cell? ⟨K1, 0, none⟩ = some (.slice adb m capb) ∧ W'.cell? ⟨K1, 1, none⟩ = some (.int .i64 rb) ∧ W'.cell? ⟨K5, 0, none⟩ = some (.bool q0) ∧ W'.cell? ⟨K5, 1, none⟩ = some (.bool q1) ∧ W'.cell? ⟨K5, 2, none⟩ = some (.bool q2) := fun {W'} h => by
      obtain ⟨h1, h2⟩ := (hJT.out _).1 h
      exact ⟨h1.a.cell 0, h1.a.cell 1, h1.b.cell 0, h1.b.cell 1, h2.cell 0, h2.cell 1, h2.cell 2⟩
    obtain ⟨SO, oa, ob, HO⟩ : ∃ SO : Value → Nat → Prop, SO (gv ada n capa ra) X ∧ SO (gv adb m capb rb) Y ∧ Hid (∀ W v k, SO v k → JT W → Calls Tryz.prog 12 #[v] W fun e W' => ∃ ad cap, e = .returned (.tuple #[.slice ad k cap, .int .i64 0]) ∧ JT W' ∧ W'.cell? ⟨K0, 0, none⟩ = some (.slice ada n capa) ∧ W'.cell? ⟨K0, 1, none⟩ = some (.int .i64 ra) ∧ W'.cell? ⟨K1, 0, none⟩ = some (.slice adb m capb) ∧ W'.cell? ⟨K1, 1, none⟩ = some (.int .i64 rb) ∧ W'.cell? ⟨K5, 0, none⟩ = some (.bool q0) ∧ W'.cell? ⟨K5, 1, none⟩ = some (.bool q1) ∧ W'.cell? ⟨K5, 2, none⟩ = some (.bool q2)) :=
      ⟨fun v k => ∀ W, Below w.heap.size w W → Calls Tryz.prog 12 #[v] W (fun e W' => ∃ ad cap, e = .returned (.tuple #[.slice ad k cap, .int .i64 0]) ∧ Below W.heap.size W W'), fun W hb => (HOR.out W hb).1, fun W hb => (HOR.out W hb).2, fun W v k hs hj => by
        obtain ⟨h1, h2⟩ := (hJT.out _).1 hj
        refine (hs W h1.bl).mono ?_
        rintro e W' ⟨ad, cap, rfl, hb⟩
        have h3 := (hJT.out _).2 ⟨h1.later hb, h2.later hb⟩
        exact ⟨ad, cap, rfl, h3, ce h3⟩⟩
    have j6 : JT W6 := (hJT.out _).2 HT6.out
    obtain ⟨d0, d1, d2, d3, f0, f1, f2⟩ := ce j6
    clear ce HT6 HOR
    have hq : (q0 = true ∧ q1 = true ∧ q2 = true ∧ X = Y) ∨ (q0 = true ∧ q1 = true ∧ q2 = false ∧ X = Y) ∨ (q1 = false ∧ q2 = false) := by
      obtain ⟨p1, p2, p3⟩ := HQ.out
      cases q1
      · cases q2
        · exact .inr (.inr ⟨rfl, rfl⟩)
        · exact absurd (p1 rfl) (by decide)
      · cases q2
        · exact .inr (.inl ⟨p2 rfl, rfl, rfl, p3 rfl⟩)
        · exact .inl ⟨p2 rfl, rfl, rfl, p3 rfl⟩
    clear HQ
    rcases hq with ⟨rfl, rfl, rfl, rfl⟩ | ⟨rfl, rfl, rfl, rfl⟩ | ⟨rfl, rfl⟩
    all_goals
      go_wp2_with (first | (go_at_call 12; refine (HO.out _ _ _ (by first | exact oa | exact ob) (by assumption)).mono ?_; rintro e w7 ⟨ad7, cap7, rfl, j7, d0, d1, d2, d3, f0, f1, f2⟩) | (go_at_call 10; refine (HA.out _ (by exact ((hJT.out _).1 (by assumption)).1.bl)).mono ?_; rintro e w9 ⟨rfl, HZ⟩))
      go_ret
      exact ⟨rfl, HZ.out⟩
theorem within_walk (v : Value) (g : Gr) (u : Value) (h : Gr) (w : World) (hg : GrV w v g) (hh : GrV w u h) (hT : Tb w) : Calls Tryz.prog 4 #[v, u] w fun e w' => e = .returned (.bool true) ∧ Below w.heap.size w w' := by
  have hg' := hg
  have hh' := hh
  obtain ⟨ad, len, cap, rfl, h1, h2, h3, h4⟩ := hg'
  obtain ⟨ad', len', cap', rfl, k1, k2, k3, k4⟩ := hh'
  exact within_core hg hh hT
end Go.Proofs.YtkggdjghjdakoaaGreatDoor.Alk
end

section
/- Sorted, by its contract. -/
namespace Go.Proofs.YtkggdjghjdakoaaGreatDoor.Alk
open Utf Rws Pln Flw Grp
open Go.RowKit Go.Shelf
set_option linter.unusedSimpArgs false
set_option linter.unusedVariables false
set_option maxRecDepth 100000
set_option maxHeartbeats 4000000
attribute [local go_sem ↓] Go.wp_at_zero Go.wp_at_succ

theorem sorted_core {w : World} {ad : Option Addr} {len cap : Nat} {r : Int} {ns : List Nd} (hc : len ≤ cap) (hm : cap ≤ maxLen) (hr : i64 r) (hN : NAt w ad len ns) (hS : Sml ns) (hT : Tb w) :
    Calls Tryz.prog 14 #[gv ad len cap r] w (GRes w (rgG ⟨ns, r⟩) 1 ⟨cnN (ris ns) (odG (ris ns) r.toNat), 0⟩) := by
  have HLn : Hid (len = ns.length) := hN.1
  have hmm : maxLen = 9223372036854775807 := rfl
  have hlen : len ≤ 9223372036854775807 := by omega
  have h0 := CaS.new w (.slice ad len cap) (.int .i64 r)
  have HR : Hid (∀ w', Hid (CaS w w' w.heap.size (w.heap.size + 1) (.slice ad len cap) (.int .i64 r)) → Calls Tryz.prog 9 #[gv ad len cap r] w' fun e w'' => e = .returned (.bool (rgG ⟨ns, r⟩)) ∧ Hid (CaS w w'' w.heap.size (w.heap.size + 1) (.slice ad len cap) (.int .i64 r))) :=
    fun w' h => (right_core hlen (hN.later h.out.bl (Nat.le_refl _)) hS (hT.later h.out.bl)).mono (fun e w'' q => ⟨q.1, h.out.later q.2⟩)
  cases hq : rgG ⟨ns, r⟩
  · rw [hq] at HR
    clear hmm hlen hc hm hr
    go_enter Tryz.func14, Tryz.ntmps14
    go_wp2_with fail
    generalize (w.alloc (.cells #[.slice ad len cap, .int .i64 r] 24)).alloc (.cells #[.slice none 0 0, .int .i64 0] 24) = W0 at h0 ⊢
    refine (HR.out _ h0).mono ?_
    rintro e w1 ⟨rfl, H1⟩
    obtain ⟨c0, c1⟩ := H1.out.r.c2
    have z0 := H1.out.r.fz 0
    have z1 := H1.out.r.fz 1
    have HB : Hid (_ ∧ _) := ⟨(H1.out.r.set 0 (.slice none 0 0)).set 1 (.int .i64 0), (H1.out.bl.setCell (p := ⟨w.heap.size + 1, 0, none⟩) H1.out.hk (.slice none 0 0)).setCell (p := ⟨w.heap.size + 1, 1, none⟩) H1.out.hk (.int .i64 0)⟩
    clear H1 h0 HR hS hT hN
    go_wp2
    generalize (w1.setCell ⟨w.heap.size + 1, 0, none⟩ (.slice none 0 0)).setCell ⟨w.heap.size + 1, 1, none⟩ (.int .i64 0) = W9 at HB ⊢
    have g0 : W9.cell? ⟨w.heap.size + 1, 0, none⟩ = some (.slice none 0 0) := HB.out.1.cell 0
    have g1 : W9.cell? ⟨w.heap.size + 1, 1, none⟩ = some (.int .i64 0) := HB.out.1.cell 1
    refine bodyPost_ret (v := .tuple #[gv none 0 0 0, .int .i64 1]) (by simp [results, Tryz.results14, go_sem, g0, g1]) rfl ?_
    exact ⟨by rw [if_neg (by decide)], HB.out.2⟩
  · rw [hq] at HR
    have HG : Hid (∀ w', Hid (CaS w w' w.heap.size (w.heap.size + 1) (.slice ad len cap) (.int .i64 r)) → Calls Tryz.prog 28 #[gv ad len cap r] w' fun e w'' => ∃ ad' len' cap', e = .returned (gv ad' len' cap' r) ∧ Hid (Calls Tryz.prog 13 #[gv ad' len' cap' r] w'' fun e w3 => ∃ ad2 len2 cap2, e = .returned (.tuple #[gv ad2 len2 cap2 0, .int .i64 0]) ∧ Hid (GrP (w.heap.size + 1 + 1) w3 (gv ad2 len2 cap2 0) ⟨cnN (ris ns) (odG (ris ns) r.toNat), 0⟩) ∧ Hid (CaS w w3 w.heap.size (w.heap.size + 1) (.slice ad len cap) (.int .i64 r)) ∧ w3.cell? ⟨w.heap.size + 1, 0, none⟩ = some (.slice none 0 0) ∧ w3.cell? ⟨w.heap.size + 1, 1, none⟩ = some (.int .i64 0) ∧ w3.frozen? ⟨w.heap.size + 1, 0, none⟩ = false ∧ w3.frozen? ⟨w.heap.size + 1, 1, none⟩ = false)) := by
      intro w' h
      refine (rising_any (ns := ns) ⟨ad, len, cap, rfl, hc, hm, hr, hN.later h.out.bl (Nat.le_refl _)⟩ hq hS).mono ?_
      rintro e w'' ⟨ad', len', cap', rfl, H⟩
      obtain ⟨q1, q2⟩ := H.out
      refine ⟨ad', len', cap', rfl, ?_⟩
      have h2 := h.out.later q2
      have hx := canon_any q1 (sml_ris (rg_evn hq) hS) ((hT.later h2.bl))
      rw [rg_ris hq] at hx
      refine hx.mono ?_
      rintro e w3 ⟨q3, q4⟩
      rw [if_pos rfl] at q3
      obtain ⟨v, rfl, q5⟩ := q3
      have q6 := q5.v
      obtain ⟨ad2, len2, cap2, rfl, _⟩ := q6
      have h3 := h2.later q4
      exact ⟨ad2, len2, cap2, rfl, q5.mono (by have := h2.r.lt; omega), h3, h3.r.c2.1, h3.r.c2.2, h3.r.fz 0, h3.r.fz 1⟩
    clear hS hT hN hmm hlen hc hm hr
    go_enter Tryz.func14, Tryz.ntmps14
    go_wp2_with fail
    generalize (w.alloc (.cells #[.slice ad len cap, .int .i64 r] 24)).alloc (.cells #[.slice none 0 0, .int .i64 0] 24) = W0 at h0 ⊢
    refine (HR.out _ h0).mono ?_
    rintro e w1 ⟨rfl, H1⟩
    obtain ⟨c0, c1⟩ := H1.out.g.c2
    go_wp2_with (first | (go_at_call 28; refine (HG.out _ H1).mono ?_; rintro e w2 ⟨ad1, len1, cap1, rfl, H2⟩) | (go_at_call 13; refine H2.out.mono ?_; rintro e w3 ⟨ad', len', cap', rfl, H4, H5, d0, d1, z0, z1⟩))
    have HB : Hid (_ ∧ _ ∧ _) := ⟨(H5.out.r.set 0 (.slice ad' len' cap')).set 1 (.int .i64 0), (H5.out.bl.setCell (p := ⟨w.heap.size + 1, 0, none⟩) H5.out.hk (.slice ad' len' cap')).setCell (p := ⟨w.heap.size + 1, 1, none⟩) H5.out.hk (.int .i64 0), (H4.out.set (i := 0) (u := .slice ad' len' cap') (K := w.heap.size + 1) (by omega)).set (i := 1) (u := .int .i64 0) (K := w.heap.size + 1) (by omega)⟩
    generalize (w3.setCell ⟨w.heap.size + 1, 0, none⟩ (.slice ad' len' cap')).setCell ⟨w.heap.size + 1, 1, none⟩ (.int .i64 0) = W9 at HB ⊢
    have g0 : W9.cell? ⟨w.heap.size + 1, 0, none⟩ = some (.slice ad' len' cap') := HB.out.1.cell 0
    have g1 : W9.cell? ⟨w.heap.size + 1, 1, none⟩ = some (.int .i64 0) := HB.out.1.cell 1
    refine bodyPost_ret (v := .tuple #[gv ad' len' cap' 0, .int .i64 0]) (by simp [results, Tryz.results14, go_sem, g0, g1]) rfl ?_
    exact ⟨by rw [if_pos rfl]; exact ⟨_, rfl, HB.out.2.2.mono (by omega)⟩, HB.out.2.1⟩
theorem sorted_any {w : World} {v : Value} {g : Gr} (h : GrV w v g) (hS : Sml g.nodes) (hT : Tb w) : Calls Tryz.prog 14 #[v] w (GRes w (rgG g) 1 ⟨cnN (ris g.nodes) (odG (ris g.nodes) g.root.toNat), 0⟩) := by
  obtain ⟨ad, len, cap, rfl, h1, h2, h3, h4⟩ := h
  exact sorted_core h1 h2 h3 h4 hS hT
end Go.Proofs.YtkggdjghjdakoaaGreatDoor.Alk
end

section
/- IsoCanons, the walk. -/
namespace Go.Proofs.YtkggdjghjdakoaaGreatDoor.Alk
open Utf Rws Pln Flw Grp
open Go.RowKit Go.Shelf
set_option linter.unusedSimpArgs false
set_option linter.unusedVariables false
set_option maxRecDepth 100000
set_option maxHeartbeats 4000000
attribute [local go_sem ↓] Go.wp_at_zero Go.wp_at_succ



/-- two graphs in their boxes, and more of them behind -/
def CnS (w W : World) (K0 K1 : Nat) (a0 a1 b0 b1 : Value) (L : List (Nat × Value × Value × Gr)) : Prop := TwS w W K0 K1 a0 a1 b0 b1 ∧ ∀ p ∈ L, Bx W p.1 #[p.2.1, p.2.2.1] 24 ∧ GrV W (.agg #[p.2.1, p.2.2.1]) p.2.2.2
theorem CnS.later {w W W' : World} {K0 K1 : Nat} {a0 a1 b0 b1 : Value} {L : List (Nat × Value × Value × Gr)} (h : CnS w W K0 K1 a0 a1 b0 b1 L) (hb : Below W.heap.size W W') : CnS w W' K0 K1 a0 a1 b0 b1 L := ⟨h.1.later hb, fun p hp => ⟨(h.2 p hp).1.later hb, (h.2 p hp).2.later hb (Nat.le_refl _)⟩⟩
theorem CnS.add {w W W1 : World} {K0 K1 : Nat} {a0 a1 b0 b1 x0 x1 : Value} {g : Gr} {L : List (Nat × Value × Value × Gr)} (h : CnS w W K0 K1 a0 a1 b0 b1 L) (hb : Below W.heap.size W W1) (hg : GrV W1 (.agg #[x0, x1]) g) : CnS w (W1.alloc (.cells #[x0, x1] 24)) K0 K1 a0 a1 b0 b1 ((W1.heap.size, x0, x1, g) :: L) := by
  have h1 := (h.later hb).later (below_alloc W1 (.cells #[x0, x1] 24))
  refine ⟨h1.1, fun p hp => ?_⟩
  rcases List.mem_cons.1 hp with rfl | hp
  · exact ⟨Bx.new _ _ _, hg.later (below_alloc W1 _) (Nat.le_refl _)⟩
  · exact h1.2 p hp
theorem lk_cns {nsa nsb : List Nd} {ra rb : Int} (hqa : rgG ⟨nsa, ra⟩ = true) (hqb : rgG ⟨nsb, rb⟩ = true) : LkP (lab nsa) (lab nsb) (kd nsa) (kd nsb) ra.toNat rb.toNat ↔ ((⟨cnN nsa (odG nsa ra.toNat), 0⟩ : Gr) = ⟨cnN nsb (odG nsb rb.toNat), 0⟩) := by
  obtain ⟨f1, f2, f3⟩ := rgG_facts hqa
  obtain ⟨g1, g2, g3⟩ := rgG_facts hqb
  obtain ⟨x, rfl, hx⟩ := isP_nat f2
  obtain ⟨y, rfl, hy⟩ := isP_nat g2
  rw [Int.toNat_natCast, Int.toNat_natCast, lk_cn f3 g3 hx hy]
  exact ⟨fun h => by rw [h], fun h => by injection h⟩
theorem canons_core {w : World} {ada adb : Option Addr} {n m capa capb : Nat} {ra rb : Int} {nsa nsb : List Nd} (hga : GrV w (gv ada n capa ra) ⟨nsa, ra⟩) (hgb : GrV w (gv adb m capb rb) ⟨nsb, rb⟩) (hT : Tb w) :
    Calls Tryz.prog 5 #[gv ada n capa ra, gv adb m capb rb] w fun e w' => e = .returned (.bool true) ∧ Below w.heap.size w w' := by
  have h0 : Hid (TwS w _ w.heap.size (w.heap.size + 1) (.slice ada n capa) (.int .i64 ra) (.slice adb m capb) (.int .i64 rb)) := TwS.new w (.slice ada n capa) (.int .i64 ra) (.slice adb m capb) (.int .i64 rb)
  obtain ⟨K1, HK1⟩ : ∃ K1, Hid (K1 = w.heap.size + 1) := ⟨_, rfl⟩
  obtain ⟨K0, HK0⟩ : ∃ K0, Hid (K0 = w.heap.size) := ⟨_, rfl⟩
  obtain ⟨JS, hJS⟩ : ∃ JS : World → Prop, Hid (∀ w', JS w' ↔ TwS w w' K0 K1 (.slice ada n capa) (.int .i64 ra) (.slice adb m capb) (.int .i64 rb)) := ⟨fun w' => TwS w w' K0 K1 (.slice ada n capa) (.int .i64 ra) (.slice adb m capb) (.int .i64 rb), fun _ => Iff.rfl⟩
  have HA : Hid (∀ W, Below w.heap.size w W → Calls Tryz.prog 10 #[] W fun e W' => e = .returned (.bool true) ∧ Hid (Below w.heap.size w W')) := fun W b => (alive_any (hT.later b)).mono (fun e W' q => ⟨q.1, b.trans (q.2.mono b.size)⟩)
  obtain ⟨SL, sa, sb, HLG⟩ : ∃ SL : Value → Bool → Prop, SL (gv ada n capa ra) (lgB nsa) ∧ SL (gv adb m capb rb) (lgB nsb) ∧ Hid (∀ W v b, SL v b → JS W → Calls Tryz.prog 8 #[v] W fun e W' => e = .returned (.bool b) ∧ JS W' ∧ W'.cell? ⟨K0, 0, none⟩ = some (.slice ada n capa) ∧ W'.cell? ⟨K0, 1, none⟩ = some (.int .i64 ra) ∧ W'.cell? ⟨K1, 0, none⟩ = some (.slice adb m capb) ∧ W'.cell? ⟨K1, 1, none⟩ = some (.int .i64 rb)) :=
    ⟨fun v b => ∃ g, GrV w v g ∧ lgB g.nodes = b, ⟨_, hga, rfl⟩, ⟨_, hgb, rfl⟩, fun W v b hs hj => by
      obtain ⟨g, h1, h2⟩ := hs
      have ht := (hJS.out _).1 hj
      exact (large_any (h1.later ht.bl (Nat.le_refl _))).mono (fun e W' q => ⟨by rw [← h2]; exact q.1, (hJS.out _).2 (ht.later q.2), (ht.later q.2).ce⟩)⟩
  cases hla : lgB nsa
  case true =>
    rw [hla] at sa
    clear hT hga hgb
    go_enter Tryz.func5, Tryz.ntmps5
    go_wp2_with fail
    generalize (w.alloc (.cells #[.slice ada n capa, .int .i64 ra] 24)).alloc (.cells #[.slice adb m capb, .int .i64 rb] 24) = W0 at h0 ⊢
    rw [← HK1.out, ← HK0.out]
    rw [← HK1.out, ← HK0.out] at h0
    have j0 : JS W0 := (hJS.out _).2 h0.out
    clear h0 HK0 HK1
    refine (HLG.out _ _ _ sa j0).mono ?_
    rintro e w1 ⟨rfl, j1, c0, c1, c2, c3⟩
    go_wp2_with (first | (go_at_call 8; refine (HLG.out _ _ _ (by first | exact sa | exact sb) (by assumption)).mono ?_; rintro e w1 ⟨rfl, j1, c0, c1, c2, c3⟩) | (go_at_call 9; refine (HRG.out _ _ _ (by first | exact ta | exact tb) (by assumption)).mono ?_; rintro e w1 ⟨rfl, j1, c0, c1, c2, c3⟩) | (go_at_call 10; refine (HA.out _ (by first | exact ((hJS.out _).1 (by assumption)).bl)).mono ?_; rintro e w9 ⟨rfl, HZ⟩))
    go_ret
    exact ⟨rfl, HZ.out⟩
  case false =>
  cases hlb : lgB nsb
  case true =>
    rw [hla] at sa
    rw [hlb] at sb
    clear hT hga hgb
    go_enter Tryz.func5, Tryz.ntmps5
    go_wp2_with fail
    generalize (w.alloc (.cells #[.slice ada n capa, .int .i64 ra] 24)).alloc (.cells #[.slice adb m capb, .int .i64 rb] 24) = W0 at h0 ⊢
    rw [← HK1.out, ← HK0.out]
    rw [← HK1.out, ← HK0.out] at h0
    have j0 : JS W0 := (hJS.out _).2 h0.out
    clear h0 HK0 HK1
    refine (HLG.out _ _ _ sa j0).mono ?_
    rintro e w1 ⟨rfl, j1, c0, c1, c2, c3⟩
    go_wp2_with (first | (go_at_call 8; refine (HLG.out _ _ _ (by first | exact sa | exact sb) (by assumption)).mono ?_; rintro e w1 ⟨rfl, j1, c0, c1, c2, c3⟩) | (go_at_call 9; refine (HRG.out _ _ _ (by first | exact ta | exact tb) (by assumption)).mono ?_; rintro e w1 ⟨rfl, j1, c0, c1, c2, c3⟩) | (go_at_call 10; refine (HA.out _ (by first | exact ((hJS.out _).1 (by assumption)).bl)).mono ?_; rintro e w9 ⟨rfl, HZ⟩))
    go_ret
    exact ⟨rfl, HZ.out⟩
  case false =>
  have hSa := lgB_sml hla
  have hSb := lgB_sml hlb
  rw [hla] at sa
  rw [hlb] at sb
  obtain ⟨SR, ta, tb, HRG⟩ : ∃ SR : Value → Bool → Prop, SR (gv ada n capa ra) (rgG ⟨nsa, ra⟩) ∧ SR (gv adb m capb rb) (rgG ⟨nsb, rb⟩) ∧ Hid (∀ W v b, SR v b → JS W → Calls Tryz.prog 9 #[v] W fun e W' => e = .returned (.bool b) ∧ JS W' ∧ W'.cell? ⟨K0, 0, none⟩ = some (.slice ada n capa) ∧ W'.cell? ⟨K0, 1, none⟩ = some (.int .i64 ra) ∧ W'.cell? ⟨K1, 0, none⟩ = some (.slice adb m capb) ∧ W'.cell? ⟨K1, 1, none⟩ = some (.int .i64 rb)) :=
    ⟨fun v b => ∃ g, GrV w v g ∧ Sml g.nodes ∧ rgG g = b, ⟨_, hga, hSa, rfl⟩, ⟨_, hgb, hSb, rfl⟩, fun W v b hs hj => by
      obtain ⟨g, h1, h3, h2⟩ := hs
      have ht := (hJS.out _).1 hj
      exact (right_gr (h1.later ht.bl (Nat.le_refl _)) h3 (hT.later ht.bl)).mono (fun e W' q => ⟨by rw [← h2]; exact q.1, (hJS.out _).2 (ht.later q.2), (ht.later q.2).ce⟩)⟩
  cases hqa : rgG ⟨nsa, ra⟩
  case false =>
    rw [hqa] at ta
    clear hT hga hgb hSa hSb
    go_enter Tryz.func5, Tryz.ntmps5
    go_wp2_with fail
    generalize (w.alloc (.cells #[.slice ada n capa, .int .i64 ra] 24)).alloc (.cells #[.slice adb m capb, .int .i64 rb] 24) = W0 at h0 ⊢
    rw [← HK1.out, ← HK0.out]
    rw [← HK1.out, ← HK0.out] at h0
    have j0 : JS W0 := (hJS.out _).2 h0.out
    clear h0 HK0 HK1
    refine (HLG.out _ _ _ sa j0).mono ?_
    rintro e w1 ⟨rfl, j1, c0, c1, c2, c3⟩
    go_wp2_with (first | (go_at_call 8; refine (HLG.out _ _ _ (by first | exact sa | exact sb) (by assumption)).mono ?_; rintro e w1 ⟨rfl, j1, c0, c1, c2, c3⟩) | (go_at_call 9; refine (HRG.out _ _ _ (by first | exact ta | exact tb) (by assumption)).mono ?_; rintro e w1 ⟨rfl, j1, c0, c1, c2, c3⟩) | (go_at_call 10; refine (HA.out _ (by first | exact ((hJS.out _).1 (by assumption)).bl)).mono ?_; rintro e w9 ⟨rfl, HZ⟩))
    go_ret
    exact ⟨rfl, HZ.out⟩
  case true =>
  cases hqb : rgG ⟨nsb, rb⟩
  case false =>
    rw [hqa] at ta
    rw [hqb] at tb
    clear hT hga hgb hSa hSb
    go_enter Tryz.func5, Tryz.ntmps5
    go_wp2_with fail
    generalize (w.alloc (.cells #[.slice ada n capa, .int .i64 ra] 24)).alloc (.cells #[.slice adb m capb, .int .i64 rb] 24) = W0 at h0 ⊢
    rw [← HK1.out, ← HK0.out]
    rw [← HK1.out, ← HK0.out] at h0
    have j0 : JS W0 := (hJS.out _).2 h0.out
    clear h0 HK0 HK1
    refine (HLG.out _ _ _ sa j0).mono ?_
    rintro e w1 ⟨rfl, j1, c0, c1, c2, c3⟩
    go_wp2_with (first | (go_at_call 8; refine (HLG.out _ _ _ (by first | exact sa | exact sb) (by assumption)).mono ?_; rintro e w1 ⟨rfl, j1, c0, c1, c2, c3⟩) | (go_at_call 9; refine (HRG.out _ _ _ (by first | exact ta | exact tb) (by assumption)).mono ?_; rintro e w1 ⟨rfl, j1, c0, c1, c2, c3⟩) | (go_at_call 10; refine (HA.out _ (by first | exact ((hJS.out _).1 (by assumption)).bl)).mono ?_; rintro e w9 ⟨rfl, HZ⟩))
    go_ret
    exact ⟨rfl, HZ.out⟩
  case true =>
    rw [hqa] at ta
    rw [hqb] at tb
    have HCA : Hid (∀ W, Below w.heap.size w W → Calls Tryz.prog 13 #[gv ada n capa ra] W fun e W' => ∃ ad len cap, e = .returned (.tuple #[gv ad len cap 0, .int .i64 0]) ∧ Hid (GrV W' (gv ad len cap 0) ⟨cnN nsa (odG nsa ra.toNat), 0⟩ ∧ Below W.heap.size W W')) := fun W hb => by
      refine (canon_any (hga.later hb (Nat.le_refl _)) hSa (hT.later hb)).mono ?_
      rintro e W' ⟨q1, q2⟩
      rw [hqa, if_pos rfl] at q1
      obtain ⟨v, rfl, q3⟩ := q1
      have q4 := q3.v
      obtain ⟨ad, len, cap, rfl, _⟩ := q3.v
      exact ⟨ad, len, cap, rfl, q4, q2⟩
    have HCB : Hid (∀ W, Below w.heap.size w W → Calls Tryz.prog 13 #[gv adb m capb rb] W fun e W' => ∃ ad len cap, e = .returned (.tuple #[gv ad len cap 0, .int .i64 0]) ∧ Hid (GrV W' (gv ad len cap 0) ⟨cnN nsb (odG nsb rb.toNat), 0⟩ ∧ Below W.heap.size W W')) := fun W hb => by
      refine (canon_any (hgb.later hb (Nat.le_refl _)) hSb (hT.later hb)).mono ?_
      rintro e W' ⟨q1, q2⟩
      rw [hqb, if_pos rfl] at q1
      obtain ⟨v, rfl, q3⟩ := q1
      have q4 := q3.v
      obtain ⟨ad, len, cap, rfl, _⟩ := q3.v
      exact ⟨ad, len, cap, rfl, q4, q2⟩
    have HSA : Hid (∀ W, Below w.heap.size w W → Calls Tryz.prog 14 #[gv ada n capa ra] W fun e W' => ∃ ad len cap, e = .returned (.tuple #[gv ad len cap 0, .int .i64 0]) ∧ Hid (GrV W' (gv ad len cap 0) ⟨cnN (ris nsa) (odG (ris nsa) ra.toNat), 0⟩ ∧ Below W.heap.size W W')) := fun W hb => by
      refine (sorted_any (hga.later hb (Nat.le_refl _)) hSa (hT.later hb)).mono ?_
      rintro e W' ⟨q1, q2⟩
      rw [hqa, if_pos rfl] at q1
      obtain ⟨v, rfl, q3⟩ := q1
      have q4 := q3.v
      obtain ⟨ad, len, cap, rfl, _⟩ := q3.v
      exact ⟨ad, len, cap, rfl, q4, q2⟩
    have HSB : Hid (∀ W, Below w.heap.size w W → Calls Tryz.prog 14 #[gv adb m capb rb] W fun e W' => ∃ ad len cap, e = .returned (.tuple #[gv ad len cap 0, .int .i64 0]) ∧ Hid (GrV W' (gv ad len cap 0) ⟨cnN (ris nsb) (odG (ris nsb) rb.toNat), 0⟩ ∧ Below W.heap.size W W')) := fun W hb => by
      refine (sorted_any (hgb.later hb (Nat.le_refl _)) hSb (hT.later hb)).mono ?_
      rintro e W' ⟨q1, q2⟩
      rw [hqb, if_pos rfl] at q1
      obtain ⟨v, rfl, q3⟩ := q1
      have q4 := q3.v
      obtain ⟨ad, len, cap, rfl, _⟩ := q3.v
      exact ⟨ad, len, cap, rfl, q4, q2⟩
    have HA3 : Hid (∀ W, Below w.heap.size w W → Calls Tryz.prog 10 #[] W fun e W' => e = .returned (.bool true) ∧ Hid (Below W.heap.size W W')) := fun W b => (alive_any (hT.later b)).mono (fun e W' q => ⟨q.1, q.2⟩)
    have HAL : Hid (∀ W, Below w.heap.size w W → Calls Tryz.prog 11 #[gv ada n capa ra, gv adb m capb rb] W fun e W' => ∃ q0 q1 q2 : Bool, e = .returned (.agg #[.bool q0, .bool q1, .bool q2]) ∧ Hid ((q1 = true ↔ (⟨cnN (ris nsa) (odG (ris nsa) ra.toNat), 0⟩ : Gr) = ⟨cnN (ris nsb) (odG (ris nsb) rb.toNat), 0⟩) ∧ (q2 = true ↔ (⟨cnN nsa (odG nsa ra.toNat), 0⟩ : Gr) = ⟨cnN nsb (odG nsb rb.toNat), 0⟩) ∧ Below W.heap.size W W')) := fun W hb => by
      refine (all_any (hga.later hb (Nat.le_refl _)) (hgb.later hb (Nat.le_refl _)) hSa hSb (hT.later hb) hqa hqb).mono ?_
      rintro e W' ⟨q0, q1, q2, rfl, HQ, HB⟩
      obtain ⟨e0, e1, e2⟩ := HQ.out
      exact ⟨q0, q1, q2, rfl, e1.trans (lk_cns (rg_ris hqa) (rg_ris hqb)), e2.trans (lk_cns hqa hqb), HB.out⟩
    generalize (⟨cnN (ris nsa) (odG (ris nsa) ra.toNat), 0⟩ : Gr) = sA at HSA HAL
    generalize (⟨cnN (ris nsb) (odG (ris nsb) rb.toNat), 0⟩ : Gr) = sB at HSB HAL
    generalize (⟨cnN nsa (odG nsa ra.toNat), 0⟩ : Gr) = gA at HCA HAL
    generalize (⟨cnN nsb (odG nsb rb.toNat), 0⟩ : Gr) = gB at HCB HAL
    clear hT hga hgb hSa hSb
    go_enter Tryz.func5, Tryz.ntmps5
    go_wp2_with fail
    generalize (w.alloc (.cells #[.slice ada n capa, .int .i64 ra] 24)).alloc (.cells #[.slice adb m capb, .int .i64 rb] 24) = W0 at h0 ⊢
    rw [← HK1.out, ← HK0.out]
    rw [← HK1.out, ← HK0.out] at h0
    have j0 : JS W0 := (hJS.out _).2 h0.out
    clear h0 HK0 HK1
    refine (HLG.out _ _ _ sa j0).mono ?_
    rintro e w1 ⟨rfl, j1, c0, c1, c2, c3⟩
    go_upto_region 4 with (first | (go_at_call 8; refine (HLG.out _ _ _ (by first | exact sa | exact sb) (by assumption)).mono ?_; rintro e w1 ⟨rfl, j1, c0, c1, c2, c3⟩) | (go_at_call 9; refine (HRG.out _ _ _ (by first | exact ta | exact tb) (by assumption)).mono ?_; rintro e w1 ⟨rfl, j1, c0, c1, c2, c3⟩) | (go_at_call 13; refine (HCA.out _ (((hJS.out _).1 (by assumption)).bl)).mono ?_; rintro e v0 ⟨ad0, ln0, cp0, rfl, G0⟩))
    have P0 : Hid (CnS w _ K0 K1 (.slice ada n capa) (.int .i64 ra) (.slice adb m capb) (.int .i64 rb) []) := ⟨(hJS.out _).1 (by assumption), fun p hp => by cases hp⟩
    have C0 : Hid (CnS w (v0.alloc (.cells #[.slice ad0 ln0 cp0, .int .i64 0] 24)) K0 K1 (.slice ada n capa) (.int .i64 ra) (.slice adb m capb) (.int .i64 rb) ((v0.heap.size, .slice ad0 ln0 cp0, .int .i64 0, _) :: [])) := P0.out.add G0.out.2 G0.out.1
    clear P0 G0
    generalize v0.alloc (.cells #[.slice ad0 ln0 cp0, .int .i64 0] 24) = V0 at C0 ⊢
    generalize v0.heap.size = K5 at C0 ⊢
    obtain ⟨c0, c1⟩ := C0.out.1.a.c2
    obtain ⟨c2, c3⟩ := C0.out.1.b.c2
    go_upto_region 5 with ((go_at_call 13; refine (HCB.out _ (C0.out.1.bl)).mono ?_; rintro e v1 ⟨ad1, ln1, cp1, rfl, G1⟩))
    have C1 : Hid (CnS w (v1.alloc (.cells #[.slice ad1 ln1 cp1, .int .i64 0] 24)) K0 K1 (.slice ada n capa) (.int .i64 ra) (.slice adb m capb) (.int .i64 rb) ((v1.heap.size, .slice ad1 ln1 cp1, .int .i64 0, _) :: [(K5, .slice ad0 ln0 cp0, .int .i64 0, gA)])) := C0.out.add G1.out.2 G1.out.1
    clear C0 G1
    generalize v1.alloc (.cells #[.slice ad1 ln1 cp1, .int .i64 0] 24) = V1 at C1 ⊢
    generalize v1.heap.size = K7 at C1 ⊢
    obtain ⟨c0, c1⟩ := C1.out.1.a.c2
    obtain ⟨c2, c3⟩ := C1.out.1.b.c2
    go_upto_region 6 with ((go_at_call 14; refine (HSA.out _ (C1.out.1.bl)).mono ?_; rintro e v2 ⟨ad2, ln2, cp2, rfl, G2⟩))
    have C2 : Hid (CnS w (v2.alloc (.cells #[.slice ad2 ln2 cp2, .int .i64 0] 24)) K0 K1 (.slice ada n capa) (.int .i64 ra) (.slice adb m capb) (.int .i64 rb) ((v2.heap.size, .slice ad2 ln2 cp2, .int .i64 0, _) :: [(K7, .slice ad1 ln1 cp1, .int .i64 0, gB), (K5, .slice ad0 ln0 cp0, .int .i64 0, gA)])) := C1.out.add G2.out.2 G2.out.1
    clear C1 G2
    generalize v2.alloc (.cells #[.slice ad2 ln2 cp2, .int .i64 0] 24) = V2 at C2 ⊢
    generalize v2.heap.size = K9 at C2 ⊢
    obtain ⟨c0, c1⟩ := C2.out.1.a.c2
    obtain ⟨c2, c3⟩ := C2.out.1.b.c2
    go_upto_region 7 with ((go_at_call 14; refine (HSB.out _ (C2.out.1.bl)).mono ?_; rintro e v3 ⟨ad3, ln3, cp3, rfl, G3⟩))
    have C3 : Hid (CnS w (v3.alloc (.cells #[.slice ad3 ln3 cp3, .int .i64 0] 24)) K0 K1 (.slice ada n capa) (.int .i64 ra) (.slice adb m capb) (.int .i64 rb) ((v3.heap.size, .slice ad3 ln3 cp3, .int .i64 0, _) :: [(K9, .slice ad2 ln2 cp2, .int .i64 0, sA), (K7, .slice ad1 ln1 cp1, .int .i64 0, gB), (K5, .slice ad0 ln0 cp0, .int .i64 0, gA)])) := C2.out.add G3.out.2 G3.out.1
    clear C2 G3
    generalize v3.alloc (.cells #[.slice ad3 ln3 cp3, .int .i64 0] 24) = V3 at C3 ⊢
    generalize v3.heap.size = K11 at C3 ⊢
    obtain ⟨c0, c1⟩ := C3.out.1.a.c2
    obtain ⟨c2, c3⟩ := C3.out.1.b.c2
    go_upto_region 8 with (go_at_call 11; refine (HAL.out _ C3.out.1.bl).mono ?_; rintro e v5 ⟨q0, q1, q2, rfl, HQ⟩)
    have C4 : Hid (CnS w (v5.alloc (.cells #[.bool q0, .bool q1, .bool q2] 27)) K0 K1 (.slice ada n capa) (.int .i64 ra) (.slice adb m capb) (.int .i64 rb) [(K11, .slice ad3 ln3 cp3, .int .i64 0, sB), (K9, .slice ad2 ln2 cp2, .int .i64 0, sA), (K7, .slice ad1 ln1 cp1, .int .i64 0, gB), (K5, .slice ad0 ln0 cp0, .int .i64 0, gA)] ∧ Bx (v5.alloc (.cells #[.bool q0, .bool q1, .bool q2] 27)) v5.heap.size #[.bool q0, .bool q1, .bool q2] 27) := ⟨(C3.out.later HQ.out.2.2).later (below_alloc _ _), Bx.new _ _ _⟩
    have HQ2 : Hid ((q1 = true ↔ sA = sB) ∧ (q2 = true ↔ gA = gB)) := ⟨HQ.out.1, HQ.out.2.1⟩
    clear HQ C3 c0 c1 c2 c3
    generalize v5.alloc (.cells #[.bool q0, .bool q1, .bool q2] 27) = W6 at C4 ⊢
    generalize v5.heap.size = K13 at C4 ⊢
    obtain ⟨JT, hJT⟩ : ∃ JT : World → Prop, Hid (∀ w', JT w' ↔ (CnS w w' K0 K1 (.slice ada n capa) (.int .i64 ra) (.slice adb m capb) (.int .i64 rb) [(K11, .slice ad3 ln3 cp3, .int .i64 0, sB), (K9, .slice ad2 ln2 cp2, .int .i64 0, sA), (K7, .slice ad1 ln1 cp1, .int .i64 0, gB), (K5, .slice ad0 ln0 cp0, .int .i64 0, gA)] ∧ Bx w' K13 #[.bool q0, .bool q1, .bool q2] 27)) := ⟨fun w' => (CnS w w' K0 K1 (.slice ada n capa) (.int .i64 ra) (.slice adb m capb) (.int .i64 rb) [(K11, .slice ad3 ln3 cp3, .int .i64 0, sB), (K9, .slice ad2 ln2 cp2, .int .i64 0, sA), (K7, .slice ad1 ln1 cp1, .int .i64 0, gB), (K5, .slice ad0 ln0 cp0, .int .i64 0, gA)] ∧ Bx w' K13 #[.bool q0, .bool q1, .bool q2] 27), fun _ => Iff.rfl⟩
    have ce : ∀ {W'}, JT W' → W'.cell? ⟨K5, 0, none⟩ = some (.slice ad0 ln0 cp0) ∧ W'.cell? ⟨K5, 1, none⟩ = some (.int .i64 0) ∧ W'.cell? ⟨K7, 0, none⟩ = some (.slice ad1 ln1 cp1) ∧ W'.cell? ⟨K7, 1, none⟩ = some (.int .i64 0) ∧ W'.cell? ⟨K9, 0, none⟩ = some (.slice ad2 ln2 cp2) ∧ W'.cell? ⟨K9, 1, none⟩ = some (.int .i64 0) ∧ W'.cell? ⟨K11, 0, none⟩ = some (.slice ad3 ln3 cp3) ∧ W'.cell? ⟨K11, 1, none⟩ = some (.int .i64 0) ∧ W'.cell? ⟨K13, 1, none⟩ = some (.bool q1) ∧ W'.cell? ⟨K13, 2, none⟩ = some (.bool q2) := fun {W'} h => by
      obtain ⟨h1, h2⟩ := (hJT.out _).1 h
      have k5 := (h1.2 (K5, .slice ad0 ln0 cp0, .int .i64 0, gA) (by simp)).1
      have k7 := (h1.2 (K7, .slice ad1 ln1 cp1, .int .i64 0, gB) (by simp)).1
      have k9 := (h1.2 (K9, .slice ad2 ln2 cp2, .int .i64 0, sA) (by simp)).1
      have k11 := (h1.2 (K11, .slice ad3 ln3 cp3, .int .i64 0, sB) (by simp)).1
      exact ⟨k5.cell 0, k5.cell 1, k7.cell 0, k7.cell 1, k9.cell 0, k9.cell 1, k11.cell 0, k11.cell 1, h2.cell 1, h2.cell 2⟩
    obtain ⟨SS, s1, s2, HS⟩ : ∃ SS : Value → Value → Bool → Prop, SS (gv ad0 ln0 cp0 0) (gv ad1 ln1 cp1 0) q2 ∧ SS (gv ad2 ln2 cp2 0) (gv ad3 ln3 cp3 0) q1 ∧ Hid (∀ W u v q, SS u v q → JT W → Calls Tryz.prog 15 #[u, v] W fun e W' => e = .returned (.bool q) ∧ JT W' ∧ W'.cell? ⟨K5, 0, none⟩ = some (.slice ad0 ln0 cp0) ∧ W'.cell? ⟨K5, 1, none⟩ = some (.int .i64 0) ∧ W'.cell? ⟨K7, 0, none⟩ = some (.slice ad1 ln1 cp1) ∧ W'.cell? ⟨K7, 1, none⟩ = some (.int .i64 0) ∧ W'.cell? ⟨K9, 0, none⟩ = some (.slice ad2 ln2 cp2) ∧ W'.cell? ⟨K9, 1, none⟩ = some (.int .i64 0) ∧ W'.cell? ⟨K11, 0, none⟩ = some (.slice ad3 ln3 cp3) ∧ W'.cell? ⟨K11, 1, none⟩ = some (.int .i64 0) ∧ W'.cell? ⟨K13, 1, none⟩ = some (.bool q1) ∧ W'.cell? ⟨K13, 2, none⟩ = some (.bool q2)) :=
      ⟨fun u v q => ∀ W, JT W → ∃ g g', GrV W u g ∧ GrV W v g' ∧ (q = true ↔ g = g'), fun W h => ⟨gA, gB, (((hJT.out _).1 h).1.2 (K5, .slice ad0 ln0 cp0, .int .i64 0, gA) (by simp)).2, (((hJT.out _).1 h).1.2 (K7, .slice ad1 ln1 cp1, .int .i64 0, gB) (by simp)).2, HQ2.out.2⟩, fun W h => ⟨sA, sB, (((hJT.out _).1 h).1.2 (K9, .slice ad2 ln2 cp2, .int .i64 0, sA) (by simp)).2, (((hJT.out _).1 h).1.2 (K11, .slice ad3 ln3 cp3, .int .i64 0, sB) (by simp)).2, HQ2.out.1⟩, fun W u v q hs hj => by
        obtain ⟨g, g', h1, h2, h3⟩ := hs W hj
        refine (gsame_any h1 h2).mono ?_
        rintro e W' ⟨p, rfl, h4, h5⟩
        have hpq : p = q := by
          have := h4.trans h3.symm
          cases p <;> cases q <;> simp_all
        subst hpq
        have h6 := (hJT.out _).1 hj
        have h7 := (hJT.out _).2 ⟨h6.1.later h5, h6.2.later h5⟩
        exact ⟨rfl, h7, ce h7⟩⟩
    have HA4 : Hid (∀ W, JT W → Calls Tryz.prog 10 #[] W fun e W' => e = .returned (.bool true) ∧ JT W' ∧ W'.cell? ⟨K5, 0, none⟩ = some (.slice ad0 ln0 cp0) ∧ W'.cell? ⟨K5, 1, none⟩ = some (.int .i64 0) ∧ W'.cell? ⟨K7, 0, none⟩ = some (.slice ad1 ln1 cp1) ∧ W'.cell? ⟨K7, 1, none⟩ = some (.int .i64 0) ∧ W'.cell? ⟨K9, 0, none⟩ = some (.slice ad2 ln2 cp2) ∧ W'.cell? ⟨K9, 1, none⟩ = some (.int .i64 0) ∧ W'.cell? ⟨K11, 0, none⟩ = some (.slice ad3 ln3 cp3) ∧ W'.cell? ⟨K11, 1, none⟩ = some (.int .i64 0) ∧ W'.cell? ⟨K13, 1, none⟩ = some (.bool q1) ∧ W'.cell? ⟨K13, 2, none⟩ = some (.bool q2)) := fun W hj => by
      have h6 := (hJT.out _).1 hj
      refine (HA3.out W h6.1.1.bl).mono ?_
      rintro e W' ⟨rfl, h5⟩
      have h7 := (hJT.out _).2 ⟨h6.1.later h5.out, h6.2.later h5.out⟩
      exact ⟨rfl, h7, ce h7⟩
    have j6 : JT W6 := (hJT.out _).2 C4.out
    have j7 : JT W6.drew := (hJT.out _).2 ⟨C4.out.1.later (Below.refl _ _).drew, C4.out.2.later (Below.refl _ _).drew⟩
    obtain ⟨d0, d1, d2, d3, d4, d5, d6, d7, d8, d9⟩ := ce j6
    clear ce C4 HQ2 HCA HCB HSA HSB HAL
    cases q1 <;> cases q2
    · go_region_held3 (fun w' => JT w' ∧ w'.cell? ⟨K5, 0, none⟩ = some (.slice ad0 ln0 cp0) ∧ w'.cell? ⟨K5, 1, none⟩ = some (.int .i64 0) ∧ w'.cell? ⟨K7, 0, none⟩ = some (.slice ad1 ln1 cp1) ∧ w'.cell? ⟨K7, 1, none⟩ = some (.int .i64 0) ∧ w'.cell? ⟨K9, 0, none⟩ = some (.slice ad2 ln2 cp2) ∧ w'.cell? ⟨K9, 1, none⟩ = some (.int .i64 0) ∧ w'.cell? ⟨K11, 0, none⟩ = some (.slice ad3 ln3 cp3) ∧ w'.cell? ⟨K11, 1, none⟩ = some (.int .i64 0) ∧ w'.cell? ⟨K13, 1, none⟩ = some (.bool false) ∧ w'.cell? ⟨K13, 2, none⟩ = some (.bool false)) (go_keep)
        (first | (go_at_call 15; refine (HS.out _ _ _ _ (by first | exact s1 | exact s2) (by assumption)).mono ?_; rintro e w7 ⟨rfl, j8, d0, d1, d2, d3, d4, d5, d6, d7, d8, d9⟩) | (go_at_call 10; refine (HA4.out _ (by assumption)).mono ?_; rintro e w9 ⟨rfl, j9, d0, d1, d2, d3, d4, d5, d6, d7, d8, d9⟩))
      go_wp2
      go_ret
      exact ⟨rfl, ((hJT.out _).1 j9).1.1.bl⟩
    · go_region_held3 (fun w' => JT w' ∧ w'.cell? ⟨K5, 0, none⟩ = some (.slice ad0 ln0 cp0) ∧ w'.cell? ⟨K5, 1, none⟩ = some (.int .i64 0) ∧ w'.cell? ⟨K7, 0, none⟩ = some (.slice ad1 ln1 cp1) ∧ w'.cell? ⟨K7, 1, none⟩ = some (.int .i64 0) ∧ w'.cell? ⟨K9, 0, none⟩ = some (.slice ad2 ln2 cp2) ∧ w'.cell? ⟨K9, 1, none⟩ = some (.int .i64 0) ∧ w'.cell? ⟨K11, 0, none⟩ = some (.slice ad3 ln3 cp3) ∧ w'.cell? ⟨K11, 1, none⟩ = some (.int .i64 0) ∧ w'.cell? ⟨K13, 1, none⟩ = some (.bool false) ∧ w'.cell? ⟨K13, 2, none⟩ = some (.bool true)) (go_keep)
        (first | (go_at_call 15; refine (HS.out _ _ _ _ (by first | exact s1 | exact s2) (by assumption)).mono ?_; rintro e w7 ⟨rfl, j8, d0, d1, d2, d3, d4, d5, d6, d7, d8, d9⟩) | (go_at_call 10; refine (HA4.out _ (by assumption)).mono ?_; rintro e w9 ⟨rfl, j9, d0, d1, d2, d3, d4, d5, d6, d7, d8, d9⟩))
      go_wp2
      go_ret
      exact ⟨rfl, ((hJT.out _).1 j9).1.1.bl⟩
    · go_region_held3 (fun w' => JT w' ∧ w'.cell? ⟨K5, 0, none⟩ = some (.slice ad0 ln0 cp0) ∧ w'.cell? ⟨K5, 1, none⟩ = some (.int .i64 0) ∧ w'.cell? ⟨K7, 0, none⟩ = some (.slice ad1 ln1 cp1) ∧ w'.cell? ⟨K7, 1, none⟩ = some (.int .i64 0) ∧ w'.cell? ⟨K9, 0, none⟩ = some (.slice ad2 ln2 cp2) ∧ w'.cell? ⟨K9, 1, none⟩ = some (.int .i64 0) ∧ w'.cell? ⟨K11, 0, none⟩ = some (.slice ad3 ln3 cp3) ∧ w'.cell? ⟨K11, 1, none⟩ = some (.int .i64 0) ∧ w'.cell? ⟨K13, 1, none⟩ = some (.bool true) ∧ w'.cell? ⟨K13, 2, none⟩ = some (.bool false)) (go_keep)
        (first | (go_at_call 15; refine (HS.out _ _ _ _ (by first | exact s1 | exact s2) (by assumption)).mono ?_; rintro e w7 ⟨rfl, j8, d0, d1, d2, d3, d4, d5, d6, d7, d8, d9⟩) | (go_at_call 10; refine (HA4.out _ (by assumption)).mono ?_; rintro e w9 ⟨rfl, j9, d0, d1, d2, d3, d4, d5, d6, d7, d8, d9⟩))
      go_wp2
      go_ret
      exact ⟨rfl, ((hJT.out _).1 j9).1.1.bl⟩
    · go_region_held3 (fun w' => JT w' ∧ w'.cell? ⟨K5, 0, none⟩ = some (.slice ad0 ln0 cp0) ∧ w'.cell? ⟨K5, 1, none⟩ = some (.int .i64 0) ∧ w'.cell? ⟨K7, 0, none⟩ = some (.slice ad1 ln1 cp1) ∧ w'.cell? ⟨K7, 1, none⟩ = some (.int .i64 0) ∧ w'.cell? ⟨K9, 0, none⟩ = some (.slice ad2 ln2 cp2) ∧ w'.cell? ⟨K9, 1, none⟩ = some (.int .i64 0) ∧ w'.cell? ⟨K11, 0, none⟩ = some (.slice ad3 ln3 cp3) ∧ w'.cell? ⟨K11, 1, none⟩ = some (.int .i64 0) ∧ w'.cell? ⟨K13, 1, none⟩ = some (.bool true) ∧ w'.cell? ⟨K13, 2, none⟩ = some (.bool true)) (go_keep)
        (first | (go_at_call 15; refine (HS.out _ _ _ _ (by first | exact s1 | exact s2) (by assumption)).mono ?_; rintro e w7 ⟨rfl, j8, d0, d1, d2, d3, d4, d5, d6, d7, d8, d9⟩) | (go_at_call 10; refine (HA4.out _ (by assumption)).mono ?_; rintro e w9 ⟨rfl, j9, d0, d1, d2, d3, d4, d5, d6, d7, d8, d9⟩))
      go_wp2
      go_ret
      exact ⟨rfl, ((hJT.out _).1 j9).1.1.bl⟩
theorem canons_walk (v : Value) (g : Gr) (u : Value) (h : Gr) (w : World) (hg : GrV w v g) (hh : GrV w u h) (hT : Tb w) : Calls Tryz.prog 5 #[v, u] w fun e w' => e = .returned (.bool true) ∧ Below w.heap.size w w' := by
  have hg' := hg
  have hh' := hh
  obtain ⟨ad, len, cap, rfl, h1, h2, h3, h4⟩ := hg'
  obtain ⟨ad', len', cap', rfl, k1, k2, k3, k4⟩ := hh'
  exact canons_core hg hh hT
end Go.Proofs.YtkggdjghjdakoaaGreatDoor.Alk
end
