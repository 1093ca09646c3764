/- IsoWithin, the walk. -/
import Derived.Test.YtkggdjghjdakoaaGreatDoorIbF
import Derived.Test.YtkggdjghjdakoaaGreatDoorIbH
namespace Go.Proofs.YtkggdjghjdakoaaGreatDoor.Alk
open Utf Rws Pln Flw Grp
open Go.RowKit Go.Shelf
set_option linter.unusedSimpArgs false
set_option linter.unusedVariables false
set_option maxRecDepth 100000
set_option maxHeartbeats 4000000
attribute [local go_sem ↓] Go.wp_at_zero Go.wp_at_succ


/-- alike in Kids as they rise: as much is reached -/
theorem lk_reach {nsa nsb : List Nd} {ra rb : Int} (hqa : rgG ⟨nsa, ra⟩ = true) (hqb : rgG ⟨nsb, rb⟩ = true) (h : LkP (lab (ris nsa)) (lab (ris nsb)) (kd (ris nsa)) (kd (ris nsb)) ra.toNat rb.toNat) : (odG nsa ra.toNat).length = (odG nsb rb.toNat).length := by
  obtain ⟨f1, f2, f3⟩ := rgG_facts hqa
  obtain ⟨g1, g2, g3⟩ := rgG_facts hqb
  obtain ⟨f4, f5, f6⟩ := rgG_facts (rg_ris hqa)
  obtain ⟨g4, g5, g6⟩ := rgG_facts (rg_ris hqb)
  obtain ⟨x, rfl, hx⟩ := isP_nat f2
  obtain ⟨y, rfl, hy⟩ := isP_nat g2
  rw [Int.toNat_natCast, Int.toNat_natCast] at *
  rw [← od_ris_len (rg_evn hqa) f3 hx, ← od_ris_len (rg_evn hqb) g3 hy, od_eq, od_eq]
  exact lk_len (kd_lt f6 rfl) (kd_lt g6 rfl) (by rw [ris_len]; exact hx) (by rw [ris_len]; exact hy) h
theorem within_core {w : World} {ada adb : Option Addr} {n m capa capb : Nat} {ra rb : Int} {nsa nsb : List Nd} (hga : GrV w (gv ada n capa ra) ⟨nsa, ra⟩) (hgb : GrV w (gv adb m capb rb) ⟨nsb, rb⟩) (hT : Tb w) :
    Calls Tryz.prog 4 #[gv ada n capa ra, gv adb m capb rb] w fun e w' => e = .returned (.bool true) ∧ Below w.heap.size w w' := by
  have h0 : Hid (TwS w _ w.heap.size (w.heap.size + 1) (.slice ada n capa) (.int .i64 ra) (.slice adb m capb) (.int .i64 rb)) := TwS.new w (.slice ada n capa) (.int .i64 ra) (.slice adb m capb) (.int .i64 rb)
  obtain ⟨K1, HK1⟩ : ∃ K1, Hid (K1 = w.heap.size + 1) := ⟨_, rfl⟩
  obtain ⟨K0, HK0⟩ : ∃ K0, Hid (K0 = w.heap.size) := ⟨_, rfl⟩
  obtain ⟨JS, hJS⟩ : ∃ JS : World → Prop, Hid (∀ w', JS w' ↔ TwS w w' K0 K1 (.slice ada n capa) (.int .i64 ra) (.slice adb m capb) (.int .i64 rb)) := ⟨fun w' => TwS w w' K0 K1 (.slice ada n capa) (.int .i64 ra) (.slice adb m capb) (.int .i64 rb), fun _ => Iff.rfl⟩
  have HA : Hid (∀ W, Below w.heap.size w W → Calls Tryz.prog 10 #[] W fun e W' => e = .returned (.bool true) ∧ Hid (Below w.heap.size w W')) := fun W b => (alive_any (hT.later b)).mono (fun e W' q => ⟨q.1, b.trans (q.2.mono b.size)⟩)
  obtain ⟨SL, sa, sb, HLG⟩ : ∃ SL : Value → Bool → Prop, SL (gv ada n capa ra) (lgB nsa) ∧ SL (gv adb m capb rb) (lgB nsb) ∧ Hid (∀ W v b, SL v b → JS W → Calls Tryz.prog 8 #[v] W fun e W' => e = .returned (.bool b) ∧ JS W' ∧ W'.cell? ⟨K0, 0, none⟩ = some (.slice ada n capa) ∧ W'.cell? ⟨K0, 1, none⟩ = some (.int .i64 ra) ∧ W'.cell? ⟨K1, 0, none⟩ = some (.slice adb m capb) ∧ W'.cell? ⟨K1, 1, none⟩ = some (.int .i64 rb)) :=
    ⟨fun v b => ∃ g, GrV w v g ∧ lgB g.nodes = b, ⟨_, hga, rfl⟩, ⟨_, hgb, rfl⟩, fun W v b hs hj => by
      obtain ⟨g, h1, h2⟩ := hs
      have ht := (hJS.out _).1 hj
      exact (large_any (h1.later ht.bl (Nat.le_refl _))).mono (fun e W' q => ⟨by rw [← h2]; exact q.1, (hJS.out _).2 (ht.later q.2), (ht.later q.2).ce⟩)⟩
  cases hla : lgB nsa
  case true =>
    rw [hla] at sa
    clear hT hga hgb
    go_enter Tryz.func4, Tryz.ntmps4
    go_wp2_with fail
    generalize (w.alloc (.cells #[.slice ada n capa, .int .i64 ra] 24)).alloc (.cells #[.slice adb m capb, .int .i64 rb] 24) = W0 at h0 ⊢
    rw [← HK1.out, ← HK0.out]
    rw [← HK1.out, ← HK0.out] at h0
    have j0 : JS W0 := (hJS.out _).2 h0.out
    clear h0 HK0 HK1
    refine (HLG.out _ _ _ sa j0).mono ?_
    rintro e w1 ⟨rfl, j1, c0, c1, c2, c3⟩
    go_wp2_with (first | (go_at_call 8; refine (HLG.out _ _ _ (by first | exact sa | exact sb) (by assumption)).mono ?_; rintro e w1 ⟨rfl, j1, c0, c1, c2, c3⟩) | (go_at_call 9; refine (HRG.out _ _ _ (by first | exact ta | exact tb) (by assumption)).mono ?_; rintro e w1 ⟨rfl, j1, c0, c1, c2, c3⟩) | (go_at_call 10; refine (HA.out _ (by first | exact ((hJS.out _).1 (by assumption)).bl)).mono ?_; rintro e w9 ⟨rfl, HZ⟩))
    go_ret
    exact ⟨rfl, HZ.out⟩
  case false =>
  cases hlb : lgB nsb
  case true =>
    rw [hla] at sa
    rw [hlb] at sb
    clear hT hga hgb
    go_enter Tryz.func4, Tryz.ntmps4
    go_wp2_with fail
    generalize (w.alloc (.cells #[.slice ada n capa, .int .i64 ra] 24)).alloc (.cells #[.slice adb m capb, .int .i64 rb] 24) = W0 at h0 ⊢
    rw [← HK1.out, ← HK0.out]
    rw [← HK1.out, ← HK0.out] at h0
    have j0 : JS W0 := (hJS.out _).2 h0.out
    clear h0 HK0 HK1
    refine (HLG.out _ _ _ sa j0).mono ?_
    rintro e w1 ⟨rfl, j1, c0, c1, c2, c3⟩
    go_wp2_with (first | (go_at_call 8; refine (HLG.out _ _ _ (by first | exact sa | exact sb) (by assumption)).mono ?_; rintro e w1 ⟨rfl, j1, c0, c1, c2, c3⟩) | (go_at_call 9; refine (HRG.out _ _ _ (by first | exact ta | exact tb) (by assumption)).mono ?_; rintro e w1 ⟨rfl, j1, c0, c1, c2, c3⟩) | (go_at_call 10; refine (HA.out _ (by first | exact ((hJS.out _).1 (by assumption)).bl)).mono ?_; rintro e w9 ⟨rfl, HZ⟩))
    go_ret
    exact ⟨rfl, HZ.out⟩
  case false =>
  have hSa := lgB_sml hla
  have hSb := lgB_sml hlb
  rw [hla] at sa
  rw [hlb] at sb
  obtain ⟨SR, ta, tb, HRG⟩ : ∃ SR : Value → Bool → Prop, SR (gv ada n capa ra) (rgG ⟨nsa, ra⟩) ∧ SR (gv adb m capb rb) (rgG ⟨nsb, rb⟩) ∧ Hid (∀ W v b, SR v b → JS W → Calls Tryz.prog 9 #[v] W fun e W' => e = .returned (.bool b) ∧ JS W' ∧ W'.cell? ⟨K0, 0, none⟩ = some (.slice ada n capa) ∧ W'.cell? ⟨K0, 1, none⟩ = some (.int .i64 ra) ∧ W'.cell? ⟨K1, 0, none⟩ = some (.slice adb m capb) ∧ W'.cell? ⟨K1, 1, none⟩ = some (.int .i64 rb)) :=
    ⟨fun v b => ∃ g, GrV w v g ∧ Sml g.nodes ∧ rgG g = b, ⟨_, hga, hSa, rfl⟩, ⟨_, hgb, hSb, rfl⟩, fun W v b hs hj => by
      obtain ⟨g, h1, h3, h2⟩ := hs
      have ht := (hJS.out _).1 hj
      exact (right_gr (h1.later ht.bl (Nat.le_refl _)) h3 (hT.later ht.bl)).mono (fun e W' q => ⟨by rw [← h2]; exact q.1, (hJS.out _).2 (ht.later q.2), (ht.later q.2).ce⟩)⟩
  cases hqa : rgG ⟨nsa, ra⟩
  case false =>
    rw [hqa] at ta
    clear hT hga hgb hSa hSb
    go_enter Tryz.func4, Tryz.ntmps4
    go_wp2_with fail
    generalize (w.alloc (.cells #[.slice ada n capa, .int .i64 ra] 24)).alloc (.cells #[.slice adb m capb, .int .i64 rb] 24) = W0 at h0 ⊢
    rw [← HK1.out, ← HK0.out]
    rw [← HK1.out, ← HK0.out] at h0
    have j0 : JS W0 := (hJS.out _).2 h0.out
    clear h0 HK0 HK1
    refine (HLG.out _ _ _ sa j0).mono ?_
    rintro e w1 ⟨rfl, j1, c0, c1, c2, c3⟩
    go_wp2_with (first | (go_at_call 8; refine (HLG.out _ _ _ (by first | exact sa | exact sb) (by assumption)).mono ?_; rintro e w1 ⟨rfl, j1, c0, c1, c2, c3⟩) | (go_at_call 9; refine (HRG.out _ _ _ (by first | exact ta | exact tb) (by assumption)).mono ?_; rintro e w1 ⟨rfl, j1, c0, c1, c2, c3⟩) | (go_at_call 10; refine (HA.out _ (by first | exact ((hJS.out _).1 (by assumption)).bl)).mono ?_; rintro e w9 ⟨rfl, HZ⟩))
    go_ret
    exact ⟨rfl, HZ.out⟩
  case true =>
  cases hqb : rgG ⟨nsb, rb⟩
  case false =>
    rw [hqa] at ta
    rw [hqb] at tb
    clear hT hga hgb hSa hSb
    go_enter Tryz.func4, Tryz.ntmps4
    go_wp2_with fail
    generalize (w.alloc (.cells #[.slice ada n capa, .int .i64 ra] 24)).alloc (.cells #[.slice adb m capb, .int .i64 rb] 24) = W0 at h0 ⊢
    rw [← HK1.out, ← HK0.out]
    rw [← HK1.out, ← HK0.out] at h0
    have j0 : JS W0 := (hJS.out _).2 h0.out
    clear h0 HK0 HK1
    refine (HLG.out _ _ _ sa j0).mono ?_
    rintro e w1 ⟨rfl, j1, c0, c1, c2, c3⟩
    go_wp2_with (first | (go_at_call 8; refine (HLG.out _ _ _ (by first | exact sa | exact sb) (by assumption)).mono ?_; rintro e w1 ⟨rfl, j1, c0, c1, c2, c3⟩) | (go_at_call 9; refine (HRG.out _ _ _ (by first | exact ta | exact tb) (by assumption)).mono ?_; rintro e w1 ⟨rfl, j1, c0, c1, c2, c3⟩) | (go_at_call 10; refine (HA.out _ (by first | exact ((hJS.out _).1 (by assumption)).bl)).mono ?_; rintro e w9 ⟨rfl, HZ⟩))
    go_ret
    exact ⟨rfl, HZ.out⟩
  case true =>
    rw [hqa] at ta
    rw [hqb] at tb
    have HAL : Hid (∀ W, JS W → Calls Tryz.prog 11 #[gv ada n capa ra, gv adb m capb rb] W fun e W' => ∃ q0 q1 q2 : Bool, e = .returned (.agg #[.bool q0, .bool q1, .bool q2]) ∧ Hid ((q2 = true → q1 = true) ∧ (q1 = true → q0 = true) ∧ (q1 = true → (odG nsa ra.toNat).length = (odG nsb rb.toNat).length)) ∧ JS W') := fun W hj => by
      have ht := (hJS.out _).1 hj
      refine (all_any (hga.later ht.bl (Nat.le_refl _)) (hgb.later ht.bl (Nat.le_refl _)) hSa hSb (hT.later ht.bl) hqa hqb).mono ?_
      rintro e W' ⟨q0, q1, q2, rfl, HQ, HB⟩
      obtain ⟨e0, e1, e2⟩ := HQ.out
      exact ⟨q0, q1, q2, rfl, ⟨fun h => e1.2 (lk_ris (rg_evn hqa) (rg_evn hqb) (e2.1 h)), fun h => e0.2 (e1.1 h).eqP, fun h => lk_reach hqa hqb (e1.1 h)⟩, (hJS.out _).2 (ht.later HB.out)⟩
    have HOR : Hid (∀ W, Below w.heap.size w W → Calls Tryz.prog 12 #[gv ada n capa ra] W (fun e W' => ∃ ad cap, e = .returned (.tuple #[.slice ad (odG nsa ra.toNat).length cap, .int .i64 0]) ∧ Below W.heap.size W W') ∧ Calls Tryz.prog 12 #[gv adb m capb rb] W (fun e W' => ∃ ad cap, e = .returned (.tuple #[.slice ad (odG nsb rb.toNat).length cap, .int .i64 0]) ∧ Below W.heap.size W W')) := fun W hb =>
      ⟨(order_any (hga.later hb (Nat.le_refl _)) hSa (hT.later hb)).mono (fun e W' q => by obtain ⟨q1, q2⟩ := q; rw [hqa, if_pos rfl] at q1; obtain ⟨ad, cap, e1, _⟩ := q1; exact ⟨ad, cap, e1, q2⟩), (order_any (hgb.later hb (Nat.le_refl _)) hSb (hT.later hb)).mono (fun e W' q => by obtain ⟨q1, q2⟩ := q; rw [hqb, if_pos rfl] at q1; obtain ⟨ad, cap, e1, _⟩ := q1; exact ⟨ad, cap, e1, q2⟩)⟩
    generalize (odG nsa ra.toNat).length = X at HAL HOR
    generalize (odG nsb rb.toNat).length = Y at HAL HOR
    clear hT hga hgb hSa hSb
    go_enter Tryz.func4, Tryz.ntmps4
    go_wp2_with fail
    generalize (w.alloc (.cells #[.slice ada n capa, .int .i64 ra] 24)).alloc (.cells #[.slice adb m capb, .int .i64 rb] 24) = W0 at h0 ⊢
    rw [← HK1.out, ← HK0.out]
    rw [← HK1.out, ← HK0.out] at h0
    have j0 : JS W0 := (hJS.out _).2 h0.out
    clear h0 HK0 HK1
    refine (HLG.out _ _ _ sa j0).mono ?_
    rintro e w1 ⟨rfl, j1, c0, c1, c2, c3⟩
    go_upto_region 4 with (first | (go_at_call 8; refine (HLG.out _ _ _ (by first | exact sa | exact sb) (by assumption)).mono ?_; rintro e w1 ⟨rfl, j1, c0, c1, c2, c3⟩) | (go_at_call 9; refine (HRG.out _ _ _ (by first | exact ta | exact tb) (by assumption)).mono ?_; rintro e w1 ⟨rfl, j1, c0, c1, c2, c3⟩) | (go_at_call 11; refine (HAL.out _ (by assumption)).mono ?_; rintro e w5 ⟨q0, q1, q2, rfl, HQ, j5⟩))
    have h5 := (hJS.out _).1 j5
    have x5 := below_alloc w5 (.cells #[.bool q0, .bool q1, .bool q2] 27)
    have HT6 : Hid (TwS w (w5.alloc (.cells #[.bool q0, .bool q1, .bool q2] 27)) K0 K1 (.slice ada n capa) (.int .i64 ra) (.slice adb m capb) (.int .i64 rb) ∧ Bx (w5.alloc (.cells #[.bool q0, .bool q1, .bool q2] 27)) w5.heap.size #[.bool q0, .bool q1, .bool q2] 27) := ⟨h5.later x5, Bx.new _ _ _⟩
    clear h5 x5
    generalize w5.alloc (.cells #[.bool q0, .bool q1, .bool q2] 27) = W6 at HT6 ⊢
    generalize w5.heap.size = K5 at HT6 ⊢
    clear j5 j1 j0 c0 c1 c2 c3
    obtain ⟨JT, hJT⟩ : ∃ JT : World → Prop, Hid (∀ w', JT w' ↔ (TwS w w' K0 K1 (.slice ada n capa) (.int .i64 ra) (.slice adb m capb) (.int .i64 rb) ∧ Bx w' K5 #[.bool q0, .bool q1, .bool q2] 27)) := ⟨fun w' => (TwS w w' K0 K1 (.slice ada n capa) (.int .i64 ra) (.slice adb m capb) (.int .i64 rb) ∧ Bx w' K5 #[.bool q0, .bool q1, .bool q2] 27), fun _ => Iff.rfl⟩
    have ce : ∀ {W'}, JT W' → W'.cell? ⟨K0, 0, none⟩ = some (.slice ada n capa) ∧ W'.cell? ⟨K0, 1, none⟩ = some (.int .i64 ra) ∧ W'.cell? ⟨K1, 0, none⟩ = some (.slice adb m capb) ∧ W'.cell? ⟨K1, 1, none⟩ = some (.int .i64 rb) ∧ W'.cell? ⟨K5, 0, none⟩ = some (.bool q0) ∧ W'.cell? ⟨K5, 1, none⟩ = some (.bool q1) ∧ W'.cell? ⟨K5, 2, none⟩ = some (.bool q2) := fun {W'} h => by
      obtain ⟨h1, h2⟩ := (hJT.out _).1 h
      exact ⟨h1.a.cell 0, h1.a.cell 1, h1.b.cell 0, h1.b.cell 1, h2.cell 0, h2.cell 1, h2.cell 2⟩
    obtain ⟨SO, oa, ob, HO⟩ : ∃ SO : Value → Nat → Prop, SO (gv ada n capa ra) X ∧ SO (gv adb m capb rb) Y ∧ Hid (∀ W v k, SO v k → JT W → Calls Tryz.prog 12 #[v] W fun e W' => ∃ ad cap, e = .returned (.tuple #[.slice ad k cap, .int .i64 0]) ∧ JT W' ∧ W'.cell? ⟨K0, 0, none⟩ = some (.slice ada n capa) ∧ W'.cell? ⟨K0, 1, none⟩ = some (.int .i64 ra) ∧ W'.cell? ⟨K1, 0, none⟩ = some (.slice adb m capb) ∧ W'.cell? ⟨K1, 1, none⟩ = some (.int .i64 rb) ∧ W'.cell? ⟨K5, 0, none⟩ = some (.bool q0) ∧ W'.cell? ⟨K5, 1, none⟩ = some (.bool q1) ∧ W'.cell? ⟨K5, 2, none⟩ = some (.bool q2)) :=
      ⟨fun v k => ∀ W, Below w.heap.size w W → Calls Tryz.prog 12 #[v] W (fun e W' => ∃ ad cap, e = .returned (.tuple #[.slice ad k cap, .int .i64 0]) ∧ Below W.heap.size W W'), fun W hb => (HOR.out W hb).1, fun W hb => (HOR.out W hb).2, fun W v k hs hj => by
        obtain ⟨h1, h2⟩ := (hJT.out _).1 hj
        refine (hs W h1.bl).mono ?_
        rintro e W' ⟨ad, cap, rfl, hb⟩
        have h3 := (hJT.out _).2 ⟨h1.later hb, h2.later hb⟩
        exact ⟨ad, cap, rfl, h3, ce h3⟩⟩
    have j6 : JT W6 := (hJT.out _).2 HT6.out
    obtain ⟨d0, d1, d2, d3, f0, f1, f2⟩ := ce j6
    clear ce HT6 HOR
    have hq : (q0 = true ∧ q1 = true ∧ q2 = true ∧ X = Y) ∨ (q0 = true ∧ q1 = true ∧ q2 = false ∧ X = Y) ∨ (q1 = false ∧ q2 = false) := by
      obtain ⟨p1, p2, p3⟩ := HQ.out
      cases q1
      · cases q2
        · exact .inr (.inr ⟨rfl, rfl⟩)
        · exact absurd (p1 rfl) (by decide)
      · cases q2
        · exact .inr (.inl ⟨p2 rfl, rfl, rfl, p3 rfl⟩)
        · exact .inl ⟨p2 rfl, rfl, rfl, p3 rfl⟩
    clear HQ
    rcases hq with ⟨rfl, rfl, rfl, rfl⟩ | ⟨rfl, rfl, rfl, rfl⟩ | ⟨rfl, rfl⟩
    all_goals
      go_wp2_with (first | (go_at_call 12; refine (HO.out _ _ _ (by first | exact oa | exact ob) (by assumption)).mono ?_; rintro e w7 ⟨ad7, cap7, rfl, j7, d0, d1, d2, d3, f0, f1, f2⟩) | (go_at_call 10; refine (HA.out _ (by exact ((hJT.out _).1 (by assumption)).1.bl)).mono ?_; rintro e w9 ⟨rfl, HZ⟩))
      go_ret
      exact ⟨rfl, HZ.out⟩
theorem within_walk (v : Value) (g : Gr) (u : Value) (h : Gr) (w : World) (hg : GrV w v g) (hh : GrV w u h) (hT : Tb w) : Calls Tryz.prog 4 #[v, u] w fun e w' => e = .returned (.bool true) ∧ Below w.heap.size w w' := by
  have hg' := hg
  have hh' := hh
  obtain ⟨ad, len, cap, rfl, h1, h2, h3, h4⟩ := hg'
  obtain ⟨ad', len', cap', rfl, k1, k2, k3, k4⟩ := hh'
  exact within_core hg hh hT
end Go.Proofs.YtkggdjghjdakoaaGreatDoor.Alk
