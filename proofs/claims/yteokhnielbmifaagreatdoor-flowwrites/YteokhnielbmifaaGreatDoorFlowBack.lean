/- The walk of FlowBack. -/
import Derived.Test.YteokhnielbmifaaGreatDoorFlowTwo
import Derived.Test.YteokhnielbmifaaGreatDoorFlowBrf
import Derived.Test.YteokhnielbmifaaGreatDoorFbX
import Derived.Test.YteokhnielbmifaaGreatDoorFbC
namespace Go.Proofs.YteokhnielbmifaaGreatDoor.Flw
open Utf Rws Pln
open Go.RowKit
set_option linter.unusedSimpArgs false
set_option linter.unusedVariables false
set_option maxRecDepth 100000
set_option maxHeartbeats 2000000

theorem rsame_yes {d d' : Nat} {v v' : Value} {t : Tr} {w : World} (h : TrV w d v t) (h' : TrV w d' v' t) : Calls Tryz.prog 15 #[v, v'] w fun e w' => e = .returned (.bool true) ∧ Hid (Below w.heap.size w w') :=
  (rsame_any d d' v v' t t w h h').mono (fun e w' g => by obtain ⟨q, e1, hq, hb⟩ := g; rw [hq.2 rfl] at e1; exact ⟨e1, hb⟩)
theorem rgh_yes {d : Nat} (hd : 64 < d) {t : Tr} (h : rgh d t = true) : rgt 64 t = true ∧ cntT 64 t ≤ 4096 := by
  rw [rgh_iff hd] at h
  simpa using h
theorem back_tree {d : Nat} {v : Value} {t : Tr} {w : World} (hd : 81 < d) (h : TrV w d v t) (hT : Tb w) :
    Calls Tryz.prog 4 #[v] w fun e w' => e = .returned (.bool true) ∧ Below w.heap.size w w' := by
  have HAL : Hid (∀ w0, Below w.heap.size w w0 → Calls Tryz.prog 9 #[] w0 fun e w' => e = .returned (.bool true) ∧ Hid (Below w.heap.size w w')) := fun w0 b => (alive_any (hT.later b)).mono (fun e w' h => ⟨h.1, b.trans (h.2.mono b.size)⟩)
  obtain ⟨ad, len, cap, hv⟩ := h.open4
  subst hv
  have HF : Hid (Calls Tryz.prog 8 #[.agg #[.int .i64 t.kind, .string (mk t.text), .string (mk t.anc), .slice ad len cap]] (w.alloc (.cells #[.int .i64 t.kind, .string (mk t.text), .string (mk t.anc), .slice ad len cap] 24)) fun e w' => ∃ q : Bool, e = .returned (.bool q) ∧ Hid (Below w.heap.size w w' ∧ Bx w' w.heap.size #[.int .i64 t.kind, .string (mk t.text), .string (mk t.anc), .slice ad len cap] 24 ∧ (q = false → fineT 81 t))) := by
    have b1 := below_alloc w (.cells #[.int .i64 t.kind, .string (mk t.text), .string (mk t.anc), .slice ad len cap] 24)
    exact (far_any d _ t _ (h.later b1 (Nat.le_refl _))).mono (fun e w' g => by obtain ⟨q, e1, hb, hq⟩ := g; exact ⟨q, e1, b1.trans (hb.mono b1.size), (Bx.new w _ _).later hb, fun hz => (hq hz).1⟩)
  have HV : Hid (TrV w d (.agg #[.int .i64 t.kind, .string (mk t.text), .string (mk t.anc), .slice ad len cap]) t) := h
  have HT : Hid (Tb w) := hT
  have HD : Hid (64 < d) := show 64 < d by omega
  clear h hT hd
  go_enter Tryz.func4, Tryz.ntmps4
  go_wp2_with fail
  refine HF.out.mono ?_
  rintro e w1 ⟨q, rfl, H1⟩
  have B1 : Hid (Below w.heap.size w w1) := H1.out.1
  cases q
  · have HBR : Hid (brief d t) := brief_of HV.out (H1.out.2.2 rfl)
    have V1 : Hid (TrV w1 d (.agg #[.int .i64 t.kind, .string (mk t.text), .string (mk t.anc), .slice ad len cap]) t) := HV.out.later B1.out (Nat.le_refl _)
    have b1 : Hid (Bx w1 w.heap.size #[.int .i64 t.kind, .string (mk t.text), .string (mk t.anc), .slice ad len cap] 24) := H1.out.2.1
    clear H1
    obtain ⟨K0, hK0⟩ : ∃ K0, K0 = w.heap.size := ⟨_, rfl⟩
    rw [← hK0] at b1 ⊢
    replace hK0 : Hid (K0 = w.heap.size) := hK0
    have c1 := b1.out
    have p0 : w1.cell? ⟨K0, 0, none⟩ = some (.int .i64 t.kind) := c1.cell 0
    have p1 : w1.cell? ⟨K0, 1, none⟩ = some (.string (mk t.text)) := c1.cell 1
    have p2 : w1.cell? ⟨K0, 2, none⟩ = some (.string (mk t.anc)) := c1.cell 2
    have p3 : w1.cell? ⟨K0, 3, none⟩ = some (.slice ad len cap) := c1.cell 3
    clear c1
    cases hr : rgh d t
    · have HW : Hid (Calls Tryz.prog 10 #[.agg #[.int .i64 t.kind, .string (mk t.text), .string (mk t.anc), .slice ad len cap]] w1 fun e w' => e = .returned (.tuple #[.string (mk []), .int .i64 1]) ∧ Hid (Below w1.heap.size w1 w')) := write_no HBR.out V1.out (HT.out.later B1.out) hr
      have HR : Hid (∀ w2, Below w1.heap.size w1 w2 → Calls Tryz.prog 12 #[.agg #[.int .i64 t.kind, .string (mk t.text), .string (mk t.anc), .slice ad len cap]] w2 fun e w' => e = .returned (.bool false) ∧ Hid (Below w.heap.size w w')) := fun w2 b2 => by
        have b3 := B1.out.trans (b2.mono B1.out.size)
        exact (right_any HBR.out (V1.out.later b2 (Nat.le_refl _)) (HT.out.later b3)).mono (fun e w' g => ⟨by rw [g.1, hr], b3.trans (g.2.mono b3.size)⟩)
      clear hr HV HBR V1
      have hem : (mk []).toList.isEmpty = true := by rw [ByteArray.toList_eq, mk_data]; rfl
      go_wp2_with fail
      refine HW.out.mono ?_
      rintro e w2 ⟨rfl, H2⟩
      have c2 := b1.out.later H2.out
      have q0 : w2.cell? ⟨K0, 0, none⟩ = some (.int .i64 t.kind) := c2.cell 0
      have q1 : w2.cell? ⟨K0, 1, none⟩ = some (.string (mk t.text)) := c2.cell 1
      have q2 : w2.cell? ⟨K0, 2, none⟩ = some (.string (mk t.anc)) := c2.cell 2
      have q3 : w2.cell? ⟨K0, 3, none⟩ = some (.slice ad len cap) := c2.cell 3
      clear c2
      have HR2 := HR.out w2 H2.out
      go_wp2_with fail
      refine HR2.mono ?_
      rintro e w3 ⟨rfl, H3⟩
      go_wp2_with fail
      refine (HAL.out w3 H3.out).mono ?_
      rintro e w4 ⟨rfl, H4⟩
      go_wp2
      go_ret
      exact ⟨rfl, H4.out⟩
    · obtain ⟨hg, hc⟩ := rgh_yes HD.out hr
      have hfit := wrt_fit HBR.out hg hc
      have HW : Hid (Calls Tryz.prog 10 #[.agg #[.int .i64 t.kind, .string (mk t.text), .string (mk t.anc), .slice ad len cap]] w1 fun e w' => e = .returned (.tuple #[.string (mk (wrt 64 t)), .int .i64 0]) ∧ Hid (Below w1.heap.size w1 w')) := write_yes HBR.out V1.out (HT.out.later B1.out) HD.out hr hfit
      have hsz := mk_size (wrt 64 t)
      by_cases hl : 65536 < (wrt 64 t).length
      · have hwh : whole (wrt 64 t) = (tr0, 5, 0) := by unfold whole; rw [if_pos hl]
        have HWH : Hid (∀ w2, Below w.heap.size w w2 → Calls Tryz.prog 20 #[.string (mk (wrt 64 t))] w2 fun e w' => WhoIs w2 tr0 5 0 e w') := fun w2 b2 => whole_is (by omega) hwh w2 (HT.out.later b2)
        have he := eql_fault 5 5 0 0
        clear hr HV HBR V1 hg hc hwh
        generalize wrt 64 t = X at *
        go_wp2_with fail
        refine HW.out.mono ?_
        rintro e w2 ⟨rfl, H2⟩
        have B2 : Hid (Below w.heap.size w w2) := B1.out.trans (H2.out.mono B1.out.size)
        go_wp2_with fail
        refine (HWH.out w2 B2.out).mono ?_
        rintro e w3 ⟨ad0, len0, cap0, rfl, H3⟩
        have N0 : Hid (_ ∧ _ ∧ _) := two_new w3 #[.int .i64 tr0.kind, .string (mk tr0.text), .string (mk tr0.anc), .slice ad0 len0 cap0] #[.int .i64 5, .int .i64 0]
        have B3 : Hid (Below w.heap.size w w3) := B2.out.trans (H3.out.2.mono B2.out.size)
        go_upto_region 5 with fail
        generalize (w3.alloc (.cells #[.int .i64 tr0.kind, .string (mk tr0.text), .string (mk tr0.anc), .slice ad0 len0 cap0] 24)).alloc (.cells #[.int .i64 5, .int .i64 0] 37) = W4 at N0 ⊢
        have B4 : Hid (Below w.heap.size w W4) := B3.out.trans (N0.out.1.mono B3.out.size)
        have c4 := N0.out.2.2
        have q0 : W4.cell? ⟨w3.heap.size + 1, 0, none⟩ = some (.int .i64 5) := c4.cell 0
        have q1 : W4.cell? ⟨w3.heap.size + 1, 1, none⟩ = some (.int .i64 0) := c4.cell 1
        clear N0 c4
        generalize w3.heap.size + 1 = K2 at *
        generalize w3.heap.size = K1 at *
        go_wp2_with fail
        refine (HAL.out W4 B4.out).mono ?_
        rintro e w5 ⟨rfl, H5⟩
        go_wp2
        go_ret
        exact ⟨rfl, H5.out⟩
      · have hwh := whole_wrt t hg (by omega)
        have HWH : Hid (∀ w2, Below w.heap.size w w2 → Calls Tryz.prog 20 #[.string (mk (wrt 64 t))] w2 fun e w' => WhoIs w2 t 0 0 e w') := fun w2 b2 => whole_is (by omega) hwh w2 (HT.out.later b2)
        have he := eql_fault 0 0 0 0
        clear hr HV HBR hg hc hwh
        generalize wrt 64 t = X at *
        go_wp2_with fail
        refine HW.out.mono ?_
        rintro e w2 ⟨rfl, H2⟩
        have B2 : Hid (Below w.heap.size w w2) := B1.out.trans (H2.out.mono B1.out.size)
        replace b1 : Hid (Bx w2 K0 #[.int .i64 t.kind, .string (mk t.text), .string (mk t.anc), .slice ad len cap] 24) := b1.out.later H2.out
        replace V1 : Hid (TrV w2 d (.agg #[.int .i64 t.kind, .string (mk t.text), .string (mk t.anc), .slice ad len cap]) t) := V1.out.later H2.out (Nat.le_refl _)
        go_wp2_with fail
        refine (HWH.out w2 B2.out).mono ?_
        rintro e w3 ⟨ad0, len0, cap0, rfl, H3⟩
        have N0 : Hid (_ ∧ _ ∧ _) := two_new w3 #[.int .i64 t.kind, .string (mk t.text), .string (mk t.anc), .slice ad0 len0 cap0] #[.int .i64 0, .int .i64 0]
        have B3 : Hid (Below w.heap.size w w3) := B2.out.trans (H3.out.2.mono B2.out.size)
        go_upto_region 9 with fail
        generalize (w3.alloc (.cells #[.int .i64 t.kind, .string (mk t.text), .string (mk t.anc), .slice ad0 len0 cap0] 24)).alloc (.cells #[.int .i64 0, .int .i64 0] 37) = W4 at N0 ⊢
        have B4 : Hid (Below w.heap.size w W4) := B3.out.trans (N0.out.1.mono B3.out.size)
        have G4 : Hid (Below w2.heap.size w2 W4) := H3.out.2.trans (N0.out.1.mono H3.out.2.size)
        replace V1 : Hid (TrV W4 d (.agg #[.int .i64 t.kind, .string (mk t.text), .string (mk t.anc), .slice ad len cap]) t) := V1.out.later G4.out (Nat.le_refl _)
        have V2 : Hid (TrV W4 65 (.agg #[.int .i64 t.kind, .string (mk t.text), .string (mk t.anc), .slice ad0 len0 cap0]) t) := H3.out.1.later N0.out.1 (Nat.le_refl _)
        have c1 := b1.out.later G4.out
        have c3 := N0.out.2.1
        have c4 := N0.out.2.2
        have q0 : W4.cell? ⟨w3.heap.size + 1, 0, none⟩ = some (.int .i64 0) := c4.cell 0
        have q1 : W4.cell? ⟨w3.heap.size + 1, 1, none⟩ = some (.int .i64 0) := c4.cell 1
        have r0 : W4.cell? ⟨K0, 0, none⟩ = some (.int .i64 t.kind) := c1.cell 0
        have r1 : W4.cell? ⟨K0, 1, none⟩ = some (.string (mk t.text)) := c1.cell 1
        have r2 : W4.cell? ⟨K0, 2, none⟩ = some (.string (mk t.anc)) := c1.cell 2
        have r3 : W4.cell? ⟨K0, 3, none⟩ = some (.slice ad len cap) := c1.cell 3
        have s0 : W4.cell? ⟨w3.heap.size, 0, none⟩ = some (.int .i64 t.kind) := c3.cell 0
        have s1 : W4.cell? ⟨w3.heap.size, 1, none⟩ = some (.string (mk t.text)) := c3.cell 1
        have s2 : W4.cell? ⟨w3.heap.size, 2, none⟩ = some (.string (mk t.anc)) := c3.cell 2
        have s3 : W4.cell? ⟨w3.heap.size, 3, none⟩ = some (.slice ad0 len0 cap0) := c3.cell 3
        clear N0 c4 c1 c3 H3 G4 b1 B2 B3 H2
        generalize w3.heap.size + 1 = K2 at *
        generalize w3.heap.size = K1 at *
        have HS := rsame_yes V1.out V2.out
        go_wp2_with fail
        refine HS.mono ?_
        rintro e w5 ⟨rfl, H5⟩
        have B5 : Hid (Below w.heap.size w w5) := B4.out.trans (H5.out.mono B4.out.size)
        go_wp2_with fail
        refine (HAL.out w5 B5.out).mono ?_
        rintro e w6 ⟨rfl, H6⟩
        go_wp2
        go_ret
        exact ⟨rfl, H6.out⟩
  · clear HV
    go_wp2_with fail
    refine (HAL.out w1 B1.out).mono ?_
    rintro e w2 ⟨rfl, H2⟩
    go_wp2
    go_ret
    exact ⟨rfl, H2.out⟩
theorem back_walk (d : Nat) (v : Value) (t : Tr) (w : World) (h : TrV w d v t) (hT : Tb w) :
    Calls Tryz.prog 4 #[v] w fun e w' => e = .returned (.bool true) ∧ Below w.heap.size w w' := back_tree (d := d + 82) (by omega) (h.more (by omega)) hT

end Go.Proofs.YteokhnielbmifaaGreatDoor.Flw
