/- The walk of FlowDeep. -/
import Derived.Test.YteokhnielbmifaaGreatDoorFlowTwo
import Derived.Test.YteokhnielbmifaaGreatDoorFbD
namespace Go.Proofs.YteokhnielbmifaaGreatDoor.Flw
open Utf Rws Pln
open Go.RowKit
set_option linter.unusedSimpArgs false
set_option linter.unusedVariables false
set_option maxRecDepth 100000
set_option maxHeartbeats 2000000

theorem op_snoc (mp : Bool) (k : Nat) : mk (opens mp k) ++ mk (op mp) = mk (opens mp (k + 1)) := by rw [cat_mk, ← opens_snoc]
theorem cl_snoc (mp : Bool) (k : Nat) : mk (closs mp k) ++ mk [endOf mp] = mk (closs mp (k + 1)) := by rw [cat_mk]; congr 1; exact (List.replicate_succ' ..).symm
theorem op_size (mp : Bool) (k : Nat) (h : k ≤ 80) : (mk (opens mp k)).size ≤ 400 := by
  rw [mk_size, opens_len]
  cases mp <;> simp <;> omega
theorem nest_down {w : World} {mp : Bool} {i d : Nat} {v : Value} {L : Nat} (hL : L = if mp then 2 else 1) (h : TrV w (d + 1) v (nest mp (i + 1))) (h2 : mp = true ∨ 0 < i) :
    ∃ b off cap ad' len' cap', v = .agg #[.int .i64 (kindOf mp), .string (mk []), .string (mk []), .slice (some ⟨b, off, none⟩) L cap] ∧ L ≤ cap ∧ cap ≤ maxLen ∧ b < w.heap.size ∧
      w.cell? ⟨b, off + (L - 1) * 4, none⟩ = some (.int .i64 (nest mp i).kind) ∧ w.cell? ⟨b, off + (L - 1) * 4 + 1, none⟩ = some (.string (mk (nest mp i).text)) ∧ w.cell? ⟨b, off + (L - 1) * 4 + 2, none⟩ = some (.string (mk (nest mp i).anc)) ∧
      w.cell? ⟨b, off + (L - 1) * 4 + 3, none⟩ = some (.slice ad' len' cap') ∧ TrV w d (.agg #[.int .i64 (nest mp i).kind, .string (mk (nest mp i).text), .string (mk (nest mp i).anc), .slice ad' len' cap']) (nest mp i) := by
  obtain ⟨ad, len, cap, rfl, hl, hc, hm, hz, hk⟩ := h
  have hkid : (nest mp (i + 1)).kids.length = L ∧ (nest mp (i + 1)).kids.getD (L - 1) tr0 = nest mp i := by
    cases mp
    · have hi : i ≠ 0 := by rcases h2 with h | h; cases h; omega
      subst hL
      show (if i = 0 then [] else [nest false i]).length = 1 ∧ (if i = 0 then [] else [nest false i]).getD 0 tr0 = nest false i
      rw [if_neg hi]; exact ⟨rfl, rfl⟩
    · subst hL; exact ⟨rfl, rfl⟩
  have hLp : 0 < L := by rw [hL]; split <;> omega
  have hlen : len = L := hl.trans hkid.1
  subst hlen
  obtain ⟨b, off, rfl, hb, hcell⟩ := hk hLp
  obtain ⟨c0, c1, c2, c3, x0, x1, x2, x3, hx⟩ := hcell (len - 1) (by omega)
  rw [hkid.2] at hx
  obtain ⟨ad', len', cap', rfl, rfl, rfl, rfl⟩ := hx.four
  exact ⟨b, off, cap, ad', len', cap', rfl, hc, hm, hb, x0, x1, x2, x3, hx⟩
theorem nest_last {w : World} {d : Nat} {v : Value} (h : TrV w (d + 1) v (nest false 1)) : ∃ ad cap, v = .agg #[.int .i64 5, .string (mk []), .string (mk []), .slice ad 0 cap] := by
  obtain ⟨ad, len, cap, rfl, hl, hc, hm, hz, hk⟩ := h
  have : len = 0 := hl
  subst this
  exact ⟨ad, cap, rfl⟩
theorem cl_size (mp : Bool) (k : Nat) : (mk (closs mp k)).size = k := by rw [mk_size, List.length_replicate]

theorem deep_far_false (m : Int) (w : World) (h0 : 0 ≤ m) (h1 : m ≤ 255) (k : Nat) (hk : m % 80 = (k : Int)) (hk80 : k < 80) (hf : 64 ≤ k)
    (HAL : Hid (∀ w0, Below w.heap.size w w0 → Calls Tryz.prog 9 #[] w0 fun e w' => e = .returned (.bool true) ∧ Hid (Below w.heap.size w w')))
    (HW : Hid (∀ w0, Below w.heap.size w w0 → Calls Tryz.prog 20 #[.string (mk (opens false (k + 1)) ++ mk (closs false (k + 1)))] w0 fun e w' => WhoIs w0 tr0 10 64 e w')) :
    Calls Tryz.prog 7 #[.int .u8 m, .bool false] w fun e w' => e = .returned (.bool true) ∧ Below w.heap.size w w' := by
  have he := eql_fault 10 10 64 64
  go_enter Tryz.func7, Tryz.ntmps7
  go_wp2_with fail
  go_loop [6, 7, 17] (fun ua ub ui => ∃ j : Nat, j ≤ k + 1 ∧ ui = .int .i64 (j : Int) ∧ ua = .string (mk (opens false j)) ∧ ub = .string (mk (closs false j))) (fun _ _ ui => k + 1 - (intOf ui).toNat)
  case atStart => exact ⟨0, Nat.zero_le _, rfl, rfl, rfl⟩
  case round =>
    obtain ⟨j, hj, rfl, rfl, rfl⟩ := hrel
    have hrs := op_size false j (by omega)
    have hcs := cl_size false j
    by_cases hjl : j < k + 1
    · have hsp : mk (opens false j) ++ (⟨#[91]⟩ : ByteArray) = mk (opens false (j + 1)) := op_snoc false j
      have hsq : mk (closs false j) ++ (⟨#[93]⟩ : ByteArray) = mk (closs false (j + 1)) := cl_snoc false j
      have hone : (⟨#[91]⟩ : ByteArray).size = 1 := rfl
      have htwo : (⟨#[93]⟩ : ByteArray).size = 1 := rfl
      generalize mk (opens false j) = X at *
      generalize mk (closs false j) = Y at *
      go_wp2
      go_round
      case rel => exact ⟨j + 1, by omega, by go_num, by first | rfl | rw [hsp], by first | rfl | rw [hsq]⟩
      case measure => (simp [intOf] <;> omega)
    · obtain rfl : j = k + 1 := by omega
      generalize mk (opens false (k + 1)) = X at *
      generalize mk (closs false (k + 1)) = Y at *
      go_wp2_with fail
      refine (HW.out w (Below.refl _ _)).mono ?_
      rintro e w0 ⟨ad0, len0, cap0, rfl, H0⟩
      have N0 : Hid (_ ∧ _ ∧ _) := two_new w0 #[.int .i64 (tr0).kind, .string (mk (tr0).text), .string (mk (tr0).anc), .slice ad0 len0 cap0] #[.int .i64 10, .int .i64 64]
      go_upto_region 12 with fail
      generalize (w0.alloc (.cells #[.int .i64 (tr0).kind, .string (mk (tr0).text), .string (mk (tr0).anc), .slice ad0 len0 cap0] 24)).alloc (.cells #[.int .i64 10, .int .i64 64] 37) = W0 at N0 ⊢
      have B0 : Hid (Below w.heap.size w W0) := H0.out.2.trans (N0.out.1.mono H0.out.2.size)
      have c0 := N0.out.2.2
      have q0 : W0.cell? ⟨w0.heap.size + 1, 0, none⟩ = some (.int .i64 10) := c0.cell 0
      have q1 : W0.cell? ⟨w0.heap.size + 1, 1, none⟩ = some (.int .i64 64) := c0.cell 1
      clear N0 H0 c0
      generalize w0.heap.size + 1 = K1 at *
      generalize w0.heap.size = K0 at *
      go_wp2_with fail
      refine (HAL.out W0 B0.out).mono ?_
      rintro e w3 ⟨rfl, H3⟩
      go_wp2
      go_ret
      exact ⟨rfl, H3.out⟩

theorem deep_ok_false (m : Int) (w : World) (h0 : 0 ≤ m) (h1 : m ≤ 255) (k : Nat) (hk : m % 80 = (k : Int)) (hk80 : k < 80) (hf : k < 64)
    (HAL : Hid (∀ w0, Below w.heap.size w w0 → Calls Tryz.prog 9 #[] w0 fun e w' => e = .returned (.bool true) ∧ Hid (Below w.heap.size w w')))
    (HW : Hid (∀ w0, Below w.heap.size w w0 → Calls Tryz.prog 20 #[.string (mk (opens false (k + 1)) ++ mk (closs false (k + 1)))] w0 fun e w' => WhoIs w0 (nest false (k + 1)) 0 0 e w')) :
    Calls Tryz.prog 7 #[.int .u8 m, .bool false] w fun e w' => e = .returned (.bool true) ∧ Below w.heap.size w w' := by
  have he := eql_fault 0 0 0 0
  go_enter Tryz.func7, Tryz.ntmps7
  go_wp2_with fail
  go_loop [6, 7, 17] (fun ua ub ui => ∃ j : Nat, j ≤ k + 1 ∧ ui = .int .i64 (j : Int) ∧ ua = .string (mk (opens false j)) ∧ ub = .string (mk (closs false j))) (fun _ _ ui => k + 1 - (intOf ui).toNat)
  case atStart => exact ⟨0, Nat.zero_le _, rfl, rfl, rfl⟩
  case round =>
    obtain ⟨j, hj, rfl, rfl, rfl⟩ := hrel
    have hrs := op_size false j (by omega)
    have hcs := cl_size false j
    by_cases hjl : j < k + 1
    · have hsp : mk (opens false j) ++ (⟨#[91]⟩ : ByteArray) = mk (opens false (j + 1)) := op_snoc false j
      have hsq : mk (closs false j) ++ (⟨#[93]⟩ : ByteArray) = mk (closs false (j + 1)) := cl_snoc false j
      have hone : (⟨#[91]⟩ : ByteArray).size = 1 := rfl
      have htwo : (⟨#[93]⟩ : ByteArray).size = 1 := rfl
      generalize mk (opens false j) = X at *
      generalize mk (closs false j) = Y at *
      go_wp2
      go_round
      case rel => exact ⟨j + 1, by omega, by go_num, by first | rfl | rw [hsp], by first | rfl | rw [hsq]⟩
      case measure => (simp [intOf] <;> omega)
    · obtain rfl : j = k + 1 := by omega
      generalize mk (opens false (k + 1)) = X at *
      generalize mk (closs false (k + 1)) = Y at *
      go_wp2_with fail
      refine (HW.out w (Below.refl _ _)).mono ?_
      rintro e w0 ⟨ad0, len0, cap0, rfl, H0⟩
      have N0 : Hid (_ ∧ _ ∧ _) := two_new w0 #[.int .i64 (nest false (k + 1)).kind, .string (mk (nest false (k + 1)).text), .string (mk (nest false (k + 1)).anc), .slice ad0 len0 cap0] #[.int .i64 0, .int .i64 0]
      go_upto_region 12 with fail
      generalize (w0.alloc (.cells #[.int .i64 (nest false (k + 1)).kind, .string (mk (nest false (k + 1)).text), .string (mk (nest false (k + 1)).anc), .slice ad0 len0 cap0] 24)).alloc (.cells #[.int .i64 0, .int .i64 0] 37) = W0 at N0 ⊢
      have B0 : Hid (Below w.heap.size w W0) := H0.out.2.trans (N0.out.1.mono H0.out.2.size)
      have G0 : Hid (Below w0.heap.size w0 W0) := N0.out.1
      have V0 : Hid (TrV w0 65 (.agg #[.int .i64 (nest false (k + 1)).kind, .string (mk (nest false (k + 1)).text), .string (mk (nest false (k + 1)).anc), .slice ad0 len0 cap0]) (nest false (k + 1))) := H0.out.1
      have L0 : Hid (Bx W0 w0.heap.size #[.int .i64 (nest false (k + 1)).kind, .string (mk (nest false (k + 1)).text), .string (mk (nest false (k + 1)).anc), .slice ad0 len0 cap0] 24) := N0.out.2.1
      have L1 : Hid (Bx W0 (w0.heap.size + 1) #[.int .i64 0, .int .i64 0] 37) := N0.out.2.2
      have LB : Hid (Below w.heap.size w w0) := H0.out.2
      have hK : Hid (w0.heap.size + 1 ≠ w0.heap.size) := by show _ ≠ _; omega
      clear N0 H0
      obtain ⟨K1, hK1⟩ : ∃ K1, K1 = w0.heap.size + 1 := ⟨_, rfl⟩
      obtain ⟨K0, hK0⟩ : ∃ K0, K0 = w0.heap.size := ⟨_, rfl⟩
      rw [← hK1] at L1 hK ⊢
      rw [← hK0] at L0 hK ⊢
      replace hK0 : Hid (K0 = w0.heap.size) := hK0
      replace hK1 : Hid (K1 = w0.heap.size + 1) := hK1
      go_wp2_with fail
      go_loopw [47] (fun ui wr => ∃ (j : Nat) (T : Tr) (ad : Option Addr) (len cap : Nat), j ≤ k + 1 ∧ ui = .int .i64 (j : Int) ∧ Hid (Bx wr K0 #[.int .i64 T.kind, .string (mk T.text), .string (mk T.anc), .slice ad len cap] 24 ∧ Bx wr K1 #[.int .i64 0, .int .i64 0] 37 ∧ Below w0.heap.size w0 wr ∧
          (j ≤ k → T = nest false (k + 1 - j) ∧ TrV w0 65 (.agg #[.int .i64 T.kind, .string (mk T.text), .string (mk T.anc), .slice ad len cap]) T))) (fun ui _ => k + 1 - (intOf ui).toNat)
      case atStart => exact ⟨0, _, ad0, len0, cap0, Nat.zero_le _, rfl, L0.out, L1.out, G0.out, fun _ => ⟨rfl, V0.out⟩⟩
      case round =>
        obtain ⟨j, T, ad, len, cap, hj, rfl, HR⟩ := hrel
        have p0 : wr.cell? ⟨K0, 0, none⟩ = some (.int .i64 T.kind) := HR.out.1.cell 0
        have p1 : wr.cell? ⟨K0, 1, none⟩ = some (.string (mk T.text)) := HR.out.1.cell 1
        have p2 : wr.cell? ⟨K0, 2, none⟩ = some (.string (mk T.anc)) := HR.out.1.cell 2
        have p3 : wr.cell? ⟨K0, 3, none⟩ = some (.slice ad len cap) := HR.out.1.cell 3
        have z0 := HR.out.1.fz 0
        have z1 := HR.out.1.fz 1
        have z2 := HR.out.1.fz 2
        have z3 := HR.out.1.fz 3
        have q0 : wr.cell? ⟨K1, 0, none⟩ = some (.int .i64 0) := HR.out.2.1.cell 0
        have q1 : wr.cell? ⟨K1, 1, none⟩ = some (.int .i64 0) := HR.out.2.1.cell 1
        by_cases hjk : j < k + 1
        · obtain ⟨hT, hV⟩ := HR.out.2.2.2 (by omega)
          obtain ⟨i, hi⟩ : ∃ i, k + 1 - j = i + 1 := ⟨k - j, by omega⟩
          rw [hi] at hT
          have HI : Hid (k + 1 - j = i + 1) := hi
          clear hi
          subst hT
          rcases Nat.eq_zero_or_pos i with rfl | hip
          · obtain ⟨ad', cap', hv⟩ := nest_last hV
            simp only [Value.agg.injEq, Array.mk.injEq, List.cons.injEq, and_true, Value.slice.injEq, Value.int.injEq, true_and] at hv
            obtain ⟨hv0, _, _, rfl, rfl, rfl⟩ := hv
            rw [hv0] at p0
            have HN : Hid (∃ (T : Tr) (ad : Option Addr) (len cap : Nat), Hid (Bx (fill4 wr K0 (.int .i64 0) (.string ⟨#[]⟩) (.string ⟨#[]⟩) (.slice none 0 0)) K0 #[.int .i64 T.kind, .string (mk T.text), .string (mk T.anc), .slice ad len cap] 24 ∧ Bx (fill4 wr K0 (.int .i64 0) (.string ⟨#[]⟩) (.string ⟨#[]⟩) (.slice none 0 0)) K1 #[.int .i64 0, .int .i64 0] 37 ∧ Below w0.heap.size w0 (fill4 wr K0 (.int .i64 0) (.string ⟨#[]⟩) (.string ⟨#[]⟩) (.slice none 0 0)) ∧
                (j + 1 ≤ k → T = nest false (k + 1 - (j + 1)) ∧ TrV w0 65 (.agg #[.int .i64 T.kind, .string (mk T.text), .string (mk T.anc), .slice ad len cap]) T))) :=
              ⟨tr0, none, 0, 0, HR.out.1.fill4 rfl _ _ _ _, HR.out.2.1.fill4o hK.out _ _ _ _, below_fill4 HR.out.2.2.1 (by have := hK0.out; omega) _ _ _ _, fun h => absurd h (by have := HI.out; omega)⟩
            clear hV HR hv0
            go_wp2
            go_roundw
            case rel =>
              obtain ⟨T2, a2, l2, c2, h2⟩ := HN.out
              exact ⟨j + 1, T2, a2, l2, c2, by omega, by go_num, h2⟩
            case measure => (simp [intOf] <;> omega)
          · obtain ⟨b, off, cap', ad', len', cap'', hv, hc, hm, hb, y0, y1, y2, y3, hV'⟩ := nest_down (L := 1) rfl hV (.inr hip)
            simp only [Value.agg.injEq, Array.mk.injEq, List.cons.injEq, and_true, Value.slice.injEq, Value.int.injEq, true_and] at hv
            obtain ⟨hv0, _, _, rfl, rfl, rfl⟩ := hv
            have hm1 : maxLen = 9223372036854775807 := rfl
            have hbK : b ≠ K0 := by have := hK0.out; omega
            have r0 : wr.cell? ⟨b, off, none⟩ = some (.int .i64 (nest false i).kind) := (HR.out.2.2.1.cell (p := ⟨b, off + (1 - 1) * 4, none⟩) hb).trans y0
            have r1 : wr.cell? ⟨b, off + 1, none⟩ = some (.string (mk (nest false i).text)) := (HR.out.2.2.1.cell (p := ⟨b, off + (1 - 1) * 4 + 1, none⟩) hb).trans y1
            have r2 : wr.cell? ⟨b, off + 2, none⟩ = some (.string (mk (nest false i).anc)) := (HR.out.2.2.1.cell (p := ⟨b, off + (1 - 1) * 4 + 2, none⟩) hb).trans y2
            have r3 : wr.cell? ⟨b, off + 3, none⟩ = some (.slice ad' len' cap'') := (HR.out.2.2.1.cell (p := ⟨b, off + (1 - 1) * 4 + 3, none⟩) hb).trans y3
            rw [show kindOf false = 5 from rfl] at hv0
            rw [hv0] at p0
            have HN : Hid (∃ (T : Tr) (ad : Option Addr) (len cap : Nat), Hid (Bx (fill4 wr K0 (.int .i64 (nest false i).kind) (.string (mk (nest false i).text)) (.string (mk (nest false i).anc)) (.slice ad' len' cap'')) K0 #[.int .i64 T.kind, .string (mk T.text), .string (mk T.anc), .slice ad len cap] 24 ∧ Bx (fill4 wr K0 (.int .i64 (nest false i).kind) (.string (mk (nest false i).text)) (.string (mk (nest false i).anc)) (.slice ad' len' cap'')) K1 #[.int .i64 0, .int .i64 0] 37 ∧ Below w0.heap.size w0 (fill4 wr K0 (.int .i64 (nest false i).kind) (.string (mk (nest false i).text)) (.string (mk (nest false i).anc)) (.slice ad' len' cap'')) ∧
                (j + 1 ≤ k → T = nest false (k + 1 - (j + 1)) ∧ TrV w0 65 (.agg #[.int .i64 T.kind, .string (mk T.text), .string (mk T.anc), .slice ad len cap]) T))) :=
              ⟨nest false i, ad', len', cap'', HR.out.1.fill4 rfl _ _ _ _, HR.out.2.1.fill4o hK.out _ _ _ _, below_fill4 HR.out.2.2.1 (by have := hK0.out; omega) _ _ _ _, fun _ => ⟨congrArg _ (by have := HI.out; omega), hV'.more (by decide)⟩⟩
            clear hV hV' y0 y1 y2 y3 HR hv0
            generalize (nest false i).kind = kd at *
            generalize mk (nest false i).text = tx at *
            generalize mk (nest false i).anc = an at *
            go_wp2
            go_roundw
            case rel =>
              obtain ⟨T2, a2, l2, c2, h2⟩ := HN.out
              exact ⟨j + 1, T2, a2, l2, c2, by omega, by go_num, h2⟩
            case measure => (simp [intOf] <;> omega)
        · obtain rfl : j = k + 1 := by omega
          have HB : Hid (Below w.heap.size w wr) := LB.out.trans (HR.out.2.2.1.mono LB.out.size)
          clear HR p0 p1 p2 p3 z0 z1 z2 z3
          go_wp2_with fail
          refine (HAL.out wr HB.out).mono ?_
          rintro e w3 ⟨rfl, H3⟩
          go_wp2
          go_ret
          exact ⟨rfl, H3.out⟩

theorem deep_far_true (m : Int) (w : World) (h0 : 0 ≤ m) (h1 : m ≤ 255) (k : Nat) (hk : m % 80 = (k : Int)) (hk80 : k < 80) (hf : 64 ≤ k)
    (HAL : Hid (∀ w0, Below w.heap.size w w0 → Calls Tryz.prog 9 #[] w0 fun e w' => e = .returned (.bool true) ∧ Hid (Below w.heap.size w w')))
    (HW : Hid (∀ w0, Below w.heap.size w w0 → Calls Tryz.prog 20 #[.string (mk (opens true (k + 1)) ++ mk (closs true (k + 1)))] w0 fun e w' => WhoIs w0 tr0 10 256 e w')) :
    Calls Tryz.prog 7 #[.int .u8 m, .bool true] w fun e w' => e = .returned (.bool true) ∧ Below w.heap.size w w' := by
  have he := eql_fault 10 10 256 256
  go_enter Tryz.func7, Tryz.ntmps7
  go_wp2_with fail
  go_loop [6, 7, 17] (fun ua ub ui => ∃ j : Nat, j ≤ k + 1 ∧ ui = .int .i64 (j : Int) ∧ ua = .string (mk (opens true j)) ∧ ub = .string (mk (closs true j))) (fun _ _ ui => k + 1 - (intOf ui).toNat)
  case atStart => exact ⟨0, Nat.zero_le _, rfl, rfl, rfl⟩
  case round =>
    obtain ⟨j, hj, rfl, rfl, rfl⟩ := hrel
    have hrs := op_size true j (by omega)
    have hcs := cl_size true j
    by_cases hjl : j < k + 1
    · have hsp : mk (opens true j) ++ (⟨#[123, 97, 58, 32]⟩ : ByteArray) = mk (opens true (j + 1)) := op_snoc true j
      have hsq : mk (closs true j) ++ (⟨#[125]⟩ : ByteArray) = mk (closs true (j + 1)) := cl_snoc true j
      have hone : (⟨#[123, 97, 58, 32]⟩ : ByteArray).size = 4 := rfl
      have htwo : (⟨#[125]⟩ : ByteArray).size = 1 := rfl
      generalize mk (opens true j) = X at *
      generalize mk (closs true j) = Y at *
      go_wp2
      go_round
      case rel => exact ⟨j + 1, by omega, by go_num, by first | rfl | rw [hsp], by first | rfl | rw [hsq]⟩
      case measure => (simp [intOf] <;> omega)
    · obtain rfl : j = k + 1 := by omega
      generalize mk (opens true (k + 1)) = X at *
      generalize mk (closs true (k + 1)) = Y at *
      go_wp2_with fail
      refine (HW.out w (Below.refl _ _)).mono ?_
      rintro e w0 ⟨ad0, len0, cap0, rfl, H0⟩
      have N0 : Hid (_ ∧ _ ∧ _) := two_new w0 #[.int .i64 (tr0).kind, .string (mk (tr0).text), .string (mk (tr0).anc), .slice ad0 len0 cap0] #[.int .i64 10, .int .i64 256]
      go_upto_region 12 with fail
      generalize (w0.alloc (.cells #[.int .i64 (tr0).kind, .string (mk (tr0).text), .string (mk (tr0).anc), .slice ad0 len0 cap0] 24)).alloc (.cells #[.int .i64 10, .int .i64 256] 37) = W0 at N0 ⊢
      have B0 : Hid (Below w.heap.size w W0) := H0.out.2.trans (N0.out.1.mono H0.out.2.size)
      have c0 := N0.out.2.2
      have q0 : W0.cell? ⟨w0.heap.size + 1, 0, none⟩ = some (.int .i64 10) := c0.cell 0
      have q1 : W0.cell? ⟨w0.heap.size + 1, 1, none⟩ = some (.int .i64 256) := c0.cell 1
      clear N0 H0 c0
      generalize w0.heap.size + 1 = K1 at *
      generalize w0.heap.size = K0 at *
      go_wp2_with fail
      refine (HAL.out W0 B0.out).mono ?_
      rintro e w3 ⟨rfl, H3⟩
      go_wp2
      go_ret
      exact ⟨rfl, H3.out⟩

theorem deep_ok_true (m : Int) (w : World) (h0 : 0 ≤ m) (h1 : m ≤ 255) (k : Nat) (hk : m % 80 = (k : Int)) (hk80 : k < 80) (hf : k < 64)
    (HAL : Hid (∀ w0, Below w.heap.size w w0 → Calls Tryz.prog 9 #[] w0 fun e w' => e = .returned (.bool true) ∧ Hid (Below w.heap.size w w')))
    (HW : Hid (∀ w0, Below w.heap.size w w0 → Calls Tryz.prog 20 #[.string (mk (opens true (k + 1)) ++ mk (closs true (k + 1)))] w0 fun e w' => WhoIs w0 (nest true (k + 1)) 0 0 e w')) :
    Calls Tryz.prog 7 #[.int .u8 m, .bool true] w fun e w' => e = .returned (.bool true) ∧ Below w.heap.size w w' := by
  have he := eql_fault 0 0 0 0
  go_enter Tryz.func7, Tryz.ntmps7
  go_wp2_with fail
  go_loop [6, 7, 17] (fun ua ub ui => ∃ j : Nat, j ≤ k + 1 ∧ ui = .int .i64 (j : Int) ∧ ua = .string (mk (opens true j)) ∧ ub = .string (mk (closs true j))) (fun _ _ ui => k + 1 - (intOf ui).toNat)
  case atStart => exact ⟨0, Nat.zero_le _, rfl, rfl, rfl⟩
  case round =>
    obtain ⟨j, hj, rfl, rfl, rfl⟩ := hrel
    have hrs := op_size true j (by omega)
    have hcs := cl_size true j
    by_cases hjl : j < k + 1
    · have hsp : mk (opens true j) ++ (⟨#[123, 97, 58, 32]⟩ : ByteArray) = mk (opens true (j + 1)) := op_snoc true j
      have hsq : mk (closs true j) ++ (⟨#[125]⟩ : ByteArray) = mk (closs true (j + 1)) := cl_snoc true j
      have hone : (⟨#[123, 97, 58, 32]⟩ : ByteArray).size = 4 := rfl
      have htwo : (⟨#[125]⟩ : ByteArray).size = 1 := rfl
      generalize mk (opens true j) = X at *
      generalize mk (closs true j) = Y at *
      go_wp2
      go_round
      case rel => exact ⟨j + 1, by omega, by go_num, by first | rfl | rw [hsp], by first | rfl | rw [hsq]⟩
      case measure => (simp [intOf] <;> omega)
    · obtain rfl : j = k + 1 := by omega
      generalize mk (opens true (k + 1)) = X at *
      generalize mk (closs true (k + 1)) = Y at *
      go_wp2_with fail
      refine (HW.out w (Below.refl _ _)).mono ?_
      rintro e w0 ⟨ad0, len0, cap0, rfl, H0⟩
      have N0 : Hid (_ ∧ _ ∧ _) := two_new w0 #[.int .i64 (nest true (k + 1)).kind, .string (mk (nest true (k + 1)).text), .string (mk (nest true (k + 1)).anc), .slice ad0 len0 cap0] #[.int .i64 0, .int .i64 0]
      go_upto_region 12 with fail
      generalize (w0.alloc (.cells #[.int .i64 (nest true (k + 1)).kind, .string (mk (nest true (k + 1)).text), .string (mk (nest true (k + 1)).anc), .slice ad0 len0 cap0] 24)).alloc (.cells #[.int .i64 0, .int .i64 0] 37) = W0 at N0 ⊢
      have B0 : Hid (Below w.heap.size w W0) := H0.out.2.trans (N0.out.1.mono H0.out.2.size)
      have G0 : Hid (Below w0.heap.size w0 W0) := N0.out.1
      have V0 : Hid (TrV w0 65 (.agg #[.int .i64 (nest true (k + 1)).kind, .string (mk (nest true (k + 1)).text), .string (mk (nest true (k + 1)).anc), .slice ad0 len0 cap0]) (nest true (k + 1))) := H0.out.1
      have L0 : Hid (Bx W0 w0.heap.size #[.int .i64 (nest true (k + 1)).kind, .string (mk (nest true (k + 1)).text), .string (mk (nest true (k + 1)).anc), .slice ad0 len0 cap0] 24) := N0.out.2.1
      have L1 : Hid (Bx W0 (w0.heap.size + 1) #[.int .i64 0, .int .i64 0] 37) := N0.out.2.2
      have LB : Hid (Below w.heap.size w w0) := H0.out.2
      have hK : Hid (w0.heap.size + 1 ≠ w0.heap.size) := by show _ ≠ _; omega
      clear N0 H0
      obtain ⟨K1, hK1⟩ : ∃ K1, K1 = w0.heap.size + 1 := ⟨_, rfl⟩
      obtain ⟨K0, hK0⟩ : ∃ K0, K0 = w0.heap.size := ⟨_, rfl⟩
      rw [← hK1] at L1 hK ⊢
      rw [← hK0] at L0 hK ⊢
      replace hK0 : Hid (K0 = w0.heap.size) := hK0
      replace hK1 : Hid (K1 = w0.heap.size + 1) := hK1
      go_wp2_with fail
      go_loopw [47] (fun ui wr => ∃ (j : Nat) (T : Tr) (ad : Option Addr) (len cap : Nat), j ≤ k + 1 ∧ ui = .int .i64 (j : Int) ∧ Hid (Bx wr K0 #[.int .i64 T.kind, .string (mk T.text), .string (mk T.anc), .slice ad len cap] 24 ∧ Bx wr K1 #[.int .i64 0, .int .i64 0] 37 ∧ Below w0.heap.size w0 wr ∧
          (j ≤ k → T = nest true (k + 1 - j) ∧ TrV w0 65 (.agg #[.int .i64 T.kind, .string (mk T.text), .string (mk T.anc), .slice ad len cap]) T))) (fun ui _ => k + 1 - (intOf ui).toNat)
      case atStart => exact ⟨0, _, ad0, len0, cap0, Nat.zero_le _, rfl, L0.out, L1.out, G0.out, fun _ => ⟨rfl, V0.out⟩⟩
      case round =>
        obtain ⟨j, T, ad, len, cap, hj, rfl, HR⟩ := hrel
        have p0 : wr.cell? ⟨K0, 0, none⟩ = some (.int .i64 T.kind) := HR.out.1.cell 0
        have p1 : wr.cell? ⟨K0, 1, none⟩ = some (.string (mk T.text)) := HR.out.1.cell 1
        have p2 : wr.cell? ⟨K0, 2, none⟩ = some (.string (mk T.anc)) := HR.out.1.cell 2
        have p3 : wr.cell? ⟨K0, 3, none⟩ = some (.slice ad len cap) := HR.out.1.cell 3
        have z0 := HR.out.1.fz 0
        have z1 := HR.out.1.fz 1
        have z2 := HR.out.1.fz 2
        have z3 := HR.out.1.fz 3
        have q0 : wr.cell? ⟨K1, 0, none⟩ = some (.int .i64 0) := HR.out.2.1.cell 0
        have q1 : wr.cell? ⟨K1, 1, none⟩ = some (.int .i64 0) := HR.out.2.1.cell 1
        by_cases hjk : j < k + 1
        · obtain ⟨hT, hV⟩ := HR.out.2.2.2 (by omega)
          obtain ⟨i, hi⟩ : ∃ i, k + 1 - j = i + 1 := ⟨k - j, by omega⟩
          rw [hi] at hT
          have HI : Hid (k + 1 - j = i + 1) := hi
          clear hi
          subst hT
          skip
          · obtain ⟨b, off, cap', ad', len', cap'', hv, hc, hm, hb, y0, y1, y2, y3, hV'⟩ := nest_down (L := 2) rfl hV (.inl rfl)
            simp only [Value.agg.injEq, Array.mk.injEq, List.cons.injEq, and_true, Value.slice.injEq, Value.int.injEq, true_and] at hv
            obtain ⟨hv0, _, _, rfl, rfl, rfl⟩ := hv
            have hm1 : maxLen = 9223372036854775807 := rfl
            have hbK : b ≠ K0 := by have := hK0.out; omega
            have r0 : wr.cell? ⟨b, off + 4, none⟩ = some (.int .i64 (nest true i).kind) := (HR.out.2.2.1.cell (p := ⟨b, off + (2 - 1) * 4, none⟩) hb).trans y0
            have r1 : wr.cell? ⟨b, off + 4 + 1, none⟩ = some (.string (mk (nest true i).text)) := (HR.out.2.2.1.cell (p := ⟨b, off + (2 - 1) * 4 + 1, none⟩) hb).trans y1
            have r2 : wr.cell? ⟨b, off + 4 + 2, none⟩ = some (.string (mk (nest true i).anc)) := (HR.out.2.2.1.cell (p := ⟨b, off + (2 - 1) * 4 + 2, none⟩) hb).trans y2
            have r3 : wr.cell? ⟨b, off + 4 + 3, none⟩ = some (.slice ad' len' cap'') := (HR.out.2.2.1.cell (p := ⟨b, off + (2 - 1) * 4 + 3, none⟩) hb).trans y3
            rw [show kindOf true = 6 from rfl] at hv0
            rw [hv0] at p0
            have HN : Hid (∃ (T : Tr) (ad : Option Addr) (len cap : Nat), Hid (Bx (fill4 wr K0 (.int .i64 (nest true i).kind) (.string (mk (nest true i).text)) (.string (mk (nest true i).anc)) (.slice ad' len' cap'')) K0 #[.int .i64 T.kind, .string (mk T.text), .string (mk T.anc), .slice ad len cap] 24 ∧ Bx (fill4 wr K0 (.int .i64 (nest true i).kind) (.string (mk (nest true i).text)) (.string (mk (nest true i).anc)) (.slice ad' len' cap'')) K1 #[.int .i64 0, .int .i64 0] 37 ∧ Below w0.heap.size w0 (fill4 wr K0 (.int .i64 (nest true i).kind) (.string (mk (nest true i).text)) (.string (mk (nest true i).anc)) (.slice ad' len' cap'')) ∧
                (j + 1 ≤ k → T = nest true (k + 1 - (j + 1)) ∧ TrV w0 65 (.agg #[.int .i64 T.kind, .string (mk T.text), .string (mk T.anc), .slice ad len cap]) T))) :=
              ⟨nest true i, ad', len', cap'', HR.out.1.fill4 rfl _ _ _ _, HR.out.2.1.fill4o hK.out _ _ _ _, below_fill4 HR.out.2.2.1 (by have := hK0.out; omega) _ _ _ _, fun _ => ⟨congrArg _ (by have := HI.out; omega), hV'.more (by decide)⟩⟩
            clear hV hV' y0 y1 y2 y3 HR hv0
            generalize (nest true i).kind = kd at *
            generalize mk (nest true i).text = tx at *
            generalize mk (nest true i).anc = an at *
            go_wp2
            go_roundw
            case rel =>
              obtain ⟨T2, a2, l2, c2, h2⟩ := HN.out
              exact ⟨j + 1, T2, a2, l2, c2, by omega, by go_num, h2⟩
            case measure => (simp [intOf] <;> omega)
        · obtain rfl : j = k + 1 := by omega
          have HB : Hid (Below w.heap.size w wr) := LB.out.trans (HR.out.2.2.1.mono LB.out.size)
          clear HR p0 p1 p2 p3 z0 z1 z2 z3
          go_wp2_with fail
          refine (HAL.out wr HB.out).mono ?_
          rintro e w3 ⟨rfl, H3⟩
          go_wp2
          go_ret
          exact ⟨rfl, H3.out⟩

theorem deep_walk (m : Int) (mp : Bool) (w : World) (hm : (Lit.int .u8 m).wf = true) (hT : Tb w) :
    Calls Tryz.prog 7 #[.int .u8 m, .bool mp] w fun e w' => e = .returned (.bool true) ∧ Below w.heap.size w w' := by
  have hm1 := bounds_u8 hm
  have h0 : 0 ≤ m := by omega
  have h1 : m ≤ 255 := by omega
  obtain ⟨k, hk⟩ : ∃ k : Nat, m % 80 = (k : Int) := ⟨(m % 80).toNat, by omega⟩
  have hk80 : k < 80 := by omega
  have HAL : Hid (∀ w0, Below w.heap.size w w0 → Calls Tryz.prog 9 #[] w0 fun e w' => e = .returned (.bool true) ∧ Hid (Below w.heap.size w w')) := fun w0 b => (alive_any (hT.later b)).mono (fun e w' h => ⟨h.1, b.trans (h.2.mono b.size)⟩)
  have hd := whole_deep mp k hk80
  have hl : (opens mp (k + 1) ++ closs mp (k + 1)).length ≤ 9223372036854775807 := by
    rw [List.length_append, opens_len, List.length_replicate]
    cases mp <;> simp <;> omega
  by_cases hf : k < 64
  · rw [if_pos hf] at hd
    cases mp
    · exact deep_ok_false m w h0 h1 k hk hk80 hf HAL (fun w0 b => by rw [cat_mk]; exact whole_is hl hd w0 (hT.later b))
    · exact deep_ok_true m w h0 h1 k hk hk80 hf HAL (fun w0 b => by rw [cat_mk]; exact whole_is hl hd w0 (hT.later b))
  · rw [if_neg hf] at hd
    cases mp
    · exact deep_far_false m w h0 h1 k hk hk80 (by omega) HAL (fun w0 b => by rw [cat_mk]; exact whole_is hl hd w0 (hT.later b))
    · exact deep_far_true m w h0 h1 k hk hk80 (by omega) HAL (fun w0 b => by rw [cat_mk]; exact whole_is hl hd w0 (hT.later b))

end Go.Proofs.YteokhnielbmifaaGreatDoor.Flw
