/- slices.EqualFunc at nodes, and graph.Same, at any two. -/
import Derived.Test.YtkggdjghjdakoaaGreatDoorGraphSnd
import Derived.BigQuiet
import Derived.Deep.QuietTactic
namespace Go.Proofs.YtkggdjghjdakoaaGreatDoor.Grp
open Utf Rws Pln Flw
open Go.RowKit
set_option linter.unusedSimpArgs false
set_option linter.unusedVariables false
set_option maxRecDepth 100000
set_option maxHeartbeats 4000000

theorem eqN_iff (n m : Nd) : eqN n m = true ↔ n = m := by
  obtain ⟨k, x, l⟩ := n
  obtain ⟨k', x', l'⟩ := m
  unfold eqN eqI
  simp only [Bool.and_eq_true, decide_eq_true_iff, Nd.mk.injEq]
theorem take_nd {l m : List Nd} {k : Nat} (hk : k < l.length) (hm : k < m.length) (h : l.take k = m.take k) (e : l.getD k nd0 = m.getD k nd0) : l.take (k + 1) = m.take (k + 1) := by
  rw [List.getD_eq_getElem?_getD, List.getD_eq_getElem?_getD, List.getElem?_eq_getElem hk, List.getElem?_eq_getElem hm] at e
  have e2 : l[k] = m[k] := e
  rw [List.take_succ_eq_append_getElem hk, List.take_succ_eq_append_getElem hm, h, e2]
theorem eqf_nodes (ad ad' : Option Addr) (len len' cap cap' : Nat) (w : World) (hl : len ≤ 9223372036854775807) (hl' : len' ≤ 9223372036854775807) (ns ns' : List Nd)
    (HK : Hid (NAt w ad len ns)) (HK' : Hid (NAt w ad' len' ns')) :
    Calls Tryz.prog 29 #[.slice ad len cap, .slice ad' len' cap', .func (.func 30) #[] #[]] w
      fun e w' => ∃ q : Bool, e = .returned (.bool q) ∧ (q = true ↔ ns = ns') ∧ Below w.heap.size w w' := by
  by_cases h4 : len = len'
  · subst h4
    go_enter Tryz.func29, Tryz.ntmps29
    go_wp2
    go_loopw [17] (fun i wr => ∃ n : Nat, n ≤ len ∧ i = .int .i64 n ∧ ns.take n = ns'.take n ∧ Below w.heap.size w wr) (fun i _ => len - (intOf i).toNat)
    case atStart => exact ⟨0, Nat.zero_le _, rfl, rfl, Below.refl _ _⟩
    case round =>
      obtain ⟨n, hn, rfl, ht, hbe⟩ := hrel
      have HT : Hid (ns.take n = ns'.take n) := ht
      have HBW : Hid (Below w.heap.size w wr) := hbe
      clear ht hbe
      by_cases hlt : n < len
      · obtain ⟨b, off, rfl, hb, hc⟩ := HK.out.2 (by omega)
        obtain ⟨b', off', rfl, hb', hc'⟩ := HK'.out.2 (by omega)
        obtain ⟨ka, kl, kc, q1, q2, _, _, qI, x0, x1, x2⟩ := hc n hlt
        obtain ⟨ka', kl', kc', q1', q2', _, _, qI', z0, z1, z2⟩ := hc' n hlt
        have hkl : kl ≤ 9223372036854775807 := by have : maxLen = 9223372036854775807 := rfl; omega
        have hkl' : kl' ≤ 9223372036854775807 := by have : maxLen = 9223372036854775807 := rfl; omega
        obtain ⟨nd, HND⟩ : ∃ nd, Hid (nd = ns.getD n nd0) := ⟨_, rfl⟩
        obtain ⟨md, HMD⟩ : ∃ md, Hid (md = ns'.getD n nd0) := ⟨_, rfl⟩
        rw [← HND.out] at x0 x1 qI
        rw [← HMD.out] at z0 z1 qI'
        obtain ⟨k1, s1, l1⟩ := nd
        obtain ⟨k2, s2, l2⟩ := md
        simp only at x0 x1 z0 z1 qI qI'
        have HX : Hid (IAt w ka kl l1) := qI
        have HY : Hid (IAt w ka' kl' l2) := qI'
        replace x0 := (HBW.out.cell (p := ⟨b, off + n * 3, none⟩) hb).trans x0
        replace x1 := (HBW.out.cell (p := ⟨b, off + n * 3 + 1, none⟩) hb).trans x1
        replace x2 := (HBW.out.cell (p := ⟨b, off + n * 3 + 2, none⟩) hb).trans x2
        have HBA : Hid (Below w.heap.size w (wr.alloc (.cells #[.int .i64 k1, .string (mk s1), .slice ka kl kc] 38))) := HBW.out.alloc HBW.out.size _
        replace z0 := (HBA.out.cell (p := ⟨b', off' + n * 3, none⟩) hb').trans z0
        replace z1 := (HBA.out.cell (p := ⟨b', off' + n * 3 + 1, none⟩) hb').trans z1
        replace z2 := (HBA.out.cell (p := ⟨b', off' + n * 3 + 2, none⟩) hb').trans z2
        have HC : Hid (Calls Tryz.prog 30 #[.agg #[.int .i64 k1, .string (mk s1), .slice ka kl kc], .agg #[.int .i64 k2, .string (mk s2), .slice ka' kl' kc']] ((wr.alloc (.cells #[.int .i64 k1, .string (mk s1), .slice ka kl kc] 38)).alloc (.cells #[.int .i64 k2, .string (mk s2), .slice ka' kl' kc'] 38)) fun e w' => ∃ q : Bool, e = .returned (.bool q) ∧ Hid (q = true ↔ ns.getD n nd0 = ns'.getD n nd0) ∧ Hid (Below w.heap.size w w')) := by
          have b1 := HBA.out.alloc HBA.out.size (.cells #[.int .i64 k2, .string (mk s2), .slice ka' kl' kc'] 38)
          refine (sameNode_any (HX.out.later b1 (Nat.le_refl _)) (HY.out.later b1 (Nat.le_refl _)) hkl hkl').mono ?_
          rintro e w' ⟨rfl, hb⟩
          refine ⟨_, rfl, ?_, b1.trans (hb.mono b1.size)⟩
          rw [← HND.out, ← HMD.out]
          exact eqN_iff _ _
        clear hc hc' qI qI' HX HY HND HMD q1 q2 q1' q2'
        go_wp2_with fail
        refine HC.out.mono ?_
        rintro e w2 ⟨q, rfl, hq, hbw2⟩
        cases q
        · go_wp2
          go_ret
          exact ⟨false, rfl, ⟨fun h => (by cases h), fun h => absurd (hq.out.2 (by rw [h])) (by decide)⟩, hbw2.out⟩
        · go_wp2
          go_roundw
          case rel => exact ⟨n + 1, by omega, by go_num, take_nd (by have := HK.out.1; omega) (by have := HK'.out.1; omega) HT.out (hq.out.1 (by first | rfl | trivial)), hbw2.out⟩
          case measure => simp [intOf]; omega
      · have HE : Hid (ns = ns') := by
          have h := HT.out
          have l1 := HK.out.1
          have l2 := HK'.out.1
          rw [List.take_of_length_le (by omega), List.take_of_length_le (by omega)] at h
          exact h
        go_wp2
        go_ret
        exact ⟨true, rfl, ⟨fun _ => HE.out, fun _ => rfl⟩, HBW.out⟩
  · have HP : Hid (¬ ns = ns') := fun h => h4 (by rw [HK.out.1, HK'.out.1, h])
    have hne' : ((len : Int) != (len' : Int)) = true := by simp; omega
    go_enter Tryz.func29, Tryz.ntmps29
    go_wp2
    all_goals first | contradiction | skip
    go_ret
    exact ⟨false, rfl, ⟨fun h => (by cases h), fun h => absurd h HP.out⟩, Below.refl _ _⟩
end Go.Proofs.YtkggdjghjdakoaaGreatDoor.Grp
