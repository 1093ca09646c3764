/- Several texts as one: GraphEqI, GraphIn3, GraphSnd, GraphEqf, GraphGsm. -/
import Derived.Test.YtkggdjghjdakoaaGreatDoorIbH
import Derived.BigQuiet
import Derived.Deep.QuietTactic
section
/- The reference's Ints and slices.Equal of ints, at any two, by their contracts; what is not large is small in the document's sense. -/
namespace Go.Proofs.YtkggdjghjdakoaaGreatDoor.Grp
open Utf Rws Pln Flw
open Go.RowKit
set_option linter.unusedSimpArgs false
set_option linter.unusedVariables false
set_option maxRecDepth 100000
set_option maxHeartbeats 4000000

/-- two rows of ints are equal -/
def eqI (l m : List Int) : Bool := decide (l = m)
theorem eqI_len {l m : List Int} (h : l.length ≠ m.length) : eqI l m = false := by
  unfold eqI
  rw [decide_eq_false_iff_not]
  intro e
  exact h (congrArg List.length e)
theorem eqI_part {l m : List Int} {j : Nat} (h : l.getD j 0 ≠ m.getD j 0) : eqI l m = false := by
  unfold eqI
  rw [decide_eq_false_iff_not]
  intro e
  rw [e] at h
  exact h rfl
theorem eqI_all {l m : List Int} (hl : l.length = m.length) (h : ∀ i, i < l.length → l.getD i 0 = m.getD i 0) : eqI l m = true := by
  unfold eqI
  rw [decide_eq_true_iff]
  refine List.ext_getElem hl fun i h1 h2 => ?_
  have := h i h1
  rw [List.getD_eq_getElem?_getD, List.getD_eq_getElem?_getD, List.getElem?_eq_getElem h1, List.getElem?_eq_getElem h2] at this
  exact this
/-- two graphs' boxes -/
structure G2 (w W : World) (K0 K1 : Nat) (g0 g1 h0 h1 : Value) : Prop where
  g : Bx W K0 #[g0, g1] 24
  h : Bx W K1 #[h0, h1] 24
  bl : Below w.heap.size w W
theorem G2.later {w W W' : World} {K0 K1 : Nat} {g0 g1 h0 h1 : Value} (h : G2 w W K0 K1 g0 g1 h0 h1) (hb : Below W.heap.size W W') : G2 w W' K0 K1 g0 g1 h0 h1 := ⟨h.g.later hb, h.h.later hb, h.bl.trans (hb.mono h.bl.size)⟩
/-- and two nodes' -/
structure G4 (w W : World) (K0 K1 L0 L1 : Nat) (g0 g1 h0 h1 : Value) (n m : Array Value) : Prop where
  g : G2 w W K0 K1 g0 g1 h0 h1
  n : Bx W L0 n 38
  m : Bx W L1 m 38
theorem G2.two {w W : World} {K0 K1 : Nat} {g0 g1 h0 h1 : Value} (h : G2 w W K0 K1 g0 g1 h0 h1) (n m : Array Value) : Bx ((W.alloc (.cells n 38)).alloc (.cells m 38)).drew W.heap.size n 38 ∧ Bx ((W.alloc (.cells n 38)).alloc (.cells m 38)).drew (W.heap.size + 1) m 38 ∧ G2 w ((W.alloc (.cells n 38)).alloc (.cells m 38)).drew K0 K1 g0 g1 h0 h1 := by
  have b1 := below_alloc W (.cells n 38)
  have n1 := Bx.new W n 38
  have s1 : (W.alloc (.cells n 38)).heap.size = W.heap.size + 1 := World.size_alloc _ _
  have h1 := h.later b1
  generalize W.alloc (.cells n 38) = w1 at *
  have b2 := below_alloc w1 (.cells m 38)
  have n2 := Bx.new w1 m 38
  rw [s1] at n2
  have h2 := h1.later b2
  have n1 := n1.later b2
  exact ⟨n1, n2, ⟨h2.g, h2.h, h2.bl.drew⟩⟩
end Go.Proofs.YtkggdjghjdakoaaGreatDoor.Grp
end

section
/- slices.Equal of ints, at any two, by its contract. -/
namespace Go.Proofs.YtkggdjghjdakoaaGreatDoor.Grp
open Utf Rws Pln Flw
open Go.RowKit
set_option linter.unusedSimpArgs false
set_option linter.unusedVariables false
set_option maxRecDepth 100000
set_option maxHeartbeats 4000000

theorem equal_any {w : World} {ad ad' : Option Addr} {len cap len' cap' : Nat} {l l' : List Int} (h : IAt w ad len l) (h' : IAt w ad' len' l') (hl : len ≤ 9223372036854775807) (hl' : len' ≤ 9223372036854775807) :
    Calls Tryz.prog 42 #[.slice ad len cap, .slice ad' len' cap'] w fun e w' => e = .returned (.bool (eqI l l')) ∧ Below w.heap.size w w' := by
  obtain ⟨q, HQ⟩ : ∃ q, Hid (q = eqI l l') := ⟨_, rfl⟩
  rw [← HQ.out]
  by_cases hne : len = len'
  · subst hne
    have HA : Hid (IAt w ad len l) := h
    have HB : Hid (IAt w ad' len l') := h'
    clear h h'
    go_enter Tryz.func42, Tryz.ntmps42
    go_wp2_with fail
    go_loopw [13] (fun i wr => ∃ j : Nat, j ≤ len ∧ i = .int .i64 j ∧ Hid (∀ i, i < j → l.getD i 0 = l'.getD i 0) ∧ Hid (Below w.heap.size w wr)) (fun i _ => len - (intOf i).toNat)
    case atStart => exact ⟨0, Nat.zero_le _, rfl, fun i hi => absurd hi (Nat.not_lt_zero _), Below.refl _ _⟩
    case round =>
      obtain ⟨j, hj, rfl, HE, HW⟩ := hrel
      by_cases hlt : j < len
      · obtain ⟨b, off, rfl, hb, hc⟩ := HA.out.2 (by omega)
        obtain ⟨b', off', rfl, hb', hc'⟩ := HB.out.2 (by omega)
        have x0 := (HW.out.cell (p := ⟨b, off + j, none⟩) hb).trans (hc j hlt).2
        have x1 := (HW.out.cell (p := ⟨b', off' + j, none⟩) hb').trans (hc' j hlt).2
        clear hc hc'
        obtain ⟨a, HAE⟩ : ∃ a, Hid (a = l.getD j 0) := ⟨_, rfl⟩
        obtain ⟨c, HCE⟩ : ∃ c, Hid (c = l'.getD j 0) := ⟨_, rfl⟩
        rw [← HAE.out] at x0
        rw [← HCE.out] at x1
        by_cases hac : a = c
        · have HE2 : Hid (∀ i, i < j + 1 → l.getD i 0 = l'.getD i 0) := fun i hi => by
            rcases Nat.lt_or_ge i j with h | h
            · exact HE.out i h
            · have e : i = j := by omega
              rw [e, ← HAE.out, ← HCE.out, hac]
          subst hac
          clear HAE HCE
          go_wp2_with fail
          go_quiet (fail)
          go_wp2
          go_roundw
          case rel => exact ⟨j + 1, by omega, by go_num, HE2, below_drewN HW.out _⟩
          case measure => (simp [intOf] <;> omega)
        · have HQF : Hid (q = false) := HQ.out.trans (eqI_part (j := j) (by rw [← HAE.out, ← HCE.out]; exact hac))
          go_wp2_with fail
          go_quiet (fail)
          go_wp2
          go_ret
          exact ⟨by rw [HQF.out]; rfl, below_drewN HW.out _⟩
      · have hje : j = len := by omega
        have HQT : Hid (q = true) := HQ.out.trans (eqI_all (HA.out.1.symm.trans HB.out.1) (fun i hi => HE.out i (by rw [hje, HA.out.1]; exact hi)))
        clear hje
        go_wp2
        go_ret
        exact ⟨by rw [HQT.out]; rfl, HW.out⟩
  · have HQF : Hid (q = false) := HQ.out.trans (eqI_len (by rw [← h.1, ← h'.1]; exact hne))
    clear h h'
    go_enter Tryz.func42, Tryz.ntmps42
    go_wp2
    go_ret
    exact ⟨by rw [HQF.out]; rfl, Below.refl _ _⟩
end Go.Proofs.YtkggdjghjdakoaaGreatDoor.Grp
end

section
/- graph.sameNode, at any two, by its contract. -/
namespace Go.Proofs.YtkggdjghjdakoaaGreatDoor.Grp
open Utf Rws Pln Flw
open Go.RowKit
set_option linter.unusedSimpArgs false
set_option linter.unusedVariables false
set_option maxRecDepth 100000
set_option maxHeartbeats 4000000

/-- two nodes are equal -/
def eqN (n m : Nd) : Bool := decide (n.kind = m.kind) && (decide (n.text = m.text) && eqI n.kids m.kids)
theorem two_nodes (w : World) (n m : Array Value) : Bx ((w.alloc (.cells n 38)).alloc (.cells m 38)) w.heap.size n 38 ∧ Bx ((w.alloc (.cells n 38)).alloc (.cells m 38)) (w.heap.size + 1) m 38 ∧ Below w.heap.size w ((w.alloc (.cells n 38)).alloc (.cells m 38)) := by
  have b1 := below_alloc w (.cells n 38)
  have n1 := Bx.new w n 38
  have s1 : (w.alloc (.cells n 38)).heap.size = w.heap.size + 1 := World.size_alloc _ _
  have b2 := below_alloc (w.alloc (.cells n 38)) (.cells m 38)
  have n2 := Bx.new (w.alloc (.cells n 38)) m 38
  rw [s1] at n2
  exact ⟨n1.later b2, n2, b1.trans (b2.mono b1.size)⟩
theorem sameNode_any {w : World} {ad ad' : Option Addr} {len cap len' cap' : Nat} {k k' : Int} {x x' : Ln} {l l' : List Int} (h : IAt w ad len l) (h' : IAt w ad' len' l') (hl : len ≤ 9223372036854775807) (hl' : len' ≤ 9223372036854775807) :
    Calls Tryz.prog 30 #[.agg #[.int .i64 k, .string (mk x), .slice ad len cap], .agg #[.int .i64 k', .string (mk x'), .slice ad' len' cap']] w fun e w' => e = .returned (.bool (eqN ⟨k, x, l⟩ ⟨k', x', l'⟩)) ∧ Below w.heap.size w w' := by
  obtain ⟨q, HQ⟩ : ∃ q, Hid (q = eqN ⟨k, x, l⟩ ⟨k', x', l'⟩) := ⟨_, rfl⟩
  rw [← HQ.out]
  obtain ⟨n1, n2, B⟩ := two_nodes w #[.int .i64 k, .string (mk x), .slice ad len cap] #[.int .i64 k', .string (mk x'), .slice ad' len' cap']
  have HC : Hid (∀ W, Below w.heap.size w W → Calls Tryz.prog 42 #[.slice ad len cap, .slice ad' len' cap'] W fun e w' => e = .returned (.bool (eqI l l')) ∧ Hid (Below w.heap.size w w')) := fun W hW => (equal_any (h.later hW (Nat.le_refl _)) (h'.later hW (Nat.le_refl _)) hl hl').mono (fun e w' q => ⟨q.1, hW.trans (q.2.mono hW.size)⟩)
  have HB : Hid (Below w.heap.size w ((w.alloc (.cells #[.int .i64 k, .string (mk x), .slice ad len cap] 38)).alloc (.cells #[.int .i64 k', .string (mk x'), .slice ad' len' cap'] 38))) := B
  clear h h' B
  go_enter Tryz.func30, Tryz.ntmps30
  go_upto_region 1 with fail
  generalize (w.alloc (.cells #[.int .i64 k, .string (mk x), .slice ad len cap] 38)).alloc (.cells #[.int .i64 k', .string (mk x'), .slice ad' len' cap'] 38) = W0 at n1 n2 HB ⊢
  generalize w.heap.size + 1 = K1 at n1 n2 HB ⊢
  obtain ⟨K0, HK0⟩ : ∃ K0, Hid (K0 = w.heap.size) := ⟨_, rfl⟩
  rw [← HK0.out] at n1 ⊢
  obtain ⟨c0, c1, c2⟩ := n1.c3
  obtain ⟨d0, d1, d2⟩ := n2.c3
  by_cases hk : k = k'
  · subst hk
    by_cases hx : x = x'
    · subst hx
      have HQ2 : Hid (q = eqI l l') := by
        show _ = _
        rw [HQ.out]
        unfold eqN
        rw [decide_eq_true (rfl : k = k), decide_eq_true (rfl : x = x), Bool.true_and, Bool.true_and]
      have HC0 : Hid (Calls Tryz.prog 42 #[.slice ad len cap, .slice ad' len' cap'] W0 fun e w' => e = .returned (.bool q) ∧ Hid (Below w.heap.size w w')) := by
        show Calls _ _ _ _ _
        rw [HQ2.out]
        exact HC.out _ HB.out
      clear HC HQ HQ2 n1 n2
      go_wp2_with (go_at_call 42; refine HC0.out.mono ?_; rintro e w3 ⟨rfl, H3⟩)
      go_ret
      exact ⟨rfl, H3.out⟩
    · have HQF : Hid (q = false) := by
        show _ = _
        rw [HQ.out]
        unfold eqN
        rw [decide_eq_false (show ¬ x = x' from hx), Bool.false_and, Bool.and_false]
      have hx3 : ((mk x).toList == (mk x').toList) = false := by
        rw [ByteArray.toList_eq, ByteArray.toList_eq, mk_data, mk_data]
        exact beq_false_of_ne hx
      clear HC HQ n1 n2 hx
      go_wp2
      go_ret
      exact ⟨by rw [HQF.out]; rfl, HB.out⟩
  · have HQF : Hid (q = false) := by
      show _ = _
      rw [HQ.out]
      unfold eqN
      rw [decide_eq_false (show ¬ k = k' from hk), Bool.false_and]
    clear HC HQ n1 n2
    go_wp2
    go_ret
    exact ⟨by rw [HQF.out]; rfl, HB.out⟩
end Go.Proofs.YtkggdjghjdakoaaGreatDoor.Grp
end

section
/- slices.EqualFunc at nodes, and graph.Same, at any two. -/
namespace Go.Proofs.YtkggdjghjdakoaaGreatDoor.Grp
open Utf Rws Pln Flw
open Go.RowKit
set_option linter.unusedSimpArgs false
set_option linter.unusedVariables false
set_option maxRecDepth 100000
set_option maxHeartbeats 4000000

theorem eqN_iff (n m : Nd) : eqN n m = true ↔ n = m := by
  obtain ⟨k, x, l⟩ := n
  obtain ⟨k', x', l'⟩ := m
  unfold eqN eqI
  simp only [Bool.and_eq_true, decide_eq_true_iff, Nd.mk.injEq]
theorem take_nd {l m : List Nd} {k : Nat} (hk : k < l.length) (hm : k < m.length) (h : l.take k = m.take k) (e : l.getD k nd0 = m.getD k nd0) : l.take (k + 1) = m.take (k + 1) := by
  rw [List.getD_eq_getElem?_getD, List.getD_eq_getElem?_getD, List.getElem?_eq_getElem hk, List.getElem?_eq_getElem hm] at e
  have e2 : l[k] = m[k] := e
  rw [List.take_succ_eq_append_getElem hk, List.take_succ_eq_append_getElem hm, h, e2]
theorem eqf_nodes (ad ad' : Option Addr) (len len' cap cap' : Nat) (w : World) (hl : len ≤ 9223372036854775807) (hl' : len' ≤ 9223372036854775807) (ns ns' : List Nd)
    (HK : Hid (NAt w ad len ns)) (HK' : Hid (NAt w ad' len' ns')) :
    Calls Tryz.prog 29 #[.slice ad len cap, .slice ad' len' cap', .func (.func 30) #[] #[]] w
      fun e w' => ∃ q : Bool, e = .returned (.bool q) ∧ (q = true ↔ ns = ns') ∧ Below w.heap.size w w' := by
  by_cases h4 : len = len'
  · subst h4
    go_enter Tryz.func29, Tryz.ntmps29
    go_wp2
    go_loopw [17] (fun i wr => ∃ n : Nat, n ≤ len ∧ i = .int .i64 n ∧ ns.take n = ns'.take n ∧ Below w.heap.size w wr) (fun i _ => len - (intOf i).toNat)
    case atStart => exact ⟨0, Nat.zero_le _, rfl, rfl, Below.refl _ _⟩
    case round =>
      obtain ⟨n, hn, rfl, ht, hbe⟩ := hrel
      have HT : Hid (ns.take n = ns'.take n) := ht
      have HBW : Hid (Below w.heap.size w wr) := hbe
      clear ht hbe
      by_cases hlt : n < len
      · obtain ⟨b, off, rfl, hb, hc⟩ := HK.out.2 (by omega)
        obtain ⟨b', off', rfl, hb', hc'⟩ := HK'.out.2 (by omega)
        obtain ⟨ka, kl, kc, q1, q2, _, _, qI, x0, x1, x2⟩ := hc n hlt
        obtain ⟨ka', kl', kc', q1', q2', _, _, qI', z0, z1, z2⟩ := hc' n hlt
        have hkl : kl ≤ 9223372036854775807 := by have : maxLen = 9223372036854775807 := rfl; omega
        have hkl' : kl' ≤ 9223372036854775807 := by have : maxLen = 9223372036854775807 := rfl; omega
        obtain ⟨nd, HND⟩ : ∃ nd, Hid (nd = ns.getD n nd0) := ⟨_, rfl⟩
        obtain ⟨md, HMD⟩ : ∃ md, Hid (md = ns'.getD n nd0) := ⟨_, rfl⟩
        rw [← HND.out] at x0 x1 qI
        rw [← HMD.out] at z0 z1 qI'
        obtain ⟨k1, s1, l1⟩ := nd
        obtain ⟨k2, s2, l2⟩ := md
        simp only at x0 x1 z0 z1 qI qI'
        have HX : Hid (IAt w ka kl l1) := qI
        have HY : Hid (IAt w ka' kl' l2) := qI'
        replace x0 := (HBW.out.cell (p := ⟨b, off + n * 3, none⟩) hb).trans x0
        replace x1 := (HBW.out.cell (p := ⟨b, off + n * 3 + 1, none⟩) hb).trans x1
        replace x2 := (HBW.out.cell (p := ⟨b, off + n * 3 + 2, none⟩) hb).trans x2
        have HBA : Hid (Below w.heap.size w (wr.alloc (.cells #[.int .i64 k1, .string (mk s1), .slice ka kl kc] 38))) := HBW.out.alloc HBW.out.size _
        replace z0 := (HBA.out.cell (p := ⟨b', off' + n * 3, none⟩) hb').trans z0
        replace z1 := (HBA.out.cell (p := ⟨b', off' + n * 3 + 1, none⟩) hb').trans z1
        replace z2 := (HBA.out.cell (p := ⟨b', off' + n * 3 + 2, none⟩) hb').trans z2
        have HC : Hid (Calls Tryz.prog 30 #[.agg #[.int .i64 k1, .string (mk s1), .slice ka kl kc], .agg #[.int .i64 k2, .string (mk s2), .slice ka' kl' kc']] ((wr.alloc (.cells #[.int .i64 k1, .string (mk s1), .slice ka kl kc] 38)).alloc (.cells #[.int .i64 k2, .string (mk s2), .slice ka' kl' kc'] 38)) fun e w' => ∃ q : Bool, e = .returned (.bool q) ∧ Hid (q = true ↔ ns.getD n nd0 = ns'.getD n nd0) ∧ Hid (Below w.heap.size w w')) := by
          have b1 := HBA.out.alloc HBA.out.size (.cells #[.int .i64 k2, .string (mk s2), .slice ka' kl' kc'] 38)
          refine (sameNode_any (HX.out.later b1 (Nat.le_refl _)) (HY.out.later b1 (Nat.le_refl _)) hkl hkl').mono ?_
          rintro e w' ⟨rfl, hb⟩
          refine ⟨_, rfl, ?_, b1.trans (hb.mono b1.size)⟩
          rw [← HND.out, ← HMD.out]
          exact eqN_iff _ _
        clear hc hc' qI qI' HX HY HND HMD q1 q2 q1' q2'
        go_wp2_with fail
        refine HC.out.mono ?_
        rintro e w2 ⟨q, rfl, hq, hbw2⟩
        cases q
        · go_wp2
          go_ret
          exact ⟨false, rfl, ⟨fun h => (by cases h), fun h => absurd (hq.out.2 (by rw [h])) (by decide)⟩, hbw2.out⟩
        · go_wp2
          go_roundw
          case rel => exact ⟨n + 1, by omega, by go_num, take_nd (by have := HK.out.1; omega) (by have := HK'.out.1; omega) HT.out (hq.out.1 (by first | rfl | trivial)), hbw2.out⟩
          case measure => simp [intOf]; omega
      · have HE : Hid (ns = ns') := by
          have h := HT.out
          have l1 := HK.out.1
          have l2 := HK'.out.1
          rw [List.take_of_length_le (by omega), List.take_of_length_le (by omega)] at h
          exact h
        go_wp2
        go_ret
        exact ⟨true, rfl, ⟨fun _ => HE.out, fun _ => rfl⟩, HBW.out⟩
  · have HP : Hid (¬ ns = ns') := fun h => h4 (by rw [HK.out.1, HK'.out.1, h])
    have hne' : ((len : Int) != (len' : Int)) = true := by simp; omega
    go_enter Tryz.func29, Tryz.ntmps29
    go_wp2
    all_goals first | contradiction | skip
    go_ret
    exact ⟨false, rfl, ⟨fun h => (by cases h), fun h => absurd h HP.out⟩, Below.refl _ _⟩
end Go.Proofs.YtkggdjghjdakoaaGreatDoor.Grp
end

section
/- graph.Same, at any two, by its contract. -/
namespace Go.Proofs.YtkggdjghjdakoaaGreatDoor.Grp
open Utf Rws Pln Flw
open Go.RowKit
set_option linter.unusedSimpArgs false
set_option linter.unusedVariables false
set_option maxRecDepth 100000
set_option maxHeartbeats 4000000

theorem g2_new (w : World) (g0 g1 h0 h1 : Value) : G2 w ((w.alloc (.cells #[g0, g1] 24)).alloc (.cells #[h0, h1] 24)) w.heap.size (w.heap.size + 1) g0 g1 h0 h1 := by
  have b1 := below_alloc w (.cells #[g0, g1] 24)
  have s1 : (w.alloc (.cells #[g0, g1] 24)).heap.size = w.heap.size + 1 := World.size_alloc _ _
  have b2 := below_alloc (w.alloc (.cells #[g0, g1] 24)) (.cells #[h0, h1] 24)
  have n2 := Bx.new (w.alloc (.cells #[g0, g1] 24)) #[h0, h1] 24
  rw [s1] at n2
  exact ⟨(Bx.new w _ _).later b2, n2, b1.trans (b2.mono b1.size)⟩
theorem gsame_core {w : World} {ad ad' : Option Addr} {len cap len' cap' : Nat} {r r' : Int} {ns ns' : List Nd} (h : NAt w ad len ns) (h' : NAt w ad' len' ns') (hl : len ≤ 9223372036854775807) (hl' : len' ≤ 9223372036854775807) :
    Calls Tryz.prog 15 #[gv ad len cap r, gv ad' len' cap' r'] w fun e w' => ∃ q : Bool, e = .returned (.bool q) ∧ (q = true ↔ (⟨ns, r⟩ : Gr) = ⟨ns', r'⟩) ∧ Below w.heap.size w w' := by
  have h0 := g2_new w (.slice ad len cap) (.int .i64 r) (.slice ad' len' cap') (.int .i64 r')
  have HC : Hid (∀ W, Below w.heap.size w W → Calls Tryz.prog 29 #[.slice ad len cap, .slice ad' len' cap', .func (.func 30) #[] #[]] W fun e w' => ∃ q : Bool, e = .returned (.bool q) ∧ Hid (q = true ↔ ns = ns') ∧ Hid (Below w.heap.size w w')) := fun W hW => (eqf_nodes ad ad' len len' cap cap' W hl hl' ns ns' (h.later hW (Nat.le_refl _)) (h'.later hW (Nat.le_refl _))).mono (fun e w' q => by
    obtain ⟨q, e1, e2, e3⟩ := q
    exact ⟨q, e1, e2, hW.trans (e3.mono hW.size)⟩)
  clear h h'
  have HB : Hid (Below w.heap.size w ((w.alloc (.cells #[.slice ad len cap, .int .i64 r] 24)).alloc (.cells #[.slice ad' len' cap', .int .i64 r'] 24))) := h0.bl
  go_enter Tryz.func15, Tryz.ntmps15
  go_upto_region 1 with fail
  generalize (w.alloc (.cells #[.slice ad len cap, .int .i64 r] 24)).alloc (.cells #[.slice ad' len' cap', .int .i64 r'] 24) = W0 at h0 HB ⊢
  have HC0 := HC.out W0 HB.out
  have HC1 : Hid (Calls Tryz.prog 29 #[.slice ad len cap, .slice ad' len' cap', .func (.func 30) #[] #[]] W0 fun e w' => ∃ q : Bool, e = .returned (.bool q) ∧ Hid (q = true ↔ ns = ns') ∧ Hid (Below w.heap.size w w')) := HC0
  clear HC HC0
  obtain ⟨c0, c1⟩ := h0.g.c2
  obtain ⟨d0, d1⟩ := h0.h.c2
  clear h0
  generalize w.heap.size + 1 = K1 at c0 c1 d0 d1 ⊢
  obtain ⟨K0, HK0⟩ : ∃ K0, Hid (K0 = w.heap.size) := ⟨_, rfl⟩
  rw [← HK0.out] at c0 c1 ⊢
  by_cases hr : r = r'
  · subst hr
    go_wp2_with (go_at_call 29; refine HC1.out.mono ?_; rintro e w3 ⟨q, rfl, hq, H3⟩)
    go_ret
    refine ⟨q, rfl, ?_, H3.out⟩
    rw [hq.out]
    simp only [Gr.mk.injEq, and_true]
  · go_wp2
    go_ret
    refine ⟨false, rfl, ⟨fun h => (by cases h), fun h => absurd (congrArg Gr.root h) hr⟩, HB.out⟩
theorem gsame_any {w : World} {u v : Value} {g g' : Gr} (h : GrV w u g) (h' : GrV w v g') : Calls Tryz.prog 15 #[u, v] w fun e w' => ∃ q : Bool, e = .returned (.bool q) ∧ (q = true ↔ g = g') ∧ Below w.heap.size w w' := by
  obtain ⟨ns, r⟩ := g
  obtain ⟨ns', r'⟩ := g'
  obtain ⟨ad, len, cap, rfl, h1, h2, _, hN⟩ := h
  obtain ⟨ad', len', cap', rfl, h1', h2', _, hN'⟩ := h'
  have : maxLen = 9223372036854775807 := rfl
  exact gsame_core hN hN' (by omega) (by omega)
end Go.Proofs.YtkggdjghjdakoaaGreatDoor.Grp
end
