/- graph.sameNode, at any two, by its contract. -/
import Derived.Test.YtkggdjghjdakoaaGreatDoorGraphIn3
import Derived.BigQuiet
import Derived.Deep.QuietTactic
namespace Go.Proofs.YtkggdjghjdakoaaGreatDoor.Grp
open Utf Rws Pln Flw
open Go.RowKit
set_option linter.unusedSimpArgs false
set_option linter.unusedVariables false
set_option maxRecDepth 100000
set_option maxHeartbeats 4000000

/-- two nodes are equal -/
def eqN (n m : Nd) : Bool := decide (n.kind = m.kind) && (decide (n.text = m.text) && eqI n.kids m.kids)
theorem two_nodes (w : World) (n m : Array Value) : Bx ((w.alloc (.cells n 38)).alloc (.cells m 38)) w.heap.size n 38 ∧ Bx ((w.alloc (.cells n 38)).alloc (.cells m 38)) (w.heap.size + 1) m 38 ∧ Below w.heap.size w ((w.alloc (.cells n 38)).alloc (.cells m 38)) := by
  have b1 := below_alloc w (.cells n 38)
  have n1 := Bx.new w n 38
  have s1 : (w.alloc (.cells n 38)).heap.size = w.heap.size + 1 := World.size_alloc _ _
  have b2 := below_alloc (w.alloc (.cells n 38)) (.cells m 38)
  have n2 := Bx.new (w.alloc (.cells n 38)) m 38
  rw [s1] at n2
  exact ⟨n1.later b2, n2, b1.trans (b2.mono b1.size)⟩
theorem sameNode_any {w : World} {ad ad' : Option Addr} {len cap len' cap' : Nat} {k k' : Int} {x x' : Ln} {l l' : List Int} (h : IAt w ad len l) (h' : IAt w ad' len' l') (hl : len ≤ 9223372036854775807) (hl' : len' ≤ 9223372036854775807) :
    Calls Tryz.prog 30 #[.agg #[.int .i64 k, .string (mk x), .slice ad len cap], .agg #[.int .i64 k', .string (mk x'), .slice ad' len' cap']] w fun e w' => e = .returned (.bool (eqN ⟨k, x, l⟩ ⟨k', x', l'⟩)) ∧ Below w.heap.size w w' := by
  obtain ⟨q, HQ⟩ : ∃ q, Hid (q = eqN ⟨k, x, l⟩ ⟨k', x', l'⟩) := ⟨_, rfl⟩
  rw [← HQ.out]
  obtain ⟨n1, n2, B⟩ := two_nodes w #[.int .i64 k, .string (mk x), .slice ad len cap] #[.int .i64 k', .string (mk x'), .slice ad' len' cap']
  have HC : Hid (∀ W, Below w.heap.size w W → Calls Tryz.prog 42 #[.slice ad len cap, .slice ad' len' cap'] W fun e w' => e = .returned (.bool (eqI l l')) ∧ Hid (Below w.heap.size w w')) := fun W hW => (equal_any (h.later hW (Nat.le_refl _)) (h'.later hW (Nat.le_refl _)) hl hl').mono (fun e w' q => ⟨q.1, hW.trans (q.2.mono hW.size)⟩)
  have HB : Hid (Below w.heap.size w ((w.alloc (.cells #[.int .i64 k, .string (mk x), .slice ad len cap] 38)).alloc (.cells #[.int .i64 k', .string (mk x'), .slice ad' len' cap'] 38))) := B
  clear h h' B
  go_enter Tryz.func30, Tryz.ntmps30
  go_upto_region 1 with fail
  generalize (w.alloc (.cells #[.int .i64 k, .string (mk x), .slice ad len cap] 38)).alloc (.cells #[.int .i64 k', .string (mk x'), .slice ad' len' cap'] 38) = W0 at n1 n2 HB ⊢
  generalize w.heap.size + 1 = K1 at n1 n2 HB ⊢
  obtain ⟨K0, HK0⟩ : ∃ K0, Hid (K0 = w.heap.size) := ⟨_, rfl⟩
  rw [← HK0.out] at n1 ⊢
  obtain ⟨c0, c1, c2⟩ := n1.c3
  obtain ⟨d0, d1, d2⟩ := n2.c3
  by_cases hk : k = k'
  · subst hk
    by_cases hx : x = x'
    · subst hx
      have HQ2 : Hid (q = eqI l l') := by
        show _ = _
        rw [HQ.out]
        unfold eqN
        rw [decide_eq_true (rfl : k = k), decide_eq_true (rfl : x = x), Bool.true_and, Bool.true_and]
      have HC0 : Hid (Calls Tryz.prog 42 #[.slice ad len cap, .slice ad' len' cap'] W0 fun e w' => e = .returned (.bool q) ∧ Hid (Below w.heap.size w w')) := by
        show Calls _ _ _ _ _
        rw [HQ2.out]
        exact HC.out _ HB.out
      clear HC HQ HQ2 n1 n2
      go_wp2_with (go_at_call 42; refine HC0.out.mono ?_; rintro e w3 ⟨rfl, H3⟩)
      go_ret
      exact ⟨rfl, H3.out⟩
    · have HQF : Hid (q = false) := by
        show _ = _
        rw [HQ.out]
        unfold eqN
        rw [decide_eq_false (show ¬ x = x' from hx), Bool.false_and, Bool.and_false]
      have hx3 : ((mk x).toList == (mk x').toList) = false := by
        rw [ByteArray.toList_eq, ByteArray.toList_eq, mk_data, mk_data]
        exact beq_false_of_ne hx
      clear HC HQ n1 n2 hx
      go_wp2
      go_ret
      exact ⟨by rw [HQF.out]; rfl, HB.out⟩
  · have HQF : Hid (q = false) := by
      show _ = _
      rw [HQ.out]
      unfold eqN
      rw [decide_eq_false (show ¬ k = k' from hk), Bool.false_and]
    clear HC HQ n1 n2
    go_wp2
    go_ret
    exact ⟨by rw [HQF.out]; rfl, HB.out⟩
end Go.Proofs.YtkggdjghjdakoaaGreatDoor.Grp
