/- graph.Same, at any two, by its contract. -/
import Derived.Test.YtkggdjghjdakoaaGreatDoorGraphEqf
import Derived.BigQuiet
import Derived.Deep.QuietTactic
namespace Go.Proofs.YtkggdjghjdakoaaGreatDoor.Grp
open Utf Rws Pln Flw
open Go.RowKit
set_option linter.unusedSimpArgs false
set_option linter.unusedVariables false
set_option maxRecDepth 100000
set_option maxHeartbeats 4000000

theorem g2_new (w : World) (g0 g1 h0 h1 : Value) : G2 w ((w.alloc (.cells #[g0, g1] 24)).alloc (.cells #[h0, h1] 24)) w.heap.size (w.heap.size + 1) g0 g1 h0 h1 := by
  have b1 := below_alloc w (.cells #[g0, g1] 24)
  have s1 : (w.alloc (.cells #[g0, g1] 24)).heap.size = w.heap.size + 1 := World.size_alloc _ _
  have b2 := below_alloc (w.alloc (.cells #[g0, g1] 24)) (.cells #[h0, h1] 24)
  have n2 := Bx.new (w.alloc (.cells #[g0, g1] 24)) #[h0, h1] 24
  rw [s1] at n2
  exact ⟨(Bx.new w _ _).later b2, n2, b1.trans (b2.mono b1.size)⟩
theorem gsame_core {w : World} {ad ad' : Option Addr} {len cap len' cap' : Nat} {r r' : Int} {ns ns' : List Nd} (h : NAt w ad len ns) (h' : NAt w ad' len' ns') (hl : len ≤ 9223372036854775807) (hl' : len' ≤ 9223372036854775807) :
    Calls Tryz.prog 15 #[gv ad len cap r, gv ad' len' cap' r'] w fun e w' => ∃ q : Bool, e = .returned (.bool q) ∧ (q = true ↔ (⟨ns, r⟩ : Gr) = ⟨ns', r'⟩) ∧ Below w.heap.size w w' := by
  have h0 := g2_new w (.slice ad len cap) (.int .i64 r) (.slice ad' len' cap') (.int .i64 r')
  have HC : Hid (∀ W, Below w.heap.size w W → Calls Tryz.prog 29 #[.slice ad len cap, .slice ad' len' cap', .func (.func 30) #[] #[]] W fun e w' => ∃ q : Bool, e = .returned (.bool q) ∧ Hid (q = true ↔ ns = ns') ∧ Hid (Below w.heap.size w w')) := fun W hW => (eqf_nodes ad ad' len len' cap cap' W hl hl' ns ns' (h.later hW (Nat.le_refl _)) (h'.later hW (Nat.le_refl _))).mono (fun e w' q => by
    obtain ⟨q, e1, e2, e3⟩ := q
    exact ⟨q, e1, e2, hW.trans (e3.mono hW.size)⟩)
  clear h h'
  have HB : Hid (Below w.heap.size w ((w.alloc (.cells #[.slice ad len cap, .int .i64 r] 24)).alloc (.cells #[.slice ad' len' cap', .int .i64 r'] 24))) := h0.bl
  go_enter Tryz.func15, Tryz.ntmps15
  go_upto_region 1 with fail
  generalize (w.alloc (.cells #[.slice ad len cap, .int .i64 r] 24)).alloc (.cells #[.slice ad' len' cap', .int .i64 r'] 24) = W0 at h0 HB ⊢
  have HC0 := HC.out W0 HB.out
  have HC1 : Hid (Calls Tryz.prog 29 #[.slice ad len cap, .slice ad' len' cap', .func (.func 30) #[] #[]] W0 fun e w' => ∃ q : Bool, e = .returned (.bool q) ∧ Hid (q = true ↔ ns = ns') ∧ Hid (Below w.heap.size w w')) := HC0
  clear HC HC0
  obtain ⟨c0, c1⟩ := h0.g.c2
  obtain ⟨d0, d1⟩ := h0.h.c2
  clear h0
  generalize w.heap.size + 1 = K1 at c0 c1 d0 d1 ⊢
  obtain ⟨K0, HK0⟩ : ∃ K0, Hid (K0 = w.heap.size) := ⟨_, rfl⟩
  rw [← HK0.out] at c0 c1 ⊢
  by_cases hr : r = r'
  · subst hr
    go_wp2_with (go_at_call 29; refine HC1.out.mono ?_; rintro e w3 ⟨q, rfl, hq, H3⟩)
    go_ret
    refine ⟨q, rfl, ?_, H3.out⟩
    rw [hq.out]
    simp only [Gr.mk.injEq, and_true]
  · go_wp2
    go_ret
    refine ⟨false, rfl, ⟨fun h => (by cases h), fun h => absurd (congrArg Gr.root h) hr⟩, HB.out⟩
theorem gsame_any {w : World} {u v : Value} {g g' : Gr} (h : GrV w u g) (h' : GrV w v g') : Calls Tryz.prog 15 #[u, v] w fun e w' => ∃ q : Bool, e = .returned (.bool q) ∧ (q = true ↔ g = g') ∧ Below w.heap.size w w' := by
  obtain ⟨ns, r⟩ := g
  obtain ⟨ns', r'⟩ := g'
  obtain ⟨ad, len, cap, rfl, h1, h2, _, hN⟩ := h
  obtain ⟨ad', len', cap', rfl, h1', h2', _, hN'⟩ := h'
  have : maxLen = 9223372036854775807 := rfl
  exact gsame_core hN hN' (by omega) (by omega)
end Go.Proofs.YtkggdjghjdakoaaGreatDoor.Grp
