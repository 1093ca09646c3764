/- A range over a function that keeps its place in cells of its own (a method value): the loop's own law, where every round goes on. -/
import Derived.RangeFuncNested
import Derived.RangeFuncBox
import Derived.RangeFuncCalls
import Derived.RangeFuncLeaves
import Derived.WalkKit
import Derived.OwnWalkIn
import Derived.TacticsInMore
import Derived.LoopNIn
import Derived.LoopIn
import Derived.Maps.AppendAt
import Derived.Test.YthmoapigjafijaaFrameNext
namespace Go.Proofs.Ythmoapigjafijaa.Frm
open Go.RowKit Crc
set_option linter.unusedSimpArgs false
set_option linter.unusedVariables false

/-- what is said of a world stays, where a block of no cells at or behind B is turned -/
def Abide (B : Nat) (T : World → Prop) : Prop := ∀ W l o o', T W → B ≤ l → W.heap[l]? = some o → o.isCells = false → T (W.putObj l o')

theorem range_go {α : Type} {F : Fence} {n : Nat} {P : Program} {g : Operand} {ps : Array Tmp} {assign body : Code} {Q : Exit → Act → World → Prop} {a : Act} {w : World}
    (hro : F.round = none) (h1 : 1 ≤ n) {gf : Nat} {ob : Array Value} (hg : a.eval g = .func (.func gf) ob #[]) (hFg : F.fn gf) (eg : ∀ args w, (callFunc gf args).run P w = .ok (.enter gf args) w)
    {encs : α → Array Value} (hps : ∀ x, (encs x).size = ps.size) {S : List α → Prop}
    (Ia : List α → World → Prop) (Ib : List α → α → World → Prop) (Ic : List α → α → Act → World → Prop)
    (hIa : ∀ s, Abide w.heap.size (Ia s)) (hIc : ∀ s x a', Abide w.heap.size (Ic s x a')) (h0 : ∀ o o', Ia [] ((w.alloc o).alloc o'))
    (hassign : ∀ l pre x W (K : Act → World → Prop), Ib pre x W → (∀ a' W', KeepsOthers W W' → Ic pre x a' W' → K a' W') →
      assign.wpIn (F.inRound l) (n - 1 - 1) P (Exit.then K (fun _ _ _ => False)) { tmps := (ps.zip (encs x)).foldl (fun t (p, v) => t.setIfInBounds p v) a.tmps, defers := [] } W)
    (hbody : ∀ l pre x a' W, Ic pre x a' W → body.wpIn (F.inRound l) (n - 1 - 1) P (fun e _ W' => e = .normal ∧ KeepsOthers W W' ∧ Ia (pre ++ [x]) W') a' W)
    (hit : ∀ (l : Nat) (bk : World → Prop) (W1 : World), (∀ W W', bk W → KeepsOthers W W' → bk W') →
      (∀ pre x W, Ib pre x W → bk W → YieldAt F (n - 1 - 1) P l (encs x) W fun e W' => e = .returned (.bool true) ∧ Ia (pre ++ [x]) W' ∧ bk W') → Ia [] W1 → bk W1 →
      CallsIn F (n - 1) P gf (ob ++ #[.func (.yield l) #[] #[]]) W1 fun e W' => (∃ v, e = .returned v) ∧ ∃ xs, S xs ∧ Ia xs W' ∧ bk W')
    (hdone : ∀ D xs W, w.heap.size ≤ D → S xs → Ia xs W → W.heap[D]? = some (.deferred (some [])) → Q .normal { a with defers := { target := .collected D, args := #[] } :: a.defers } W) :
    (Code.rangeFunc g ps assign body).wpIn F n P Q a w := by
  refine wpIn_rangeFunc fun fn hfn => ?_
  -- the loop's record, ready and busy
  let ready : Loop := { state := .ready, pending := none, fn := fn, tmps := a.tmps, params := ps, assign := assign, body := body, defers := w.heap.size }
  let L := w.heap.size + 1
  let bk : World → Prop := fun W => W.heap[L]? = some (.loop ready) ∧ W.heap[w.heap.size]? = some (.deferred (some []))
  have hbk0 : bk ((w.alloc (.deferred (some []))).alloc (.loop ready)) := by
    constructor
    · have h := World.alloc_heap_new (w.alloc (.deferred (some []))) (.loop ready)
      rwa [World.size_alloc] at h
    · exact (Below.heap_alloc _ _ _ (by simp)).trans (World.alloc_heap_new w _)
  rw [hro]
  let W0 := (w.alloc (.deferred (some []))).alloc (.loop ready)
  refine ⟨L, [{ target := .collected w.heap.size, args := #[] }], W0, { target := .fn (.func gf) #[], args := ob ++ #[.func (.yield L) #[] #[]] }, W0, gf, ob ++ #[.func (.yield L) #[] #[]], W0,
    run_enterLoop_outer fn a.tmps ps assign body, ?_, ?_, ?_, fun _ => h1, ?_⟩
  · simp only [resolve, hg]
    simp [go_sem]
  · intro f' hf'
    simp [Target.leads] at hf'
    subst hf'
    exact hFg
  · simp [invoke, go_sem, eg]
  · refine (hit L bk _ (fun W W' h k => ⟨k.same _ _ h.1 rfl, k.same _ _ h.2 rfl⟩) ?_ (h0 _ _) hbk0).mono ?_
    · rintro pre x W hib ⟨hl, hd⟩
      refine ⟨fn, _, assign, body, run_yield (r := ready) hl (hps x), roundIn_of_wpIn hfn ?_⟩
      refine hassign L pre x W _ hib fun a' W' hk hic => ?_
      have hl' := hk.same _ _ hl rfl
      have hd' := hk.same _ _ hd rfl
      refine ⟨_, run_beginRound hl' rfl, wpIn_mono (hbody L pre x a' _ (hIc _ _ _ _ _ _ _ hic (by show w.heap.size ≤ w.heap.size + 1; omega) hl' rfl)) ?_⟩
      rintro e a3 W3 ⟨rfl, hk3, hia⟩
      have hl3 := hk3.same L _ (World.putObj_heap_same (Array.getElem?_eq_some_iff.1 hl').1) rfl
      have hd3 := hk3.same w.heap.size _ ((World.putObj_heap_other (by show w.heap.size ≠ w.heap.size + 1; omega)).trans hd') rfl
      refine ⟨_, _, run_endRound none hl3, rfl, hIa _ _ _ _ _ hia (by show w.heap.size ≤ w.heap.size + 1; omega) hl3 rfl, World.putObj_heap_same (Array.getElem?_eq_some_iff.1 hl3).1, ?_⟩
      exact (World.putObj_heap_other (by show w.heap.size ≠ w.heap.size + 1; omega)).trans hd3
    · rintro e W2 ⟨⟨v, rfl⟩, xs, hS, hia, hl, hd⟩
      refine ⟨_, _, run_endLoop hl (show LoopState.ready ≠ LoopState.busy by decide), ?_⟩
      exact hdone w.heap.size xs _ (Nat.le_refl _) hS (hIa _ _ _ _ _ hia (by show w.heap.size ≤ w.heap.size + 1; omega) hl rfl) ((World.putObj_heap_other (by show w.heap.size ≠ w.heap.size + 1; omega)).trans hd)

end Go.Proofs.Ythmoapigjafijaa.Frm
