/- A loop that holds a range over a function: the marks that its rounds leave. -/
import Derived.Test.YtkggdjghjdakoaaGreatDoorGraphSeq
namespace Go.Proofs.YtkggdjghjdakoaaGreatDoor.Grp
open Utf Rws Pln Flw
open Go.RowKit Go.Shelf
set_option linter.unusedSimpArgs false
set_option linter.unusedVariables false
set_option maxRecDepth 100000

/-- the marks of rounds, in blocks from B on and below T -/
structure Mks (B T : Nat) (W : World) (l : List Nat) : Prop where
  nd : l.Nodup
  bl : ∀ D ∈ l, B ≤ D ∧ D < T ∧ W.heap[D]? = some (.deferred (some []))
def dfs (l : List Nat) : List Deferred := l.map fun D => { target := .collected D, args := #[] }
theorem Mks.nil (B T : Nat) (W : World) : Mks B T W [] := ⟨List.nodup_nil, fun D h => absurd h (by simp)⟩
theorem Mks.kept {B T : Nat} {W W' : World} {l : List Nat} (h : Mks B T W l) (hk : ∀ k, k < T → W'.heap[k]? = W.heap[k]?) : Mks B T W' l := ⟨h.nd, fun D hD => ⟨(h.bl D hD).1, (h.bl D hD).2.1, (hk D (h.bl D hD).2.1).trans (h.bl D hD).2.2⟩⟩
theorem Mks.later {B T T' : Nat} {W W' : World} {l : List Nat} (h : Mks B T W l) (hb : Below T' W W') (hT : T ≤ T') : Mks B T W' l := h.kept fun k hk => hb.block k (Nat.lt_of_lt_of_le hk hT)
theorem Mks.more {B T T' : Nat} {W : World} {l : List Nat} (h : Mks B T W l) (hT : T ≤ T') : Mks B T' W l := ⟨h.nd, fun D hD => ⟨(h.bl D hD).1, Nat.lt_of_lt_of_le (h.bl D hD).2.1 hT, (h.bl D hD).2.2⟩⟩
theorem Mks.set {B T : Nat} {W : World} {l : List Nat} (h : Mks B T W l) {a : Addr} {u v : Value} (hc : W.cell? a = some u) : Mks B T (W.setCell a v) l := by
  refine ⟨h.nd, fun D hD => ⟨(h.bl D hD).1, (h.bl D hD).2.1, ?_⟩⟩
  have hd := (h.bl D hD).2.2
  refine (Below.heap_setCell _ _ _ _ (fun e => ?_)).trans hd
  obtain ⟨o, ho, hcc⟩ := cells_of_cell hc
  rw [← e, hd] at ho
  cases ho
  cases hcc
theorem Mks.own {β : Type} {B T : Nat} (l : List Nat) : OwnFrom T (fun (_ : β) W => Mks B T W l) := fun s W W' row h hg hr => ⟨h.nd, fun D hD => ⟨(h.bl D hD).1, (h.bl D hD).2.1, by
  have hd := (h.bl D hD).2.2
  refine (hg.block D (Array.getElem?_eq_some_iff.1 hd).1 (fun e => ?_)).trans hd
  have := (hr D e.symm).1
  have := (h.bl D hD).2.1
  omega⟩⟩
theorem Mks.cons {B T D : Nat} {W : World} {l : List Nat} (h : Mks B T W l) (hT : T ≤ D) (hB : B ≤ D) (hD : W.heap[D]? = some (.deferred (some []))) : Mks B W.heap.size W (D :: l) := by
  refine ⟨List.nodup_cons.2 ⟨fun q => ?_, h.nd⟩, fun D' h' => ?_⟩
  · have := (h.bl D q).2.1
    omega
  · rcases List.mem_cons.1 h' with rfl | h'
    · exact ⟨hB, (Array.getElem?_eq_some_iff.1 hD).1, hD⟩
    · exact ⟨(h.bl D' h').1, (Array.getElem?_eq_some_iff.1 (h.bl D' h').2.2).1, (h.bl D' h').2.2⟩
/-- the way out past the marks -/
theorem leaves_dfs {F : Fence} {n : Nat} {P : Program} {fn : Func} {tmps : Array Value} {R : Ending → World → Prop} {w0 : World} {T : Nat} : ∀ (l : List Nat) (W : World), Mks w0.heap.size T W l →
    (∀ W', Below w0.heap.size W W' → (∀ a v, W.cell? a = some v → W'.cell? a = some v) → LeavesInM F n P fn tmps R [] .returning W') → LeavesInM F n P fn tmps R (dfs l) .returning W
  | [], W, _, h => h W (Below.refl _ _) (fun _ _ q => q)
  | D :: l, W, hm, h => by
    have hD := (hm.bl D (by simp)).2.2
    refine ⟨by simp, .inl ⟨D, _, rfl, run_takeDeferred hD, ?_⟩⟩
    have b1 := belowK_b (w := w0) (Nat.le_refl _) W D _ (.deferred none) (hm.bl D (by simp)).1 hD rfl rfl
    refine leaves_dfs l _ ⟨(List.nodup_cons.1 hm.nd).2, fun D' h' => ⟨(hm.bl D' (by simp [h'])).1, (hm.bl D' (by simp [h'])).2.1, ?_⟩⟩ (fun W' hb hc => h W' (b1.trans hb) (fun a v q => hc a v (cell_kept q (grownBy_putObj' _ D (.deferred none)) (fun r e => by cases e; exact ⟨_, hD, rfl⟩))))
    have hne : D' ≠ D := fun e => (List.nodup_cons.1 hm.nd).1 (by rw [← e]; exact h')
    exact (World.putObj_heap_other (by first | exact hne | exact hne.symm)).trans (hm.bl D' (by simp [h'])).2.2
end Go.Proofs.YtkggdjghjdakoaaGreatDoor.Grp
