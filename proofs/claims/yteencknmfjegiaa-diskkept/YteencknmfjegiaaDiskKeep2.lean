/- Rows of texts beside a disk. -/
import Derived.Test.YteencknmfjegiaaDiskKeep
import Derived.Test.YteencknmfjegiaaDiskPlain
import Derived.Maps.AppendAt
import Derived.BigQuiet
import Derived.Deep.QuietTactic
namespace Go.Proofs.Yteencknmfjegiaa.Dsk
open Go Go.RowKit Go.Maps
set_option linter.unusedSimpArgs false
set_option linter.unusedVariables false

theorem infoString : (Try.prog.info? 9).map (fun i => (i.zero, i.size, i.bytes)) = some (some (.string ⟨#[]⟩), 1, 16) := by kernel_rfl
theorem Mine.wf {w0 w : World} {d : Nat} {m : M} (h : Mine w0 w d m) : Wf m := by
  obtain ⟨F, h1, h2, h3⟩ := h
  exact h1.1
theorem Ints.later {w w' : World} {a : Option Addr} {len : Nat} {l : List Int} (h : Ints w a len l) (hb : Below w.heap.size w w') : Ints w' a len l := h.at_ hb.size fun b _ _ _ hl => hb.block b hl
theorem MineX.grown {X Y Z : Nat → Prop} {w0 w : World} {d : Nat} {m : M} (h : MineX X w0 w d m) {w' : World} (hO : Only Y w w') (hY : ∀ k, Y k → X k) (hYw : ∀ k, Y k → w0.heap.size ≤ k) (hZ : ∀ k, Z k → X k ∨ (w.heap.size ≤ k ∧ k < w'.heap.size)) : MineX Z w0 w' d m := by
  obtain ⟨F, h1, h2, h3, h4⟩ := h
  refine ⟨F, h1.only hO (fun k hk hy => (h4 k (hY k hy)).1 hk), h2, h3.trans (hO.below h3.size hYw), fun k hk => ?_⟩
  rcases hZ k hk with q | q
  · exact ⟨(h4 k q).1, Nat.lt_of_lt_of_le (h4 k q).2 hO.size⟩
  · exact ⟨fun r => by have := h1.lt k r; omega, q.2⟩
theorem Texts.block {w : World} {B : Nat} {v : Value} {l : List Nm} (h : Texts w B v l) {k : Nat} (hk : v.ownBlock = some k) : B ≤ k ∧ k < w.heap.size := by
  rcases h.2 with ⟨q, _⟩ | ⟨g, cap, cur, q, h0, hr, _⟩
  · rw [q] at hk; cases hk
  · rw [q] at hk
    cases hk
    exact ⟨h0, (Array.getElem?_eq_some_iff.1 hr).1⟩
theorem Texts.grown {w w' : World} {B : Nat} {v : Value} {l : List Nm} {row : Option Nat} (h : Texts w B v l) (hg : w.grownBy w' row) (hd : ∀ k, v.ownBlock = some k → row ≠ some k) : Texts w' B v l :=
  h.at_ fun b hv => hg.block b (h.block hv).2 fun e => hd b hv e.symm
theorem Fresh.block {w : World} {B : Nat} {v : Value} {l : List UInt8} (h : Fresh w B v l) {k : Nat} (hk : v.ownBlock = some k) : B ≤ k ∧ k < w.heap.size := by
  refine ⟨h.2 k hk, ?_⟩
  rcases h.1 with ⟨q, _⟩ | ⟨g, cap, cur, q, hr, _⟩
  · rw [q] at hk; cases hk
  · rw [q] at hk
    cases hk
    exact hr.lt
theorem Wf.nm_le {m : M} (h : Wf m) {p : Nm × Nat} (hp : p ∈ m.names) : p.1.length ≤ maxLen := by
  have := h.okN.nms p hp
  unfold isNm at this
  simp only [Bool.and_eq_true, decide_eq_true_eq] at this
  unfold maxLen
  omega
theorem cell1 (w : World) (a : Value) (t : TypeId) : ∀ j u, ([a])[j]? = some u → (w.alloc (.cells #[a] t)).cell? ((⟨w.heap.size, 0, none⟩ : Addr).add j) = some u := by
  intro j u h
  have hj := (List.getElem?_eq_some_iff.1 h).1
  have h0 : j = 0 := by simpa using hj
  subst h0
  have := (Row.mk w [a] t).cell 0
  simpa [Addr.add] using this.trans h
theorem Bys.move {w w' : World} {a : Option Addr} {len : Nat} {l : List UInt8} (h : Bys w a len l) (e : ∀ b off, a = some ⟨b, off, none⟩ → 0 < len → w'.heap[b]? = w.heap[b]?) : Bys w' a len l := by
  refine ⟨h.1, fun hp => ?_⟩
  obtain ⟨b, off, ha, hlt, hc⟩ := h.2 hp
  have he := e b off ha hp
  refine ⟨b, off, ha, ?_, fun i hi => ?_⟩
  · rw [Array.getElem?_eq_getElem hlt] at he
    exact (Array.getElem?_eq_some_iff.1 he).1
  · rw [World.cell?_of_block (w := w) (a := ⟨b, off + i, none⟩) he]
    exact hc i hi
theorem Bys.take {w : World} {a : Option Addr} {len : Nat} {l : List UInt8} (h : Bys w a len l) (k : Nat) (hk : k ≤ len) : Bys w a k (l.take k) := by
  refine ⟨by rw [List.length_take, ← h.1]; omega, fun hp => ?_⟩
  obtain ⟨b, off, ha, hlt, hc⟩ := h.2 (by omega)
  refine ⟨b, off, ha, hlt, fun i hi => ?_⟩
  rw [hc i (by omega), List.getD_eq_getElem?_getD, List.getD_eq_getElem?_getD, List.getElem?_take, if_pos hi]
theorem below_drewN {w w' : World} {B : Nat} (h : Below B w w') (k : Nat) : Below B w (w'.drewN k) := ⟨h.os, h.tape, h.output, h.size, h.block⟩
/-- the blocks of two rows -/
def Own2 (v v' : Value) (k : Nat) : Prop := v.ownBlock = some k ∨ v'.ownBlock = some k
end Go.Proofs.Yteencknmfjegiaa.Dsk
