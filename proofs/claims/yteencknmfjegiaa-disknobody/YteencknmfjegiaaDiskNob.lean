/- The walk of DiskNobody. -/
import Derived.Test.YteencknmfjegiaaDiskDoesUn
import Derived.Lib.ConvBytes
import Derived.Laws.BitsAllLaws
namespace Go.Proofs.Yteencknmfjegiaa.Dsk
open Go Go.RowKit Go.Maps
set_option linter.unusedSimpArgs false
set_option linter.unusedVariables false

/-- a row whose end is marked -/
def RowF (w : World) (g : Nat) (t : TypeId) (cur : List Value) (f : Nat) : Prop := w.heap[g]? = some (.cells cur.toArray t (f, f + 1)) ∧ cur.length = f
theorem RowF.cell {w : World} {g : Nat} {t : TypeId} {cur : List Value} {f : Nat} (h : RowF w g t cur f) (i : Nat) : w.cell? ⟨g, i, none⟩ = cur[i]? := by
  rw [cell_of_row w g i cur.toArray t (f, f + 1) h.1]; simp
theorem RowF.free {w : World} {g : Nat} {t : TypeId} {cur : List Value} {f : Nat} (h : RowF w g t cur f) (i : Nat) (hi : i < f) : w.frozen? ⟨g, i, none⟩ = false := by
  have h1 := h.1
  simp only [World.frozen?]; rw [h1]; simp; omega
theorem RowF.set {w : World} {g : Nat} {t : TypeId} {cur : List Value} {f : Nat} (h : RowF w g t cur f) (i : Nat) (v : Value) : RowF (w.setCell ⟨g, i, none⟩ v) g t (cur.set i v) f := by
  refine ⟨?_, by rw [List.length_set]; exact h.2⟩
  rw [setCell_eq_setRow w g i _ t (f, f + 1) _ h.1, setRow_heap w g _ _ t _ h.1]
  simp
theorem RowF.lt {w : World} {g : Nat} {t : TypeId} {cur : List Value} {f : Nat} (h : RowF w g t cur f) : g < w.heap.size := (Array.getElem?_eq_some_iff.1 h.1).1
theorem RowF.at_ {w w' : World} {g : Nat} {t : TypeId} {cur : List Value} {f : Nat} (h : RowF w g t cur f) (e : w'.heap[g]? = w.heap[g]?) : RowF w' g t cur f := ⟨e.trans h.1, h.2⟩
theorem xor255 (x : UInt8) : bits .xor .u8 (x.toNat : Int) 255 = ((x ^^^ 255).toNat : Int) := by
  rw [show (255 : Int) = ((255 : Nat) : Int) from rfl, u8_xor_nat _ _ x.toNat_lt (by decide), UInt8.toNat_xor]
  rfl
/-- the first cells are bytes -/
def Bytes8 (c : List Value) (n : Nat) : Prop := ∀ j, j < n → ∃ x : UInt8, c[j]? = some (.int .u8 (x.toNat : Int))
theorem Bytes8.set {c : List Value} {n : Nat} (h : Bytes8 c n) (i : Nat) (hi : i < n) (y : UInt8) : Bytes8 (c.set i (.int .u8 (y.toNat : Int))) n := by
  intro j hj
  by_cases e : j = i
  · subst e
    obtain ⟨x, hx⟩ := h j hj
    exact ⟨y, by rw [List.getElem?_set_self (List.getElem?_eq_some_iff.1 hx).1]⟩
  · obtain ⟨x, hx⟩ := h j hj
    exact ⟨x, by rw [List.getElem?_set_ne (by omega)]; exact hx⟩
theorem bytes8_take {c : List Value} {l : List UInt8} (h : c.take l.length = byC l) : Bytes8 c l.length := by
  intro j hj
  refine ⟨l.getD j 0, ?_⟩
  rw [← byC_at l j hj, ← h, List.getElem?_take, if_pos hj]
/-- a disk of one file -/
def nobM (data : List UInt8) (c : Nat) : M := ⟨true, 1048576, c, -1, [([120], 0)], [], [⟨[], [120], some 0⟩], [⟨data, 0⟩]⟩
theorem nob1 : (M.new 1048576).create [120] = (nobM [] 1, 0) := by kernel_rfl
theorem nob2 (data : List UInt8) (h : data.length ≤ 1048576) : (nobM [] 1).append [120] data = (nobM data 2, 0) := by
  have hu : (nobM [] 1).used = 0 := by kernel_rfl
  have hl : look (nobM [] 1).names [120] = some 0 := by kernel_rfl
  unfold M.append
  rw [if_neg (by simp [nobM]), hl]
  simp only [hu]
  rw [if_neg (by simp [nobM]; omega)]
  rfl
theorem nob3 (data : List UInt8) (c : Nat) : (nobM data c).read [120] = (data, 0) := by
  have hl : look (nobM data c).names [120] = some 0 := by
    show look [([120], 0)] [120] = some 0
    kernel_rfl
  unfold M.read
  rw [if_neg (by simp [nobM]), hl]
  rfl
end Go.Proofs.Yteencknmfjegiaa.Dsk
