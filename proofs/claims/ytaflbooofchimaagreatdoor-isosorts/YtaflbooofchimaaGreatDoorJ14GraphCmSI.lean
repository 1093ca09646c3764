/- Several texts as one: GraphCmSI. -/
import Derived.Test.YtaflbooofchimaaGreatDoorJ12GraphTop
section
/- A composer in memory. -/
namespace Go.Proofs.YtaflbooofchimaaGreatDoor.Grp
open Utf Rws Pln Flw
open Go.RowKit
set_option linter.unusedSimpArgs false
set_option linter.unusedVariables false
set_option maxRecDepth 100000

/-- the nodes' cells -/
def ncs (l : List (Nd × Value)) : List Value := l.flatMap fun p => [.int .i64 p.1.kind, .string (mk p.1.text), p.2]
theorem ncs_app (l m : List (Nd × Value)) : ncs (l ++ m) = ncs l ++ ncs m := by unfold ncs; rw [List.flatMap_append]
theorem ncs_len (l : List (Nd × Value)) : (ncs l).length = l.length * 3 := by
  induction l with
  | nil => rfl
  | cons p t ih =>
    have e : ncs (p :: t) = [.int .i64 p.1.kind, .string (mk p.1.text), p.2] ++ ncs t := rfl
    rw [e, List.length_append, ih, List.length_cons]
    simp only [List.length_cons, List.length_nil]
    omega
theorem ncs_get : ∀ (l : List (Nd × Value)) (i : Nat) (p : Nd × Value), l[i]? = some p → (ncs l)[i * 3]? = some (.int .i64 p.1.kind) ∧ (ncs l)[i * 3 + 1]? = some (.string (mk p.1.text)) ∧ (ncs l)[i * 3 + 2]? = some p.2
  | [], i, p, h => by cases h
  | q :: t, 0, p, h => by
    simp only [List.getElem?_cons_zero, Option.some.injEq] at h
    subst h
    exact ⟨rfl, rfl, rfl⟩
  | q :: t, i + 1, p, h => by
    have := ncs_get t i p (by simpa using h)
    have e : ncs (q :: t) = [.int .i64 q.1.kind, .string (mk q.1.text), q.2] ++ ncs t := rfl
    rw [e]
    refine ⟨?_, ?_, ?_⟩
    · rw [List.getElem?_append_right (by simp; omega)]
      simp only [List.length_cons, List.length_nil]
      rw [show (i + 1) * 3 - (0 + 1 + 1 + 1) = i * 3 by omega]; exact this.1
    · rw [List.getElem?_append_right (by simp; omega)]
      simp only [List.length_cons, List.length_nil]
      rw [show (i + 1) * 3 + 1 - (0 + 1 + 1 + 1) = i * 3 + 1 by omega]; exact this.2.1
    · rw [List.getElem?_append_right (by simp; omega)]
      simp only [List.length_cons, List.length_nil]
      rw [show (i + 1) * 3 + 2 - (0 + 1 + 1 + 1) = i * 3 + 2 by omega]; exact this.2.2
theorem ncs_set : ∀ (l : List (Nd × Value)) (i : Nat) (p : Nd × Value) (kds : List Int) (v : Value), l[i]? = some p → ncs (l.set i (⟨p.1.kind, p.1.text, kds⟩, v)) = (ncs l).set (i * 3 + 2) v
  | [], i, p, _, _, h => by cases h
  | q :: t, 0, p, kds, v, h => by
    simp only [List.getElem?_cons_zero, Option.some.injEq] at h
    subst h
    rfl
  | q :: t, i + 1, p, kds, v, h => by
    have := ncs_set t i p kds v (by simpa using h)
    have e : ncs (q :: t) = [.int .i64 q.1.kind, .string (mk q.1.text), q.2] ++ ncs t := rfl
    have e2 : ncs (q :: t.set i (⟨p.1.kind, p.1.text, kds⟩, v)) = [.int .i64 q.1.kind, .string (mk q.1.text), q.2] ++ ncs (t.set i (⟨p.1.kind, p.1.text, kds⟩, v)) := rfl
    rw [List.set_cons_succ, e2, this, e, List.set_append_right _ _ (by simp; omega)]
    simp only [List.length_cons, List.length_nil]
    rw [show (i + 1) * 3 + 2 - (0 + 1 + 1 + 1) = i * 3 + 2 by omega]
theorem own_keep {base : Nat} {e : TypeId} {size : Nat} {v : Value} {n : Nat} {xs : List Value} {w w' : World} (h : w.ownsRow base e size v n xs) (hk : ∀ g, v.ownBlock = some g → w'.heap[g]? = w.heap[g]?) : w'.ownsRow base e size v n xs := by
  refine ⟨h.1, ?_⟩
  rcases h.2 with h2 | ⟨g, cap, cur, rfl, hb, hg, h3⟩
  · exact .inl h2
  · exact .inr ⟨g, cap, cur, rfl, hb, (hk g rfl).trans hg, h3⟩
theorem own_set {base : Nat} {e : TypeId} {size g n cap : Nat} {xs : List Value} {w : World} (h : w.ownsRow base e size (.slice (some ⟨g, 0, none⟩) n cap) n xs) {i : Nat} (hi : i < xs.length) (v : Value) : (w.setCell ⟨g, i, none⟩ v).ownsRow base e size (.slice (some ⟨g, 0, none⟩) n cap) n (xs.set i v) := by
  refine ⟨by rw [List.length_set]; exact h.1, ?_⟩
  rcases h.2 with ⟨h2, _⟩ | ⟨g', cap', cur, he, hb, hg, h3, h4, h5, h6⟩
  · cases h2
  · cases he
    have hset := Bx.set (w := w) (k := g) (cs := cur) (t := e) hg i v
    refine .inr ⟨g, cap, cur.setIfInBounds i v, rfl, hb, hset, h3, h4, by rw [Array.size_setIfInBounds]; exact h5, ?_⟩
    rw [← h6]
    have hl : i < n * size := by rw [← h.1]; exact hi
    rw [Array.toList_setIfInBounds, List.take_set]
theorem own_block {base : Nat} {e : TypeId} {size : Nat} {v : Value} {n : Nat} {xs : List Value} {w : World} (h : w.ownsRow base e size v n xs) {g : Nat} (hg : v.ownBlock = some g) : base ≤ g ∧ g < w.heap.size := by
  rcases h.2 with ⟨rfl, _⟩ | ⟨g', cap, cur, rfl, hb, hh, _⟩
  · cases hg
  · cases hg
    exact ⟨hb, (Array.getElem?_eq_some_iff.1 hh).1⟩
theorem own_shapeN {base : Nat} {e : TypeId} {size : Nat} {v : Value} {n : Nat} {xs : List Value} {w : World} (h : w.ownsRow base e size v n xs) : ∃ ad cap, v = .slice ad n cap ∧ n ≤ cap ∧ cap ≤ maxLen := by
  rcases h.2 with ⟨rfl, rfl⟩ | ⟨g', cap, cur, rfl, hb, hh, h3, h4, _⟩
  · exact ⟨none, 0, rfl, Nat.le_refl _, Nat.zero_le _⟩
  · exact ⟨_, cap, rfl, h3, h4⟩
/-- a node's Kids in memory, beside the rows that grow -/
def KdOk (W : World) (K : Nat) (nv : Value) (p : Nd × Value) : Prop := i64 p.1.kind ∧ p.1.text.length ≤ 9223372036854775807 ∧ ∃ ad len cap, p.2 = .slice ad len cap ∧ len ≤ cap ∧ cap ≤ maxLen ∧ IAt W ad len p.1.kids ∧ ∀ b off, 0 < len → ad = some ⟨b, off, none⟩ → K < b ∧ some b ≠ nv.ownBlock
/-- in which block a node's Kids lie -/
def kb (p : Nd × Value) (b : Nat) : Prop := ∃ off len cap, p.2 = .slice (some ⟨b, off, none⟩) len cap ∧ 0 < len
theorem KdOk.lt {W : World} {K : Nat} {nv : Value} {p : Nd × Value} (h : KdOk W K nv p) {b : Nat} (hb : kb p b) : K < b ∧ b < W.heap.size ∧ some b ≠ nv.ownBlock := by
  obtain ⟨_, _, ad, len, cap, e, _, _, hI, hf⟩ := h
  obtain ⟨off, len', cap', e', hp⟩ := hb
  rw [e] at e'
  cases e'
  obtain ⟨b2, off2, e2, hlt, _⟩ := hI.2 hp
  cases e2
  exact ⟨(hf _ _ hp rfl).1, hlt, (hf _ _ hp rfl).2⟩
theorem KdOk.keep {W W' : World} {K : Nat} {nv nv' : Value} {p : Nd × Value} (h : KdOk W K nv p) (hs : W.heap.size ≤ W'.heap.size) (hk : ∀ b, kb p b → W'.heap[b]? = W.heap[b]? ∧ some b ≠ nv'.ownBlock) : KdOk W' K nv' p := by
  obtain ⟨h1, h2, ad, len, cap, e, h3, h4, hI, hf⟩ := h
  refine ⟨h1, h2, ad, len, cap, e, h3, h4, ⟨hI.1, fun hp => ?_⟩, fun b off hp e2 => ?_⟩
  · obtain ⟨b2, off2, e2, hlt, hc⟩ := hI.2 hp
    have hb : kb p b2 := ⟨off2, len, cap, by rw [e, e2], hp⟩
    exact ⟨b2, off2, e2, Nat.lt_of_lt_of_le hlt hs, fun i hi => ⟨(hc i hi).1, (World.cell?_of_block (w := W) (hk b2 hb).1).trans (hc i hi).2⟩⟩
  · have hb : kb p b := ⟨off, len, cap, by rw [e, e2], hp⟩
    exact ⟨(hf b off hp e2).1, (hk b hb).2⟩
end Go.Proofs.YtaflbooofchimaaGreatDoor.Grp
end
