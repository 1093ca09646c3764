/- A region that draws its order, only reads, and calls what lays new blocks alone: one walk, in the worlds behind. -/
import Derived.Test.YthmoapigjafijaaFrameCut
namespace Go.Proofs.Ythmoapigjafijaa.Frm
open Go.RowKit Crc
set_option linter.unusedSimpArgs false
set_option linter.unusedVariables false

/-- a world in which all that was there lies as it lay -/
structure QW (W : World) where
  w : World
  h : Below W.heap.size W w
theorem wp_region_class {P : Program} {id : Nat} {Q : Exit → Act → World → Prop} {a : Act} {w : World} {l : List Oper} (hm : P.follows .mixedOrders = true) (hB : Region.lexB .any l.toArray = true)
    (h : wpQuiet P l.toArray (fun w' => ∃ q : QW w, w' = q.w) (fun a' => ∀ w', (∃ q : QW w, w' = q.w) → Q .normal a' w') l a) : (Code.region id l.toArray true).wp P Q a w :=
  wp_region_quiet (C := fun w' => ∃ q : QW w, w' = q.w) hm hB ⟨⟨w.drew, (Below.refl _ w).drew⟩, rfl⟩ (by simpa using h)
/-- a callee that lays new blocks alone -/
theorem calls_class {P : Program} {f : FuncId} {args : Array Value} {W : World} {v : Value} (q : QW W) (h : Calls P f args q.w fun e w' => e = .returned v ∧ Below q.w.heap.size q.w w') : Calls P f args q.w fun e w' => e = .returned v ∧ ∃ q' : QW W, w' = q'.w :=
  h.mono fun _ w' ⟨he, hb⟩ => ⟨he, ⟨w', q.h.trans (hb.mono q.h.size)⟩, rfl⟩

/-- frames in a row, and what stands behind them -/
theorem scn_lays_app (l : List (List UInt8)) (s : Nat) (r : List UInt8) (h1 : 1 ≤ s) (h2 : s + l.length ≤ maxSeq) (hf : fits l) : scn (lays l s ++ r) s = num l s ++ scn r (s + l.length) := by
  induction l generalizing s with
  | nil => rfl
  | cons d l ih =>
    rw [List.length_cons] at h2
    rw [lays, List.append_assoc, num, scn_step _ _ h1]
    obtain ⟨e1, e2, e3, e4⟩ := nxt_frm s d (lays l (s + 1) ++ r) h1 (by omega) (hf d List.mem_cons_self)
    rw [if_pos ⟨e1, e2⟩, e3, e4, if_neg (by omega), ← frm_len s d, List.drop_left]
    rw [ih (s + 1) (by omega) (by omega) (fun x hx => hf x (List.mem_cons_of_mem _ hx)), List.length_cons, show s + 1 + l.length = s + (l.length + 1) by omega]
    rfl
theorem turned_facts (ps : List (List UInt8)) (k p : Nat) (y : UInt8) (hf : fits ps) (hl : 1 + ps.length ≤ 4611686018427387904) (hk : k < ps.length) (hp : (lays (ps.take k) 1).length ≤ p)
    (hp2 : p < (lays (ps.take k) 1).length + (20 + (ps.getD k []).length)) (hy : (lays ps 1).getD p 0 ≠ y) :
    ∃ Z, scz ((lays ps 1).set p y) 1 = num (ps.take k) 1 ++ Z ∧ (Z = [] ∨ ∃ d r, Z = (1 + k, d) :: r ∧ d ≠ ps.getD k []) := by
  have hs := lays_split ps k (by omega)
  have htk : (ps.take k).length = k := by rw [List.length_take]; omega
  rw [lays_drop ps k _ hk] at hs
  generalize lays (ps.drop (k + 1)) (1 + k + 1) = B at hs
  generalize hA : lays (ps.take k) 1 = A at *
  have hset : (lays ps 1).set p y = A ++ ((frm (1 + k) (ps.getD k [])).set (p - A.length) y ++ B) := by
    rw [hs, List.set_append_right _ _ hp, List.set_append_left _ _ (by rw [frm_len]; omega)]
  have hX : (frm (1 + k) (ps.getD k [])).set (p - A.length) y ≠ frm (1 + k) (ps.getD k []) := by
    intro e
    apply hy
    have h1 := congrArg (fun l => l[p - A.length]?) e
    simp only [List.getElem?_set_self (show p - A.length < (frm (1 + k) (ps.getD k [])).length by rw [frm_len]; omega)] at h1
    rw [hs, List.getD_eq_getElem?_getD, List.getElem?_append_right hp, List.getElem?_append_left (by rw [frm_len]; omega), ← h1]
    rfl
  refine ⟨scn ((frm (1 + k) (ps.getD k [])).set (p - A.length) y ++ B) (1 + k), ?_, ?_⟩
  · unfold scz
    rw [if_neg (by decide), hset, ← hA]
    have h := scn_lays_app (ps.take k) 1 ((frm (1 + k) (ps.getD k [])).set (p - A.length) y ++ B) (by decide) (by unfold maxSeq; rw [htk]; omega) (fits_take hf k)
    rw [htk] at h
    rw [← hA] at h
    exact h
  · by_cases hc : nxtE ((frm (1 + k) (ps.getD k [])).set (p - A.length) y ++ B) = 0 ∧ nxtS ((frm (1 + k) (ps.getD k [])).set (p - A.length) y ++ B) = 1 + k
    · right
      refine ⟨_, _, by rw [scn_step _ _ (by omega), if_pos hc], ?_⟩
      exact nxt_turned (1 + k) _ _ _ (by rw [List.length_set]) hX hc.1 hc.2
    · left
      rw [scn_step _ _ (by omega), if_neg hc]

end Go.Proofs.Ythmoapigjafijaa.Frm
