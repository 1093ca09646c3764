/- The document's disk: what stays; SyncDir, Remove. -/
import Derived.Test.YtedpiikdlpehjaaDiskRf6
namespace Go.Proofs.Ytedpiikdlpehjaa.Dsk
open Go Go.RowKit Go.Maps
set_option linter.unusedSimpArgs false
set_option linter.unusedVariables false

def NewX (X : Nat → Prop) (w w' : World) : Nat → Prop := fun k => X k ∨ (w.heap.size ≤ k ∧ k < w'.heap.size)
section
variable {w w' : World} {X : Nat → Prop} {rb : Nat} {m : M} {fv nv kv av : Value}
theorem SlC.keep {sz n : Nat} {v : Value} {us : List Value} (h : SlC w X sz v n us) (hO : Only (· = rb) w w') (hr : ¬ X rb) : SlC w' (NewX X w w') sz v n us :=
  (h.at_ hO.size fun b hb hl => hO.block b hl fun q => hr (by rw [← q]; exact hb)).mono fun b hb _ => .inl hb
theorem Afts.keep {ts : List Tbl} {v : Value} (h : Afts w X v ts) (hO : Only (· = rb) w w') (hr : ¬ X rb) : Afts w' (NewX X w w') v ts := by
  obtain ⟨us, h1, h2⟩ := h
  exact ⟨us, h1.keep hO hr, fun i t u ht hu => (h2 i t u ht hu).keep hO hr⟩
theorem slc_new {w1 : World} {e : TypeId} {sz n : Nat} {v : Value} {us : List Value} (h : w'.ownsRow w1.heap.size e sz v n us) (hl : us.length = n * sz) (hs : w.heap.size ≤ w1.heap.size) : SlC w' (NewX X w w') sz v n us := by
  obtain ⟨a, cap, h1, h2, h3, h5, h6, h4⟩ := slc_own h hl
  refine ⟨a, cap, h1, h2, h3, h5, h6, fun i u hu => ?_⟩
  obtain ⟨b, off, ha, hx, hlt, c0⟩ := h4 i u hu
  exact ⟨b, off, ha, .inr ⟨Nat.le_trans hs hx, hlt⟩, hlt, c0⟩
theorem newx_rb (hr : ¬ X rb) (hl : rb < w.heap.size) : ¬ NewX X w w' rb := fun h => h.elim hr fun q => by omega
theorem RIn.keep {m' : M} {w1 : World} (h : RIn w X rb m fv nv kv av) (hO : Only (· = rb) w w') (hrow : Row w' rb 33 (rC m' fv nv kv av)) (h1 : m'.files = m.files) (h2 : m'.names = m.names) (h3 : m'.kept = m.kept) (h4 : m'.since = m.since) : RIn w' (NewX X w w') rb m' fv nv kv av where
  row := hrow
  fils := by rw [h1]; exact h.fils.keep hO h.rbx
  names := by rw [h2]; exact h.names.keep hO h.rbx
  kept := by rw [h3]; exact h.kept.keep hO h.rbx
  aft := by
    have e : afts m' = afts m := by unfold afts; rw [h3, h4]
    rw [e]
    exact h.aft.keep hO h.rbx
  rbx := newx_rb h.rbx h.row.lt
theorem RIn.same (h : RIn w X rb m fv nv kv av) (hB : Below w.heap.size w w') : RPost w X rb w' m := by
  have hO : Only (· = rb) w w' := Only.of_below hB
  exact ⟨⟨_, _, _, _, h.keep (w1 := w) hO (h.row.at_ (hB.block _ h.row.lt)) rfl rfl rfl rfl⟩, hO⟩
theorem RIn.offd (h : RIn w X rb m fv nv kv av) (hO : Only (· = rb) w w') (hrow : Row w' rb 33 (rC m.off fv nv kv av)) : RPost w X rb w' m.off :=
  ⟨⟨_, _, _, _, h.keep (w1 := w) hO hrow rfl rfl rfl rfl⟩, hO⟩
theorem settle_more (t : Tbl) (l : List Chg) (c : Chg) : settle t (l ++ [c]) = c.app (settle t l) := by
  unfold settle
  rw [List.foldl_append]
  rfl
theorem afts_turn (hW : Wf m) (c : Chg) : afts (m.spent.turn c) = afts m ++ [c.app m.names] := by
  have e : (m.spent.turn c).since = m.since ++ [c] := rfl
  have e2 : (m.spent.turn c).kept = m.kept := rfl
  unfold afts
  rw [e, e2, List.length_append, List.length_singleton, List.range_succ, List.map_append]
  congr 1
  · apply List.map_congr_left
    intro j hj
    have := List.mem_range.1 hj
    rw [List.take_append_of_le_length (by omega)]
  · simp only [List.map_cons, List.map_nil]
    rw [List.take_of_length_le (by rw [List.length_append]; exact Nat.le_refl _), settle_more, ← hW.names]
theorem Afts.vals {ts : List Tbl} {v : Value} (h : Afts w X v ts) : ∃ us, SlC w X 1 v ts.length us ∧ (∀ u ∈ us, u.oneCell' = true) ∧ ∀ (i : Nat) (t : Tbl) (u : Value), ts[i]? = some t → us[i]? = some u → SlC w X 2 u t.length (cellsE t) := by
  obtain ⟨us, h1, h2⟩ := h
  refine ⟨us, h1, fun u hu => ?_, h2⟩
  obtain ⟨i, hi⟩ := List.getElem?_of_mem hu
  have hl := (List.getElem?_eq_some_iff.1 hi).1
  have hlen := h1.len
  obtain ⟨a, cap, q, _⟩ := h2 i (ts[i]'(by omega)) u (List.getElem?_eq_getElem (by omega)) hi
  rw [q]
  rfl
/-- the names are others -/
theorem RIn.turned {w1 : World} {us : List Value} {lv av' fv' : Value} {fs : List Fl} (h : RIn w X rb m fv nv kv av) (hW : Wf m) (c : Chg) (hO : Only (· = rb) w w') (hrow : Row w' rb 33 (rC m.spent fv' lv kv av'))
    (hus : SlC w X 1 av (afts m).length us) (hvs : ∀ (i : Nat) (t : Tbl) (u : Value), (afts m)[i]? = some t → us[i]? = some u → SlC w X 2 u t.length (cellsE t))
    (hl : SlC w' (NewX X w w') 2 lv (c.app m.names).length (cellsE (c.app m.names))) (ha : w'.ownsRow w1.heap.size 30 1 av' ((afts m).length + 1) (us ++ [lv])) (hs : w.heap.size ≤ w1.heap.size)
    (hf : SlC w' (NewX X w w') 2 fv' fs.length (cellsF fs)) : RPost w X rb w' { m.spent.turn c with files := fs } := by
  have hlen := hus.len
  refine ⟨⟨fv', lv, kv, av', hrow, hf, hl, h.kept.keep hO h.rbx, ?_, newx_rb h.rbx h.row.lt⟩, hO⟩
  have e : afts { m.spent.turn c with files := fs } = afts m ++ [c.app m.names] := afts_turn hW c
  rw [e]
  refine ⟨us ++ [lv], ?_, fun i t u ht hu => ?_⟩
  · rw [List.length_append, List.length_singleton]
    exact slc_new ha (by rw [List.length_append, List.length_singleton, hlen]; omega) hs
  · by_cases hi : i < (afts m).length
    · rw [List.getElem?_append_left hi] at ht
      rw [List.getElem?_append_left (by omega)] at hu
      exact (hvs i t u ht hu).keep hO h.rbx
    · have hi2 : i = (afts m).length := by
        have := (List.getElem?_eq_some_iff.1 ht).1
        rw [List.length_append, List.length_singleton] at this
        omega
      subst hi2
      rw [List.getElem?_append_right (Nat.le_refl _), Nat.sub_self] at ht
      rw [List.getElem?_append_right (by omega), show (afts m).length - us.length = 0 by omega] at hu
      cases ht
      cases hu
      exact hl
end
end Go.Proofs.Ytedpiikdlpehjaa.Dsk
