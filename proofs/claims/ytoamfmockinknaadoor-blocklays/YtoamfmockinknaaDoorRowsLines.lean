/- rows.Lines, by its contract. -/
import Derived.Test.YtoamfmockinknaaDoorRowsNum
namespace Go.Proofs.YtoamfmockinknaaDoor.Rws
open Utf
open Go.RowKit Go.Shelf
set_option linter.unusedSimpArgs false
set_option linter.unusedVariables false
set_option maxRecDepth 100000
attribute [local go_sem] Oper.semAt_some

theorem Tryd.infoStr : (Tryd.prog.info? 9).map (fun i => (i.zero, i.size, i.bytes)) = some (some (.string ⟨#[]⟩), 1, 16) := by kernel_rfl
def LinesRes (s : List UInt8) (w : World) (e : Ending) (w' : World) : Prop :=
  ∃ v, e = .returned v ∧ w'.ownsRow w.heap.size 9 1 v (lns s).length ((lns s).map fun l => Value.string (mk l)) ∧ Below w.heap.size w w'
def lineV (pre : List (Nat × Lb)) : List Value := pre.map fun x => Value.string (mk x.2.1)
theorem lineV_snoc (pre : List (Nat × Lb)) (x : Nat × Lb) : lineV (pre ++ [x]) = lineV pre ++ [Value.string (mk x.2.1)] := by simp [lineV]
theorem lineV_num (L : List (List UInt8)) (h : ∀ l ∈ L, l.length ≤ 140737488355328) : lineV (num 1 L) = L.map fun l => Value.string (mk l) := by
  have e := num_map 1 L h
  conv => rhs; rw [← e]
  rw [List.map_map]; rfl

set_option maxHeartbeats 8000000 in
theorem lines_in (s : List UInt8) (hs : s.length ≤ 1048576) (w : World) : Calls Tryd.prog 15 #[.string (mk s)] w fun e w' => LinesRes s w e w' := by
  refine (callsIn_wide (n := 4)).1 ?_
  have hml : ∀ x ∈ lns s, x.length ≤ 140737488355328 := fun x hx => Nat.le_trans (lns_mem_len _ s (Nat.le_refl _) x hx) (by omega)
  have hll : (lns s).length ≤ 1048576 := Nat.le_trans (lns_len _ s (Nat.le_refl _)) hs
  have HML : Hid (∀ x ∈ lns s, x.length ≤ 140737488355328) := hml
  clear hml
  obtain ⟨i0, hi, hz0, hz1, hz2⟩ := info_parts Tryd.infoStr
  refine callsIn_of_wp_marks Tryd.func15 rfl trivial ?_ rfl
  simp only [Tryd.ntmps15, List.size_toArray, List.length_cons, List.length_nil, Nat.reduceAdd, Nat.reduceSub, Array.replicate_succ, Array.replicate_zero, List.push_toArray, List.append_toArray, List.nil_append, List.cons_append]
  gi_wp2_with (first | (refine ⟨trivial, ?_⟩; gi_at_call 32; refine (numbered_in s _ _).mono ?_; rintro e w' ⟨rfl, rfl⟩))
  obtain ⟨W0, hW0⟩ : ∃ W0, (w.alloc (.cells #[.slice none 0 0] 25)).alloc (.cells #[.string (mk s)] 9) = W0 := ⟨_, rfl⟩
  rw [hW0]
  have hS0 : W0.heap.size = w.heap.size + 1 + 1 := by rw [← hW0]; simp
  have hB0 : Below w.heap.size w W0 := by
    rw [← hW0]; exact ((Below.refl _ w).alloc (Nat.le_refl _) _).alloc (by simp) _
  have bL : Boxed W0 w.heap.size 25 (.slice none 0 0) := by
    rw [← hW0]
    exact (Boxed.new w 25 (.slice none 0 0)).alloc _
  have bN : W0.cell? ⟨w.heap.size + 1, 0, none⟩ = some (.string (mk s)) := by
    rw [← hW0]
    have h := Boxed.new (w.alloc (.cells #[.slice none 0 0] 25)) 9 (.string (mk s))
    rw [World.size_alloc] at h
    exact h.cell
  clear hW0
  refine wpIn_rangeFunc_ownG rfl (by decide) (gf := 45) (lb := #[.pointer (some ⟨w.heap.size + 1, 0, none⟩)]) rfl trivial (enters_of Tryd.func45 (by kernel_rfl) rfl)
    (numbered_stops (4 - 1) (by decide) (w.heap.size + 1) s (by omega) W0 (by omega) bN) (fun _ _ => trivial) (fun _ _ _ _ _ _ _ _ => trivial) (Below.refl _ _) (fun _ => rfl)
    (fun pre W => (∃ v, Boxed W w.heap.size 25 v ∧ W.ownsRow w.heap.size 9 1 v pre.length (lineV pre) ∧ True) ∧ Below w.heap.size w W)
    (fun _ _ _ => False)
    (OwnFrom.and (Own.from (holdsRow_own _ _ _ _ 1 (fun pre => pre.length) (fun pre => lineV pre) (fun _ _ => True)) _) (ownFrom_below (Nat.le_refl _) (by omega)))
    (fun _ _ _ _ _ hs _ _ => hs)
    ⟨⟨_, bL, World.ownsRow_nil _ _ _ _, trivial⟩, hB0⟩
    (fun x => { tmps := #[.string (mk s), undef, .slice none 0 0, .pointer (some ⟨w.heap.size, 0, none⟩), undef, .string (mk x.2.1), .string (mk s), .func (.func 45) #[] #[.pointer (some ⟨w.heap.size + 1, 0, none⟩)], .int .i64 (x.1 : Int), .string (mk x.2.1), undef, undef, undef, undef, undef], defers := [] }) ?assign ?body ?done ?stop
  case assign =>
    intro l x W K hK
    gi_wp2
    exact hK
  case body =>
    rintro l pre x W ⟨⟨v, hv, hrow, _⟩, hB⟩ hlt
    have hW := hB.size
    have hpl : pre.length + 1 ≤ 1048576 := by omega
    have hc := hv.cell
    gi_wp2_with (first | (gi_at_builtin; refine wpListIn_append_own _ rfl _ _ 25 rfl w.heap.size 9 i0 (.string ⟨#[]⟩) 1 16 Tryd.underlying25 hi hz0 hz1 hz2 rfl (by decide) _ _ _ rfl (hrow.alloc _) ⟨W.heap.size, 0, none⟩ 1 1 [.string (mk x.2.1)] rfl rfl (cell_one_new _ _ _) (by simp [Value.oneCell']) (by unfold maxLen; omega) (by omega) (by simp; omega) ?_; intro v' w3 hown' hgrow _; obtain ⟨g', cap', rfl⟩ := ownsRow_succ hown'; obtain ⟨hv1, hv2, hr2, hk2, hb3⟩ := hv.appended (by decide) hrow (by omega) (Nat.le_refl _) hown' hgrow; have hc1 := hv1.cell; have hf1 := hv1.frozen))
    refine ⟨hk2.from _, trivial, ⟨_, hv2, ?_, trivial⟩, hB.trans hb3⟩
    rw [lineV_snoc, List.length_append]; exact hr2
  case done =>
    rintro D ys W hD rfl ⟨⟨v, hv, hrow, _⟩, hB⟩ hK
    have hc := hv.cell
    gi_wp2
    refine ⟨by simp, .inl ⟨_, _, rfl, run_takeDeferred hK, ?_⟩⟩
    refine ⟨_, results_tmp rfl _ _ _, v, rfl, ?_, hB.trans (belowK_b (w := w) (Nat.le_refl _) W D _ _ (by omega) hK rfl rfl)⟩
    have h := ownsRow_putObj hrow (.deferred none) hK rfl
    rw [lineV_num _ HML.out, num_len] at h
    exact h
  case stop =>
    rintro D c pre W _ _ h _
    exact h.elim

end Go.Proofs.YtoamfmockinknaaDoor.Rws
