/- Several texts as one: GraphGo, GraphWalked, GraphOrdE. -/
import Derived.Test.YtjlpdmpfemhkpaaGreatDoorQGgE
import Derived.Laws.AppendOwn
import Derived.Orders
import Derived.OrdersIn
import Derived.Maps.AppendAt
import Derived.Test.YtjlpdmpfemhkpaaGreatDoorQGgD
section
/- Package graph's goTo, by its contract: it goes over what is reached as the plain walk does. -/
namespace Go.Proofs.YtjlpdmpfemhkpaaGreatDoor.Grp
open Utf Rws Pln Flw
open Go.RowKit
set_option linter.unusedSimpArgs false
set_option linter.unusedVariables false
set_option maxRecDepth 100000
set_option maxHeartbeats 4000000

/-- a row of ints -/
def iA (f : Nat → Int) (n : Nat) : Array Value := ((List.range n).map fun i => Value.int .i64 (f i)).toArray
theorem iA_get (f : Nat → Int) {n i : Nat} (h : i < n) : (iA f n)[i]? = some (.int .i64 (f i)) := by simp [iA, h]
theorem iA_set (f : Nat → Int) (n i : Nat) (v : Int) : (iA f n).setIfInBounds i (.int .i64 v) = iA (fun x => if x = i then v else f x) n := by
  apply Array.ext_getElem?
  intro k
  rw [Array.getElem?_setIfInBounds]
  by_cases hk : k < n
  · rw [iA_get _ hk, iA_get _ hk]
    by_cases e : i = k
    · subst e
      rw [if_pos rfl]
      simp [iA, hk]
    · rw [if_neg e]
      simp [Ne.symm e]
  · have e1 : (iA f n)[k]? = none := by simp [iA]; omega
    have e2 : (iA (fun x => if x = i then v else f x) n)[k]? = none := by simp [iA]; omega
    rw [e1, e2]
    split
    · simp [iA]; omega
    · rfl
theorem iA_congr {f g : Nat → Int} {n : Nat} (h : ∀ i, i < n → f i = g i) : iA f n = iA g n := by
  unfold iA
  congr 1
  exact List.map_congr_left fun i hi => by rw [h i (List.mem_range.1 hi)]
/-- at which one a place came, or never -/
def cm (out : List Nat) (x : Nat) : Int := if x ∈ out then (out.idxOf x : Int) else -1
theorem cm_snoc (out : List Nat) (a : Nat) (h : a ∉ out) (x : Nat) : cm (out ++ [a]) x = if x = a then (out.length : Int) else cm out x := by
  unfold cm
  by_cases e : x = a
  · subst e
    rw [if_pos (by simp), if_pos rfl, List.idxOf_append, if_neg h]
    simp
  · rw [if_neg e]
    by_cases m : x ∈ out
    · rw [if_pos (by simp [m]), if_pos m, List.idxOf_append, if_pos m]
    · rw [if_neg (by simp [m, e]), if_neg m]
/-- how many places have not come -/
def lft (len : Nat) (out : List Nat) : Nat := ((List.range len).filter (fun b => decide (b ∉ out))).length
/-- the Kids as places -/
def kd (ns : List Nd) (a : Nat) : List Nat := (ns.getD a nd0).kids.map Int.toNat
/-- a walk in memory -/
structure WkS (w0 W : World) (K C : Nat) (nsl : Value) (len : Nat) (out : List Nat) (m : Nat) : Prop where
  s : ∃ ov, Bx W K #[nsl, ov, .slice (some ⟨C, 0, none⟩) len len, .int .i64 (m : Int)] 71 ∧ W.ownsRow (K + 1) 3 1 ov out.length (out.map fun a : Nat => Value.int .i64 (a : Int))
  c : Bx W C (iA (cm out) len) 3
  bl : Below w0.heap.size w0 W
  hk : w0.heap.size ≤ K
  hc : w0.heap.size ≤ C
  ck : C < K
  h5 : out.length + lft len out ≤ 5000
  h6 : m ≤ 5000
theorem own_later1 {base : Nat} {v : Value} {n : Nat} {xs : List Value} {w w' : World} {t : TypeId} (h : w.ownsRow base t 1 v n xs) (hk : ∀ g, base ≤ g → g < w.heap.size → w'.heap[g]? = w.heap[g]?) : w'.ownsRow base t 1 v n xs := by
  refine ⟨h.1, ?_⟩
  rcases h.2 with h2 | ⟨g, cap, cur, rfl, hb, hg, h3⟩
  · exact .inl h2
  · exact .inr ⟨g, cap, cur, rfl, hb, (hk g hb (Array.getElem?_eq_some_iff.1 hg).1).trans hg, h3⟩
theorem WkS.later {w0 W W' : World} {K C : Nat} {nsl : Value} {len : Nat} {out : List Nat} {m : Nat} (h : WkS w0 W K C nsl len out m) (hb : Below W.heap.size W W') : WkS w0 W' K C nsl len out m := by
  obtain ⟨ov, h1, h2⟩ := h.s
  exact ⟨⟨ov, h1.later hb, own_later1 h2 (fun g _ hg => hb.block g hg)⟩, h.c.later hb, h.bl.trans (hb.mono h.bl.size), h.hk, h.hc, h.ck, h.h5, h.h6⟩
/-- a place comes -/
theorem WkS.came {W : World} {K C : Nat} {nsl ov : Value} {len : Nat} {out : List Nat} {m a : Nat} (hb : Bx W K #[nsl, ov, .slice (some ⟨C, 0, none⟩) len len, .int .i64 (m : Int)] 71) (ho : W.ownsRow (K + 1) 3 1 ov out.length (out.map fun a : Nat => Value.int .i64 (a : Int)))
    (hc : Bx W C (iA (cm out) len) 3) (ck : C < K) (h : a ∉ out) : Bx (W.setCell ⟨C, a, none⟩ (.int .i64 (out.length : Int))) K #[nsl, ov, .slice (some ⟨C, 0, none⟩) len len, .int .i64 (m : Int)] 71 ∧
      (W.setCell ⟨C, a, none⟩ (.int .i64 (out.length : Int))).ownsRow (K + 1) 3 1 ov out.length (out.map fun a : Nat => Value.int .i64 (a : Int)) ∧ Bx (W.setCell ⟨C, a, none⟩ (.int .i64 (out.length : Int))) C (iA (cm (out ++ [a])) len) 3 := by
  refine ⟨hb.other (by omega) _ _, own_later1 ho (fun g hg _ => Below.heap_setCell _ _ _ _ (by show g ≠ C; omega)), ?_⟩
  have := hc.set a (.int .i64 (out.length : Int))
  rw [iA_set] at this
  rw [show iA (cm (out ++ [a])) len = iA (fun x => if x = a then (out.length : Int) else cm out x) len from iA_congr (fun i _ => cm_snoc out a h i)]
  exact this
end Go.Proofs.YtjlpdmpfemhkpaaGreatDoor.Grp
end

section
/- Package graph's walked, by its contract. -/
namespace Go.Proofs.YtjlpdmpfemhkpaaGreatDoor.Grp
open Utf Rws Pln Flw
open Go.RowKit
set_option linter.unusedSimpArgs false
set_option linter.unusedVariables false
set_option maxRecDepth 100000
set_option maxHeartbeats 4000000

structure WdS (w W : World) (K C len : Nat) (nsl : Value) (f : Nat → Int) : Prop where
  s : Bx W K #[nsl, .slice none 0 0, .slice (some ⟨C, 0, none⟩) len len, .int .i64 0] 71
  c : Bx W C (iA f len) 3
  bl : Below w.heap.size w W
  hk : w.heap.size ≤ K
  hc : w.heap.size ≤ C
  ck : C < K
theorem WdS.set {w W : World} {K C len : Nat} {nsl : Value} {f : Nat → Int} (h : WdS w W K C len nsl f) (i : Nat) (v : Int) : WdS w (W.setCell ⟨C, i, none⟩ (.int .i64 v)) K C len nsl (fun x => if x = i then v else f x) := by
  refine ⟨h.s.other (by have := h.ck; omega) _ _, ?_, h.bl.setCell (p := ⟨C, i, none⟩) h.hc _, h.hk, h.hc, h.ck⟩
  have := h.c.set i (.int .i64 v)
  rw [iA_set] at this
  exact this
end Go.Proofs.YtjlpdmpfemhkpaaGreatDoor.Grp
end

section
/- A region whose operations come in any order, walked by what was done: each operation once, whatever was done beside it. -/
namespace Go.Proofs.YtjlpdmpfemhkpaaGreatDoor.Grp
open Go
set_option linter.unusedSimpArgs false
set_option linter.unusedVariables false

/-- each operation stands behind those of dp, and waits for elder ones alone -/
def chkE (ops : Array Oper) (N : Nat) (dp : List (List Nat)) : Bool :=
  ops.size == N && (List.range N).all fun i => match ops[i]? with
    | none => false
    | some o => o.after.toList.all (fun e => !Region.binds .any e || decide (e.on < i)) && (dp.getD i []).all (fun d => o.after.toList.any (fun e => e.on == d && Region.binds .any e))
theorem getD_arr (s : List Bool) (i : Nat) (b : Bool) : s.toArray.getD i b = s.getD i b := by
  simp [Array.getD_eq_getD_getElem?, List.getD_eq_getElem?_getD]
theorem ready_dp {ops : Array Oper} {N : Nat} {dp : List (List Nat)} (hc : chkE ops N dp = true) {s : List Bool} (hl : s.length = N) {i : Nat} (h : i ∈ Region.ready .any ops s.toArray) :
    i < N ∧ s.getD i false = false ∧ ∀ d ∈ dp.getD i [], s.getD d false = true := by
  unfold chkE at hc
  rw [Bool.and_eq_true, beq_iff_eq, List.all_eq_true] at hc
  obtain ⟨h0, o, ho, h1⟩ := mem_ready.1 h
  have hi : i < N := by rw [← hc.1]; exact (Array.getElem?_eq_some_iff.1 ho).1
  have h2 := hc.2 i (List.mem_range.2 hi)
  rw [ho] at h2
  simp only [Bool.and_eq_true, List.all_eq_true] at h2
  rw [getD_arr] at h0
  refine ⟨hi, ?_, fun d hd => ?_⟩
  · rw [List.getD_eq_getElem?_getD, List.getElem?_eq_getElem (by omega)] at h0 ⊢
    exact h0
  · have h3 := h2.2 d hd
    rw [List.any_eq_true] at h3
    obtain ⟨e, he, h4⟩ := h3
    rw [Bool.and_eq_true, beq_iff_eq] at h4
    have := h1 e (by simpa using he) h4.2
    rw [getD_arr, h4.1] at this
    exact this
theorem ready_nil {ops : Array Oper} {N : Nat} {dp : List (List Nat)} (hc : chkE ops N dp = true) {s : List Bool} (hl : s.length = N) (h : Region.ready .any ops s.toArray = []) : s = List.replicate N true := by
  unfold chkE at hc
  rw [Bool.and_eq_true, beq_iff_eq, List.all_eq_true] at hc
  have key : ∀ j, j < N → s.getD j false = true := by
    intro j
    induction j using Nat.strongRecOn with
    | _ j ih =>
      intro hj
      cases hs : s.getD j false with
      | true => rfl
      | false =>
        exfalso
        have h2 := hc.2 j (List.mem_range.2 hj)
        cases ho : ops[j]? with
        | none => rw [ho] at h2; cases h2
        | some o =>
          rw [ho] at h2
          simp only [Bool.and_eq_true, List.all_eq_true, Bool.or_eq_true, Bool.not_eq_true', decide_eq_true_eq] at h2
          have : j ∈ Region.ready .any ops s.toArray := by
            refine mem_ready.2 ⟨?_, o, ho, fun e he hbd => ?_⟩
            · rw [getD_arr]
              rw [List.getD_eq_getElem?_getD, List.getElem?_eq_getElem (by omega)] at hs ⊢
              exact hs
            · have hlt : e.on < j := (h2.1 e (by simpa using he)).resolve_left (by rw [hbd]; simp)
              rw [getD_arr]
              exact ih e.on hlt (by omega)
          rw [h] at this
          cases this
  apply List.ext_getElem
  · rw [hl, List.length_replicate]
  · intro j h1 h2
    have := key j (by omega)
    rw [List.getD_eq_getElem?_getD, List.getElem?_eq_getElem h1] at this
    rw [List.getElem_replicate]
    exact this
theorem count_set {s : List Bool} {i : Nat} (hi : i < s.length) (h : s.getD i false = false) : (s.set i true).count false + 1 = s.count false := by
  induction s generalizing i with
  | nil => exact absurd hi (Nat.not_lt_zero _)
  | cons b t ih =>
    cases i with
    | zero =>
      simp only [List.getD_cons_zero] at h
      subst h
      simp
    | succ i =>
      simp only [List.getD_cons_succ] at h
      have := ih (by simpa using hi) h
      simp only [List.set_cons_succ, List.count_cons]
      omega
theorem any_walkE {P : Program} {ops : Array Oper} {Q : Exit → Act → World → Prop} {N : Nat} {dp : List (List Nat)} (hc : chkE ops N dp = true) {E : Type} (J : E → List Bool → Prop) (fr : E → List Bool → Act) (wd : E → List Bool → World)
    (hS : ∀ e s, J e s → s.length = N → ∀ i, i < N → s.getD i false = false → (∀ d ∈ dp.getD i [], s.getD d false = true) → ∀ K : Act → World → Prop, (∀ e', J e' (s.set i true) → K (fr e' (s.set i true)) (wd e' (s.set i true))) → wpOp P ops Q i K (fr e s) (wd e s))
    (hF : ∀ e, J e (List.replicate N true) → Q .normal (fr e (List.replicate N true)) (wd e (List.replicate N true))) :
    ∀ fuel e s, J e s → s.length = N → s.count false = fuel → wpAny P .any ops Q fuel s.toArray (fr e s) (wd e s) := by
  intro fuel
  induction fuel with
  | zero =>
    intro e s hJ hl hn
    have hr : Region.ready .any ops s.toArray = [] := by
      cases h : Region.ready .any ops s.toArray with
      | nil => rfl
      | cons i t =>
        obtain ⟨h1, h2, _⟩ := ready_dp hc hl (i := i) (by rw [h]; simp)
        have := count_set (s := s) (i := i) (by omega) h2
        omega
    have e1 := ready_nil hc hl hr
    refine ⟨hr, ?_⟩
    rw [e1] at hJ ⊢
    exact hF e hJ
  | succ fuel ih =>
    intro e s hJ hl hn
    refine ⟨fun hr => ?_, fun i hi => ?_⟩
    · have e1 := ready_nil hc hl hr
      rw [e1] at hJ ⊢
      exact hF e hJ
    · obtain ⟨h1, h2, h3⟩ := ready_dp hc hl hi
      refine hS e s hJ hl i h1 h2 h3 _ (fun e' hJ' => ?_)
      rw [List.setIfInBounds_toArray]
      have := count_set (s := s) (i := i) (by omega) h2
      exact ih e' (s.set i true) hJ' (by rw [List.length_set]; exact hl) (by omega)
theorem wp_region_E {P : Program} {id : Nat} {ops : Array Oper} {Q : Exit → Act → World → Prop} {a : Act} {w : World} (hm : P.follows .mixedOrders = true) {N : Nat} {dp : List (List Nat)} (hc : chkE ops N dp = true) {E : Type} (J : E → List Bool → Prop) (fr : E → List Bool → Act) (wd : E → List Bool → World)
    (hS : ∀ e s, J e s → s.length = N → ∀ i, i < N → s.getD i false = false → (∀ d ∈ dp.getD i [], s.getD d false = true) → ∀ K : Act → World → Prop, (∀ e', J e' (s.set i true) → K (fr e' (s.set i true)) (wd e' (s.set i true))) → wpOp P ops Q i K (fr e s) (wd e s))
    (hF : ∀ e, J e (List.replicate N true) → Q .normal (fr e (List.replicate N true)) (wd e (List.replicate N true)))
    (e : E) (h0 : J e (List.replicate N false)) (ha : fr e (List.replicate N false) = a) (hw : wd e (List.replicate N false) = w.drew) : (Code.region id ops true).wp P Q a w := by
  refine wp_region_any hm ?_
  have hN : ops.size = N := by
    unfold chkE at hc
    rw [Bool.and_eq_true, beq_iff_eq] at hc
    exact hc.1
  rw [hN]
  have := any_walkE (Q := Q) hc J fr wd hS hF N e (List.replicate N false) h0 (List.length_replicate ..) (by simp)
  rw [ha, hw, List.toArray_replicate] at this
  exact this
theorem wpOp_at {P : Program} {ops : Array Oper} {Q : Exit → Act → World → Prop} {i : Nat} {o : Oper} {K : Act → World → Prop} {a : Act} {w : World} (ho : ops[i]? = some o)
    (hw : Region.wanted o (yielded ops a.tmps) = true) (h : o.wp P a w K Q) : wpOp P ops Q i K a w := by
  unfold wpOp
  rw [ho]
  simp only [hw, if_true]
  exact .inl h
theorem wpOp_if {P : Program} {ops : Array Oper} {Q : Exit → Act → World → Prop} {i : Nat} {o : Oper} {K : Act → World → Prop} {a : Act} {w : World} (ho : ops[i]? = some o)
    (h : if Region.wanted o (yielded ops a.tmps) = true then o.wp P a w K Q else K (a.put o.dst undef) w) : wpOp P ops Q i K a w := by
  unfold wpOp
  rw [ho]
  simp only
  split
  · rename_i hw; rw [if_pos hw] at h; exact .inl h
  · rename_i hw; rw [if_neg hw] at h; exact h
/-- a slot that is filled once its operation is done -/
def slu (b : Bool) (v u : Value) : Value := if b = true then v else u
theorem slu_t (v u : Value) : slu true v u = v := rfl
theorem slu_f (v u : Value) : slu false v u = u := rfl
end Go.Proofs.YtjlpdmpfemhkpaaGreatDoor.Grp
end
