/- Several texts as one: IsoSet, IsoCls, IsoJn, IsoGo, IsoPrd, IsoLk. -/
import Derived.Test.YtcplgjclkjcekaaGreatDoorY13GraphDif
import Derived.Maps.OwnSet
import Derived.Maps.OwnIn
import Derived.DeepKeys4
import Derived.Test.YtcplgjclkjcekaaGreatDoorY29IsoPlain
import Derived.BigRegion
import Derived.Deep.RegionWith
import Derived.Deep.Cut
import Derived.Deep.RegionHeld3
import Derived.Deep.DrawnRows
import Derived.Maps.RangeWalk
section
/- The set of pairs, in memory. -/
namespace Go.Proofs.YtcplgjclkjcekaaGreatDoor.Alk
open Utf Rws Pln Flw Grp
open Go.RowKit Go.Shelf Go.Maps
set_option linter.unusedSimpArgs false
set_option linter.unusedVariables false
set_option maxRecDepth 100000
set_option maxHeartbeats 4000000

theorem Tryz.rowR : (105 : TypeId) < Tryz.prog.types.size := of_decide_eq_true (by kernel_rfl)
theorem Tryz.wideR : (match Tryz.prog.underlying 105 with | some (.array _ _) | some (.struct _) => true | _ => false) = true := by kernel_rfl
theorem Tryz.lawR : WideMaps.KeyLaw Tryz.prog 105 := deep_law_laid Tryz.laidG (m := 3) (by omega) Tryz.rowR (by kernel_rfl) Tryz.wideR
theorem Tryz.keyedR : Keyed Tryz.prog 105 := Keyed.of_law Tryz.lawR
theorem Tryz.undPs : Tryz.prog.underlying 100 = some (.map 105 123) := by kernel_rfl
theorem Tryz.cellsR : Tryz.prog.cellsOf 105 = 2 := by kernel_rfl
theorem Tryz.keyTR : Tryz.prog.keyType 105 = true := by kernel_rfl
theorem Tryz.undR0 : (match Tryz.prog.underlying 105 with | some (.struct fs) => fs.toList.map (fun f => (f.name != "_", f.type, f.offset)) | _ => []) = [(true, 3, 0), (true, 3, 1)] := by kernel_rfl
theorem undR : ∃ f0 f1, Tryz.prog.underlying 105 = some (.struct #[f0, f1]) ∧ (f0.name != "_") = true ∧ f0.type = 3 ∧ f0.offset = 0 ∧ (f1.name != "_") = true ∧ f1.type = 3 ∧ f1.offset = 1 := by
  have h := Tryz.undR0
  have hw := Tryz.wideR
  cases hu : Tryz.prog.underlying 105 with
  | none => rw [hu] at hw; cases hw
  | some d =>
    rw [hu] at h
    cases d with
    | struct fs =>
      simp only at h
      obtain ⟨l⟩ := fs
      match l, h with
      | [f0, f1], h =>
        simp only [List.map_cons, List.map_nil, List.cons.injEq, Prod.mk.injEq, and_true] at h
        exact ⟨f0, f1, rfl, h.1.1, h.1.2.1, h.1.2.2, h.2.1, h.2.2.1, h.2.2.2⟩
    | _ => simp at h
abbrev pv (p : Int × Int) : Value := .agg #[.int .i64 p.1, .int .i64 p.2]
/-- what a key is told as -/
def plt (p : Int × Int) : Lit := .string (keyBytes [.int .i64 p.1, .int .i64 p.2])
theorem keyOf_pv {p : Int × Int} (h1 : i64 p.1) (h2 : i64 p.2) : keyOf Tryz.prog 105 (pv p) = some (plt p) := by
  obtain ⟨f0, f1, hu, a0, a1, a2, b0, b1, b2⟩ := undR
  have hf : (pv p).formed Tryz.prog 105 = true := by simp [Value.formed, hu, Tryz.cellsR]
  have hwf : (Lit.int .i64 p.1).wf = true := by
    show (decide (IntKind.min .i64 ≤ p.1) && decide (p.1 ≤ IntKind.max .i64)) = true
    rw [Bool.and_eq_true, decide_eq_true_eq, decide_eq_true_eq]
    exact ⟨h1.1, h1.2⟩
  have hwf2 : (Lit.int .i64 p.2).wf = true := by
    show (decide (IntKind.min .i64 ≤ p.2) && decide (p.2 ≤ IntKind.max .i64)) = true
    rw [Bool.and_eq_true, decide_eq_true_eq, decide_eq_true_eq]
    exact ⟨h2.1, h2.2⟩
  obtain ⟨d, hd⟩ : ∃ d, Tryz.prog.types.size + 1 = d + 1 + 1 := ⟨Tryz.prog.types.size - 1, by have : 105 < Tryz.prog.types.size := Tryz.rowR; omega⟩
  have hi : Tryz.prog.keyLits (d + 1) 3 [.int .i64 p.1] = some [.int .i64 p.1] := by unfold Program.keyLits; rw [Tryz.undI]; simp [hwf]
  have hs : Tryz.prog.keyLits (d + 1) 3 [.int .i64 p.2] = some [.int .i64 p.2] := by unfold Program.keyLits; rw [Tryz.undI]; simp [hwf2]
  have h : Tryz.prog.keyLits (d + 1 + 1) 105 [.int .i64 p.1, .int .i64 p.2] = some [.int .i64 p.1, .int .i64 p.2] := by
    unfold Program.keyLits
    simp only [hu, List.length_cons, List.length_nil, Tryz.cellsR]
    rw [if_pos ⟨trivial, by simp [a0, b0]⟩]
    simp only [List.mapM_cons, List.mapM_nil, a1, a2, b1, b2, Tryz.cellsI, List.drop_zero, List.drop_succ_cons, List.take_succ_cons, List.take_zero, hi, hs]
    rfl
  unfold keyOf
  rw [hu]
  simp only [Tryz.keyTR, hf, Bool.and_self, if_true]
  rw [hd]
  show (Tryz.prog.keyLits (d + 1 + 1) 105 [.int .i64 p.1, .int .i64 p.2]).map _ = _
  rw [h]
  rfl
abbrev okr (p : Int × Int) : Prop := i64 p.1 ∧ i64 p.2
theorem plt_inj {p q : Int × Int} (hp : okr p) (hq : okr q) (e : plt p = plt q) : p = q := by
  have h := Tryz.keyedR.inj (keyOf_pv hp.1 hp.2) (by rw [e]; exact keyOf_pv hq.1 hq.2)
  simp only [pv, Value.agg.injEq, Array.mk.injEq, List.cons.injEq, Value.int.injEq, and_true, true_and] at h
  exact Prod.ext h.1 h.2
/-- a set in memory -/
def PsAt (w : World) (B : Nat) (ps : List (Int × Int)) : Prop := w.ownsMap (H := Unit) Tryz.prog 105 unitElem B ps.length (setOf (.agg []) (ps.map plt)) ∧ ∀ p ∈ ps, okr p
theorem has_ps {ps : List (Int × Int)} {p : Int × Int} (h : ∀ q ∈ ps, okr q) (hp : okr p) : has (setOf (H := Unit) (.agg []) (ps.map plt)) (plt p) = decide (p ∈ ps) := by
  rw [has_setOf _ _ _ (fun x hx => by obtain ⟨q, hq, rfl⟩ := List.mem_map.1 hx; exact Tryz.keyedR.key (keyOf_pv (h q hq).1 (h q hq).2)), Bool.eq_iff_iff, List.any_eq_true, decide_eq_true_eq]
  constructor
  · rintro ⟨x, hx, hs⟩
    obtain ⟨q, hq, rfl⟩ := List.mem_map.1 hx
    have := plt_inj (h q hq) hp (WideAt.sameKey_eq hs)
    rw [← this]
    exact hq
  · intro hm
    exact ⟨plt p, List.mem_map_of_mem hm, WideAt.sameKey_self (Tryz.keyedR.key (keyOf_pv hp.1 hp.2))⟩
theorem PsAt.kept {w w' : World} {B : Nat} {row : Option Nat} {ps : List (Int × Int)} (h : PsAt w B ps) (hg : w.grownBy w' row) (hne : some B ≠ row) : PsAt w' B ps := ⟨h.1.kept hg hne, h.2⟩
theorem PsAt.later {w w' : World} {B : Nat} {ps : List (Int × Int)} (h : PsAt w B ps) (hb : Below w.heap.size w w') : PsAt w' B ps := h.kept (row := none) ⟨hb.os, hb.tape, hb.output, hb.size, fun k hk _ => hb.block k hk⟩ (by simp)
theorem PsAt.new (w : World) : PsAt (w.alloc (.map #[] 0)) w.heap.size [] := ⟨World.ownsMap_made w _ _ _, fun p hp => absurd hp (by simp)⟩
theorem zeroUR (w : World) : (zeroValue 123).run Tryz.prog w = .ok (.agg #[]) w := by kernel_rfl
theorem ps_lookup {w : World} {B : Nat} {ps : List (Int × Int)} {p : Int × Int} (h : PsAt w B ps) (hp : okr p) :
    (Instr.lookup 100 (.map (some B)) (pv p) true).run Tryz.prog w = .ok (.tuple #[.agg #[], .bool (decide (p ∈ ps))]) w := by
  obtain ⟨v, q, h1, h2⟩ := World.ownsMap.look_ok h.1 Tryz.keyedR Tryz.undPs (zeroUR w) (unitElem_mk (H := Unit)) (keyOf_pv hp.1 hp.2)
  obtain ⟨rfl, _⟩ := unitElem_inv h2
  rw [h1, has_ps h.2 hp]
theorem ps_put {w : World} {B : Nat} {ps : List (Int × Int)} {p : Int × Int} (h : PsAt w B ps) (hp : okr p) (hr : ps.length < 9223372036854775807) :
    ∃ w', (Instr.mapUpdate 100 (.map (some B)) (pv p) (.agg #[])).run Tryz.prog w = .ok () w' ∧ PsAt w' B (ps ++ [p]) ∧ w.grownBy w' (some B) := by
  obtain ⟨w', h1, h2, h3⟩ := World.ownsMap.update h.1 Tryz.keyedR Tryz.undPs (by have : maxLen = 9223372036854775807 := rfl; omega) (keyOf_pv hp.1 hp.2) (unitElem_mk (H := Unit))
  refine ⟨w', h1, ⟨?_, fun q hq => ?_⟩, h3⟩
  · rw [List.map_append, show setOf (H := Unit) (.agg []) (ps.map plt ++ [p].map plt) = (setOf (.agg []) (ps.map plt)).put (plt p) (.agg []) from setOf_snoc _ _ _, List.length_append]
    exact h2
  · rcases List.mem_append.1 hq with hq | hq
    · exact h.2 q hq
    · rw [List.mem_singleton.1 hq]; exact hp
end Go.Proofs.YtcplgjclkjcekaaGreatDoor.Alk
end

section
/- A pairing in memory; (*pairing).class, by its contract. -/
namespace Go.Proofs.YtcplgjclkjcekaaGreatDoor.Alk
open Utf Rws Pln Flw Grp
open Go.RowKit Go.Maps
set_option linter.unusedSimpArgs false
set_option linter.unusedVariables false
set_option maxRecDepth 100000
set_option maxHeartbeats 4000000

/-- the pairs as the map has them -/
abbrev pI (P : List (Nat × Nat)) : List (Int × Int) := P.map fun p => ((p.1 : Int), (p.2 : Int))
/-- a pairing under way, in memory: its box K, its classes' row B, its map M -/
structure PrS (w0 W : World) (K B M : Nat) (sa sb : Value) (N cap : Nat) (C : Nat → Nat) (P : List (Nat × Nat)) : Prop where
  b : Bx W K #[sa, sb, .bool false, .map (some M), .slice (some ⟨B, 0, none⟩) N cap] 102
  c : ∃ arr, Bx W B arr 3 ∧ ∀ i, i < N → arr[i]? = some (.int .i64 (C i : Int))
  m : PsAt W M (pI P)
  bl : Below w0.heap.size w0 W
  hk : w0.heap.size ≤ K
  hb : w0.heap.size ≤ B
  hm : w0.heap.size ≤ M
  kb : K ≠ B
  km : K ≠ M
  bm : B ≠ M
variable {w0 W W' : World} {K B M : Nat} {sa sb : Value} {N cap : Nat} {C : Nat → Nat} {P : List (Nat × Nat)}
theorem PrS.later (h : PrS w0 W K B M sa sb N cap C P) (hb : Below W.heap.size W W') : PrS w0 W' K B M sa sb N cap C P := by
  obtain ⟨arr, h1, h2⟩ := h.c
  exact ⟨h.b.later hb, ⟨arr, h1.later hb, h2⟩, h.m.later hb, h.bl.trans (hb.mono h.bl.size), h.hk, h.hb, h.hm, h.kb, h.km, h.bm⟩
theorem PrS.at (h : PrS w0 W K B M sa sb N cap C P) {i : Nat} (hi : i < N) : W.cell? ⟨B, i, none⟩ = some (.int .i64 (C i : Int)) := by
  obtain ⟨arr, h1, h2⟩ := h.c
  exact (h1.cell i).trans (h2 i hi)
theorem PrS.fz (h : PrS w0 W K B M sa sb N cap C P) (i : Nat) : W.frozen? ⟨B, i, none⟩ = false := by
  obtain ⟨arr, h1, _⟩ := h.c
  exact h1.fz i
theorem grown_set (W : World) (B i : Nat) (v : Value) : W.grownBy (W.setCell ⟨B, i, none⟩ v) (some B) := by
  have h := (Below.refl B W).setCell (p := ⟨B, i, none⟩) (Nat.le_refl _) v
  exact ⟨h.os, h.tape, h.output, h.size, fun k _ hn => Below.heap_setCell _ _ _ _ (fun e => hn (by rw [show k = B from e]))⟩
theorem PrS.put (h : PrS w0 W K B M sa sb N cap C P) {i : Nat} (hi : i < N) (v : Nat) : PrS w0 (W.setCell ⟨B, i, none⟩ (.int .i64 (v : Int))) K B M sa sb N cap (putC C i v) P := by
  obtain ⟨arr, h1, h2⟩ := h.c
  refine ⟨h.b.other h.kb _ _, ⟨_, h1.set i _, fun j hj => ?_⟩, h.m.kept (grown_set W B i _) (fun e => h.bm (by injection e with e; exact e.symm)), h.bl.setCell (p := ⟨B, i, none⟩) h.hb _, h.hk, h.hb, h.hm, h.kb, h.km, h.bm⟩
  rw [Array.getElem?_setIfInBounds]
  unfold putC
  have hs : i < arr.size := by
    have := h2 i hi
    exact (Array.getElem?_eq_some_iff.1 this).1
  by_cases e : i = j
  · subst e
    rw [if_pos rfl, if_pos hs, if_pos rfl]
  · rw [if_neg e, if_neg (Ne.symm e)]
    exact h2 j hj
theorem PrS.drew (h : PrS w0 W K B M sa sb N cap C P) : PrS w0 W.drew K B M sa sb N cap C P := h.later (Below.refl _ W).drew
/-- all but the classes' row and the map are as they were -/
def Fr2 (B M : Nat) (W W' : World) : Prop := W.heap.size ≤ W'.heap.size ∧ ∀ j, j < W.heap.size → j ≠ B → j ≠ M → W'.heap[j]? = W.heap[j]?
theorem Fr2.refl (B M : Nat) (W : World) : Fr2 B M W W := ⟨Nat.le_refl _, fun _ _ _ _ => rfl⟩
theorem Fr2.trans {W'' : World} (h : Fr2 B M W W') (k : Fr2 B M W' W'') : Fr2 B M W W'' := ⟨Nat.le_trans h.1 k.1, fun j h1 h2 h3 => (k.2 j (Nat.lt_of_lt_of_le h1 h.1) h2 h3).trans (h.2 j h1 h2 h3)⟩
theorem Fr2.below (h : Below W.heap.size W W') : Fr2 B M W W' := ⟨h.size, fun j h1 _ _ => h.block j h1⟩
theorem Fr2.put (h : Fr2 B M W W') (i : Nat) (v : Value) : Fr2 B M W (W'.setCell ⟨B, i, none⟩ v) := ⟨by rw [World.size_setCell]; exact h.1, fun j h1 h2 h3 => (Below.heap_setCell _ _ _ _ (fun e => h2 e)).trans (h.2 j h1 h2 h3)⟩
theorem Fr2.bx {k : Nat} {cs : Array Value} {t : TypeId} (h : Fr2 B M W W') (hb : Bx W k cs t) (h1 : k ≠ B) (h2 : k ≠ M) : Bx W' k cs t := (h.2 k hb.lt h1 h2).trans hb
theorem class_any {r h : Nat → Nat} (hN : N ≤ 100000) (H : Hid (Cls N C r h)) (HS : Hid (PrS w0 W K B M sa sb N cap C P)) {x : Nat} (hx : x < N) :
    Calls Tryz.prog 73 #[.pointer (some ⟨K, 0, none⟩), .int .i64 (x : Int)] W fun e W' => ∃ C', e = .returned (.int .i64 (r x : Int)) ∧ Hid (PrS w0 W' K B M sa sb N cap C' P) ∧ Hid (Cls N C' r h) ∧ Hid (Fr2 B M W W') := by
  obtain ⟨rx, Hrx⟩ : ∃ rx, Hid (rx = r x) := ⟨_, rfl⟩
  rw [← Hrx.out]
  go_enter Tryz.func73, Tryz.ntmps73
  go_wp2_with fail
  go_loopw [1] (fun i wr => ∃ (z : Nat) (D : Nat → Nat), z < N ∧ i = .int .i64 (z : Int) ∧ Hid (r z = rx) ∧ Hid (PrS w0 wr K B M sa sb N cap D P) ∧ Hid (Cls N D r h) ∧ Hid (Fr2 B M W wr)) (fun i _ => h (intOf i).toNat)
  case atStart => exact ⟨x, C, hx, rfl, Hrx.out.symm, HS, H, Fr2.refl _ _ _⟩
  case round =>
    obtain ⟨z, D, hz, rfl, HR, HP, HC, HF⟩ := hrel
    have c4 : wr.cell? ⟨K, 4, none⟩ = some (.slice (some ⟨B, 0, none⟩) N cap) := HP.out.b.cell 4
    have x0 := HP.out.at hz
    obtain ⟨v, Hv⟩ : ∃ v, Hid (v = D z) := ⟨_, rfl⟩
    have hvN : v < N := by rw [Hv.out]; exact HC.out.lt z hz
    rw [← Hv.out] at x0
    clear H HS hx Hrx
    by_cases hq : v = z
    · have HE : Hid (rx = z) := by
        have := HC.out.en z hz (Hv.out.symm.trans hq)
        exact HR.out.symm.trans this
      subst hq
      clear Hv
      go_wp2
      go_ret
      exact ⟨D, by rw [HE.out]; rfl, HP, HC, HF⟩
    · have x1 := HP.out.at hvN
      obtain ⟨u, Hu⟩ : ∃ u, Hid (u = D v) := ⟨_, rfl⟩
      have huN : u < N := by rw [Hu.out]; exact HC.out.lt v hvN
      rw [← Hu.out] at x1
      have hne : ¬ (v : Int) = (z : Int) := by omega
      have hne' : ((v : Int) != (z : Int)) = true := by simpa using hne
      have z0 := HP.out.fz z
      have HP2 : Hid (PrS w0 ((wr.setCell ⟨B, z, none⟩ (.int .i64 (u : Int))).drew) K B M sa sb N cap (putC D z u) P) := (HP.out.put hz u).drew
      have HF2 : Hid (Fr2 B M W ((wr.setCell ⟨B, z, none⟩ (.int .i64 (u : Int))).drew)) := (HF.out.put z _).trans (Fr2.below (Below.refl _ _).drew)
      have HC2 : Hid (Cls N (putC D z u) r h) := by
        have := HC.out.halve hz (by rw [← Hv.out]; exact hq)
        rw [← Hv.out, ← Hu.out] at this
        exact this
      have HM : Hid (h u < h z ∧ r u = rx) := by
        have d1 := HC.out.dn z hz (by rw [← Hv.out]; exact hq)
        rw [← Hv.out] at d1
        have r1 := HC.out.ro z hz
        rw [← Hv.out] at r1
        have r2 := HC.out.ro v hvN
        rw [← Hu.out] at r2
        refine ⟨?_, r2.trans (r1.trans HR.out)⟩
        by_cases q : u = v
        · rw [q]; exact d1
        · have := HC.out.dn v hvN (by rw [← Hu.out]; exact q)
          rw [← Hu.out] at this
          omega
      clear hq Hv Hu HC HR HF HP
      go_wp2_with fail
      go_region
      generalize (wr.setCell ⟨B, z, none⟩ (.int .i64 (u : Int))).drew = W2 at HP2 HF2 ⊢
      have e4 : W2.cell? ⟨K, 4, none⟩ = some (.slice (some ⟨B, 0, none⟩) N cap) := HP2.out.b.cell 4
      have e0 : W2.cell? ⟨B, z, none⟩ = some (.int .i64 (u : Int)) := by
        rw [HP2.out.at hz]; unfold putC; rw [if_pos rfl]
      clear c4 x0 x1 z0
      go_wp2
      go_roundw
      case rel => exact ⟨u, putC D z u, huN, rfl, HM.out.2, HP2, HC2, HF2⟩
      case measure => simp [intOf]; exact HM.out.1
end Go.Proofs.YtcplgjclkjcekaaGreatDoor.Alk
end

section
/- (*pairing).join, by its contract. -/
namespace Go.Proofs.YtcplgjclkjcekaaGreatDoor.Alk
open Utf Rws Pln Flw Grp
open Go.RowKit Go.Maps
set_option linter.unusedSimpArgs false
set_option linter.unusedVariables false
set_option maxRecDepth 100000
set_option maxHeartbeats 4000000
attribute [local go_sem ↓] Go.wp_at_zero Go.wp_at_succ

variable {w0 W W' : World} {K B M : Nat} {sa sb : Value} {N cap : Nat} {C : Nat → Nat} {P : List (Nat × Nat)}
/-- joining under way: the pair's box S -/
structure JnS (w0 W0 W : World) (K B M S : Nat) (sa sb : Value) (N cap : Nat) (C r h : Nat → Nat) (P : List (Nat × Nat)) (x y : Int) : Prop where
  p : PrS w0 W K B M sa sb N cap C P
  c : Cls N C r h
  f : Fr2 B M W0 W
  s : Bx W S #[.int .i64 x, .int .i64 y] 105
  sb : S ≠ B
  sm : S ≠ M
theorem JnS.cs {W0 : World} {S : Nat} {r h : Nat → Nat} {x y : Int} (H : JnS w0 W0 W K B M S sa sb N cap C r h P x y) : W.cell? ⟨K, 0, none⟩ = some sa ∧ W.cell? ⟨S, 0, none⟩ = some (.int .i64 x) ∧ W.cell? ⟨S, 1, none⟩ = some (.int .i64 y) := ⟨H.p.b.cell 0, H.s.cell 0, H.s.cell 1⟩
theorem jnR_self (r : Nat → Nat) (a : Nat) : jnR r a a = r := by
  funext z
  unfold jnR
  split
  · rename_i e; exact e.symm
  · rfl
theorem join_any {ada : Option Addr} {n m capa : Nat} {r h : Nat → Nat} (hN : n + m ≤ 100000) (H : Hid (Cls (n + m) C r h)) (HS : Hid (PrS w0 W K B M (.slice ada n capa) sb (n + m) cap C P)) {x y : Nat} (hx : x < n) (hy : y < m) :
    Calls Tryz.prog 64 #[.pointer (some ⟨K, 0, none⟩), .agg #[.int .i64 (x : Int), .int .i64 (y : Int)]] W fun e W' => ∃ C' h', e = .returned (.bool (decide (r x ≠ r (n + y)))) ∧ Hid (PrS w0 W' K B M (.slice ada n capa) sb (n + m) cap C' P) ∧ Hid (Cls (n + m) C' (jnR r (r x) (r (n + y))) h') ∧ Hid (Fr2 B M W W') := by
  have b1 := below_alloc W (.cells #[.int .i64 (x : Int), .int .i64 (y : Int)] 105)
  have hBl : B < W.heap.size := by obtain ⟨arr, h1, _⟩ := HS.out.c; exact h1.lt
  have hMl : M < W.heap.size := by
    obtain ⟨es, cl, h1, _⟩ := HS.out.m.1
    exact (Array.getElem?_eq_some_iff.1 h1).1
  have h0 : Hid (JnS w0 W (W.alloc (.cells #[.int .i64 (x : Int), .int .i64 (y : Int)] 105)) K B M W.heap.size (.slice ada n capa) sb (n + m) cap C r h P (x : Int) (y : Int)) :=
    ⟨HS.out.later b1, H.out, Fr2.below b1, Bx.new _ _ _, by omega, by omega⟩
  obtain ⟨S, hS⟩ : ∃ S, W.heap.size = S := ⟨_, rfl⟩
  have HCL : Hid (∀ W1 C1 z, z < n + m → Hid (JnS w0 W W1 K B M S (.slice ada n capa) sb (n + m) cap C1 r h P (x : Int) (y : Int)) → Calls Tryz.prog 73 #[.pointer (some ⟨K, 0, none⟩), .int .i64 (z : Int)] W1 fun e W2 => ∃ C2, e = .returned (.int .i64 (r z : Int)) ∧ Hid (JnS w0 W W2 K B M S (.slice ada n capa) sb (n + m) cap C2 r h P (x : Int) (y : Int))) := fun W1 C1 z hz h1 => (class_any hN h1.out.c h1.out.p hz).mono (fun e W2 q => by
    obtain ⟨C2, q1, q2, q3, q4⟩ := q
    exact ⟨C2, q1, q2.out, q3.out, h1.out.f.trans q4.out, q4.out.bx h1.out.s h1.out.sb h1.out.sm, h1.out.sb, h1.out.sm⟩)
  have hra : r x < n + m := H.out.rl x (by omega)
  have hrb : r (n + y) < n + m := H.out.rl (n + y) (by omega)
  have HI : Hid (r (r x) = r x ∧ r (r (n + y)) = r (n + y)) := by
    have e1 := H.out.fx x (by omega)
    have e2 := H.out.fx (n + y) (by omega)
    exact ⟨H.out.en _ hra e1, H.out.en _ hrb e2⟩
  have HCL1 := fun W1 C1 => HCL.out W1 C1 x (by omega)
  have HCL2 := fun W1 C1 => HCL.out W1 C1 (n + y) (by omega)
  have HC1 : Hid (∀ W1 C1, Hid (JnS w0 W W1 K B M S (.slice ada n capa) sb (n + m) cap C1 r h P (x : Int) (y : Int)) → Calls Tryz.prog 73 #[.pointer (some ⟨K, 0, none⟩), .int .i64 (x : Int)] W1 fun e W2 => ∃ C2, e = .returned (.int .i64 (r x : Int)) ∧ Hid (JnS w0 W W2 K B M S (.slice ada n capa) sb (n + m) cap C2 r h P (x : Int) (y : Int))) := HCL1
  have HC2 : Hid (∀ W1 C1, Hid (JnS w0 W W1 K B M S (.slice ada n capa) sb (n + m) cap C1 r h P (x : Int) (y : Int)) → Calls Tryz.prog 73 #[.pointer (some ⟨K, 0, none⟩), .int .i64 ((n : Int) + (y : Int))] W1 fun e W2 => ∃ C2, e = .returned (.int .i64 (r (n + y) : Int)) ∧ Hid (JnS w0 W W2 K B M S (.slice ada n capa) sb (n + m) cap C2 r h P (x : Int) (y : Int))) := fun W1 C1 h => by
    have := HCL2 W1 C1 h
    rw [Int.natCast_add] at this
    exact this
  obtain ⟨ra, Hra⟩ : ∃ ra, Hid (ra = r x) := ⟨_, rfl⟩
  obtain ⟨rb, Hrb⟩ : ∃ rb, Hid (rb = r (n + y)) := ⟨_, rfl⟩
  rw [← Hra.out] at hra HI HC1 ⊢
  rw [← Hrb.out] at hrb HI HC2 ⊢
  clear HCL HCL1 HCL2 H HS b1 hBl hMl Hra Hrb
  go_enter Tryz.func64, Tryz.ntmps64
  go_wp2_with fail
  generalize W.alloc (.cells #[.int .i64 (x : Int), .int .i64 (y : Int)] 105) = W0 at h0 ⊢
  rw [hS] at h0
  clear hS
  have h1 : Hid (JnS w0 W W0.drew K B M S (.slice ada n capa) sb (n + m) cap C r h P (x : Int) (y : Int)) := ⟨h0.out.p.drew, h0.out.c, h0.out.f.trans (Fr2.below (Below.refl _ _).drew), h0.out.s, h0.out.sb, h0.out.sm⟩
  obtain ⟨k0, s0, s1⟩ := h0.out.cs
  clear h0
  obtain ⟨JS, hJS⟩ : ∃ JS : World → Prop, Hid (∀ w', JS w' ↔ ∃ C1, JnS w0 W w' K B M S (.slice ada n capa) sb (n + m) cap C1 r h P (x : Int) (y : Int)) := ⟨fun w' => ∃ C1, JnS w0 W w' K B M S (.slice ada n capa) sb (n + m) cap C1 r h P (x : Int) (y : Int), fun _ => Iff.rfl⟩
  obtain ⟨SA, hA1, hA2, HC⟩ : ∃ SA : Value → Nat → Prop, SA (.int .i64 (x : Int)) ra ∧ SA (.int .i64 ((n : Int) + (y : Int))) rb ∧ Hid (∀ W1 v z, SA v z → JS W1 → Calls Tryz.prog 73 #[.pointer (some ⟨K, 0, none⟩), v] W1 fun e W2 => e = .returned (.int .i64 (z : Int)) ∧ JS W2 ∧ W2.cell? ⟨K, 0, none⟩ = some (.slice ada n capa) ∧ W2.cell? ⟨S, 0, none⟩ = some (.int .i64 (x : Int)) ∧ W2.cell? ⟨S, 1, none⟩ = some (.int .i64 (y : Int))) :=
    ⟨fun v z => ∀ W1 C1, Hid (JnS w0 W W1 K B M S (.slice ada n capa) sb (n + m) cap C1 r h P (x : Int) (y : Int)) → Calls Tryz.prog 73 #[.pointer (some ⟨K, 0, none⟩), v] W1 fun e W2 => ∃ C2, e = .returned (.int .i64 (z : Int)) ∧ Hid (JnS w0 W W2 K B M S (.slice ada n capa) sb (n + m) cap C2 r h P (x : Int) (y : Int)), HC1.out, HC2.out, fun W1 v z hs h1 => by
      obtain ⟨C1, h1⟩ := (hJS.out _).1 h1
      exact (hs W1 C1 h1).mono (fun e W2 q => by obtain ⟨C2, q1, q2⟩ := q; exact ⟨q1, (hJS.out _).2 ⟨C2, q2.out⟩, q2.out.cs⟩)⟩
  have hwr : IntKind.i64.wrap ((n : Int) + (y : Int)) = (n : Int) + (y : Int) := by
    have e : ((n + y : Nat) : Int) = (n : Int) + (y : Int) := Int.natCast_add n y
    rw [← e]
    exact Utf.wrap_small (n + y) (by omega)
  have hj : JS W0.drew := (hJS.out _).2 ⟨C, h1.out⟩
  clear HC1 HC2 h1
  go_region_held3 (fun w' => JS w' ∧ w'.cell? ⟨K, 0, none⟩ = some (.slice ada n capa) ∧ w'.cell? ⟨S, 0, none⟩ = some (.int .i64 (x : Int)) ∧ w'.cell? ⟨S, 1, none⟩ = some (.int .i64 (y : Int))) (go_keep)
    (first | (go_at_call 73; refine (HC.out _ _ _ (by first | exact hA1 | exact hA2) (by assumption)).mono ?_; rintro e w1 ⟨rfl, j1, k1, s1, t1⟩))
  obtain ⟨C2, H2'⟩ := (hJS.out _).1 j1
  have H2 : Hid (JnS w0 W w1 K B M S (.slice ada n capa) sb (n + m) cap C2 r h P (x : Int) (y : Int)) := H2'
  have c4 : w1.cell? ⟨K, 4, none⟩ = some (.slice (some ⟨B, 0, none⟩) (n + m) cap) := H2.out.p.b.cell 4
  have x0 := H2.out.p.at hra
  have z0 := H2.out.p.fz ra
  have HP : Hid (PrS w0 (w1.setCell ⟨B, ra, none⟩ (.int .i64 (rb : Int))) K B M (.slice ada n capa) sb (n + m) cap (putC C2 ra rb) P) := H2.out.p.put hra rb
  have HF : Hid (Fr2 B M W (w1.setCell ⟨B, ra, none⟩ (.int .i64 (rb : Int)))) := H2.out.f.put ra _
  have HCC : Hid (∃ h', Cls (n + m) (putC C2 ra rb) (jnR r ra rb) h') := by
    by_cases q : ra = rb
    · subst q
      rw [jnR_self]
      have hfx := H2.out.c.fx ra hra
      rw [HI.out.1] at hfx
      refine ⟨h, ?_⟩
      have : putC C2 ra ra = C2 := by
        funext z
        unfold putC
        split
        · rename_i e; rw [e]; exact hfx.symm
        · rfl
      rw [this]
      exact H2.out.c
    · exact ⟨_, H2.out.c.join hra hrb HI.out.1 HI.out.2 q⟩
  obtain ⟨h', HC'⟩ := HCC.out
  have HC2 : Hid (Cls (n + m) (putC C2 ra rb) (jnR r ra rb) h') := HC'
  clear HC' HCC H2 H2' HI hJS HC j1 k1 s1 t1 hA1 hA2 hwr hj
  go_wp2
  go_ret
  refine ⟨_, _, ?_, HP, HC2, HF⟩
  refine congrArg (fun q => Ending.returned (.bool q)) ?_
  rw [Bool.eq_iff_iff]
  simp
  omega
end Go.Proofs.YtcplgjclkjcekaaGreatDoor.Alk
end

section
/- (*pairing).goTo, by its contract. -/
namespace Go.Proofs.YtcplgjclkjcekaaGreatDoor.Alk
open Utf Rws Pln Flw Grp
open Go.RowKit Go.Maps
set_option linter.unusedSimpArgs false
set_option linter.unusedVariables false
set_option maxRecDepth 100000
set_option maxHeartbeats 4000000
attribute [local go_sem ↓] Go.wp_at_zero Go.wp_at_succ

variable {w0 W W' : World} {K B M : Nat} {ada adb : Option Addr} {n m capa capb cap : Nat} {C r h : Nat → Nat} {P : List (Nat × Nat)}
/-- a pairing under way: memory, classes, and what made them -/
structure GoS (w0 W : World) (K B M : Nat) (ada : Option Addr) (n capa : Nat) (adb : Option Addr) (m capb cap : Nat) (C r h : Nat → Nat) (P : List (Nat × Nat)) : Prop where
  p : PrS w0 W K B M (.slice ada n capa) (.slice adb m capb) (n + m) cap C P
  c : Cls (n + m) C r h
  g : Gen n r P
  i : ∀ q ∈ P, q.1 < n ∧ q.2 < m
  l : P.length + rts (n + m) r ≤ 100000
theorem GoS.later (H : GoS w0 W K B M ada n capa adb m capb cap C r h P) (hb : Below W.heap.size W W') : GoS w0 W' K B M ada n capa adb m capb cap C r h P := ⟨H.p.later hb, H.c, H.g, H.i, H.l⟩
theorem PrS.lts {sa sb : Value} {N : Nat} (H : PrS w0 W K B M sa sb N cap C P) : K < W.heap.size ∧ B < W.heap.size ∧ M < W.heap.size := by
  obtain ⟨arr, h1, _⟩ := H.c
  exact ⟨H.b.lt, h1.lt, World.ownsMap.lt H.m.1⟩
/-- what goTo answers -/
def GoRes (w0 : World) (K B M : Nat) (ada : Option Addr) (n capa : Nat) (adb : Option Addr) (m capb cap : Nat) (nsa nsb : List Nd) (W : World) (r : Nat → Nat) (P : List (Nat × Nat)) (x y : Nat) (e : Ending) (W' : World) : Prop :=
  ∃ q r' h' C' D, e = .returned (.bool q) ∧ Hid (GoS w0 W' K B M ada n capa adb m capb cap C' r' h' (P ++ D)) ∧ Hid (Gone n (lab nsa) (lab nsb) (kd nsa) (kd nsb) r r' D x y q) ∧ Hid (Fr2 B M W W') ∧ Hid (rts (n + m) r' ≤ rts (n + m) r)
/-- a piece of code that ends in one frame and one world, however it is gone through -/
theorem wp_once {P : Program} {c : Code} {Q : Exit → Go.Act → World → Prop} {a : Go.Act} {w : World} {A : Go.Act} {X : World} (h1 : c.wp P (fun e a' w' => e = .normal ∧ a' = A ∧ w' = X) a w) (h2 : Q .normal A X) : c.wp P Q a w :=
  Code.wp_mono (fun e a w h => by obtain ⟨rfl, rfl, rfl⟩ := h; exact h2) h1
/-- the same, with two new blocks in one order or the other -/
theorem wp_two {P : Program} {c : Code} {Q : Exit → Go.Act → World → Prop} {a : Go.Act} {w : World} {F : Nat → Nat → Go.Act} {I : Nat → Nat → World → Prop} (h1 : c.wp P (fun e a' w' => e = .normal ∧ ∃ i j, a' = F i j ∧ I i j w') a w) (h2 : ∀ i j w', I i j w' → Q .normal (F i j) w') : c.wp P Q a w :=
  Code.wp_mono (fun e a w h => by obtain ⟨rfl, i, j, rfl, h⟩ := h; exact h2 i j w h) h1
def TwoB (W : World) (t : TypeId) (ca cb : Array Value) (i j : Nat) (w' : World) : Prop := Bx w' i ca t ∧ Bx w' j cb t ∧ Below W.heap.size W w' ∧ W.heap.size ≤ i ∧ W.heap.size ≤ j ∧ i ≠ j
theorem two_a (W : World) (t : TypeId) (ca cb : Array Value) : TwoB W t ca cb W.heap.size (W.heap.size + 1) ((W.alloc (.cells ca t)).alloc (.cells cb t)).drew := by
  have b1 := below_alloc W (.cells ca t)
  have s1 : (W.alloc (.cells ca t)).heap.size = W.heap.size + 1 := World.size_alloc _ _
  have b2 := below_alloc (W.alloc (.cells ca t)) (.cells cb t)
  have n2 := Bx.new (W.alloc (.cells ca t)) cb t
  rw [s1] at n2
  have n1 := (Bx.new W ca t).later b2
  exact ⟨n1, n2, (b1.trans (b2.mono b1.size)).drew, Nat.le_refl _, by omega, by omega⟩
theorem two_b (W : World) (t : TypeId) (ca cb : Array Value) : TwoB W t ca cb (W.heap.size + 1) W.heap.size ((W.alloc (.cells cb t)).alloc (.cells ca t)).drew := by
  obtain ⟨h1, h2, h3, h4, h5, h6⟩ := two_a W t cb ca
  exact ⟨h2, h1, h3, h5, h4, h6.symm⟩
theorem okr_nat {n m x y : Nat} (hN : n + m ≤ 100000) (hx : x < n) (hy : y < m) : okr ((x : Int), (y : Int)) := by
  refine ⟨⟨?_, ?_⟩, ⟨?_, ?_⟩⟩ <;> simp only <;> omega
theorem pI_mem {P : List (Nat × Nat)} {x y : Nat} : ((x : Int), (y : Int)) ∈ pI P ↔ (x, y) ∈ P := by
  unfold pI
  rw [List.mem_map]
  constructor
  · rintro ⟨p, hp, e⟩
    injection e with e1 e2
    have : p = (x, y) := Prod.ext (by omega) (by omega)
    rw [← this]; exact hp
  · intro h; exact ⟨_, h, rfl⟩
theorem go_core {nsa nsb : List Nd} (hN : n + m ≤ 100000) (HNA : Hid (NAt w0 ada n nsa)) (HNB : Hid (NAt w0 adb m nsb)) (HKA : Hid (∀ nd ∈ nsa, ∀ a ∈ nd.kids, isP n a = true)) (HKB : Hid (∀ nd ∈ nsb, ∀ a ∈ nd.kids, isP m a = true))
    (x y : Nat) (hx : x < n) (hy : y < m) (HS : Hid (GoS w0 W K B M ada n capa adb m capb cap C r h P))
    (HI : Hid (∀ (x' y' : Nat) (W1 : World) (C1 r1 h1 : Nat → Nat) (P1 : List (Nat × Nat)), rts (n + m) r1 < rts (n + m) r → x' < n → y' < m → GoS w0 W1 K B M ada n capa adb m capb cap C1 r1 h1 P1 →
      Calls Tryz.prog 51 #[.pointer (some ⟨K, 0, none⟩), .agg #[.int .i64 (x' : Int), .int .i64 (y' : Int)]] W1 (GoRes w0 K B M ada n capa adb m capb cap nsa nsb W1 r1 P1 x' y'))) :
    Calls Tryz.prog 51 #[.pointer (some ⟨K, 0, none⟩), .agg #[.int .i64 (x : Int), .int .i64 (y : Int)]] W (GoRes w0 K B M ada n capa adb m capb cap nsa nsb W r P x y) := by
  have b1 := below_alloc W (.cells #[.int .i64 (x : Int), .int .i64 (y : Int)] 105)
  have n1 := Bx.new W #[.int .i64 (x : Int), .int .i64 (y : Int)] 105
  have hl := HS.out.p.lts
  have HS1 : Hid (GoS w0 (W.alloc (.cells #[.int .i64 (x : Int), .int .i64 (y : Int)] 105)) K B M ada n capa adb m capb cap C r h P) := HS.out.later b1
  have HB1 : Hid (Bx (W.alloc (.cells #[.int .i64 (x : Int), .int .i64 (y : Int)] 105)) W.heap.size #[.int .i64 (x : Int), .int .i64 (y : Int)] 105 ∧ Below W.heap.size W (W.alloc (.cells #[.int .i64 (x : Int), .int .i64 (y : Int)] 105)) ∧ (W.alloc (.cells #[.int .i64 (x : Int), .int .i64 (y : Int)] 105)).heap.size = W.heap.size + 1) := ⟨n1, b1, World.size_alloc _ _⟩
  have hok := okr_nat hN hx hy
  clear b1 n1
  go_enter Tryz.func51, Tryz.ntmps51
  go_wp2_with fail
  generalize W.alloc (.cells #[.int .i64 (x : Int), .int .i64 (y : Int)] 105) = W1 at HS1 HB1 ⊢
  obtain ⟨S, HSz⟩ : ∃ S, Hid (W.heap.size = S) := ⟨_, rfl⟩
  rw [HSz.out] at HB1 ⊢
  have s0 : W1.cell? ⟨S, 0, none⟩ = some (.int .i64 (x : Int)) := HB1.out.1.cell 0
  have s1 : W1.cell? ⟨S, 1, none⟩ = some (.int .i64 (y : Int)) := HB1.out.1.cell 1
  have k3 : W1.cell? ⟨K, 3, none⟩ = some (.map (some M)) := HS1.out.p.b.cell 3
  have hlk1 := ps_lookup (HS1.out.p.m.later (Below.refl _ W1).drew) hok
  have hlk2 := ps_lookup ((HS1.out.p.m.later (below_alloc W1 (.cells #[] 123))).later (Below.refl _ _).drew) hok
  have hS1 : S < W1.heap.size := HB1.out.1.lt
  have hK1 : K < W1.heap.size := HS1.out.p.b.lt
  obtain ⟨q, Hq⟩ : ∃ q : Bool, Hid (q = decide (((x : Int), (y : Int)) ∈ pI P)) := ⟨_, rfl⟩
  rw [← Hq.out] at hlk1 hlk2
  apply wp_once
  case h1 =>
    go_region
    all_goals exact ⟨rfl, rfl, rfl⟩
  have bb : Below W1.heap.size W1 (W1.alloc (.cells #[] 123)).drew := (below_alloc W1 _).drew
  have HS2 : Hid (GoS w0 (W1.alloc (.cells #[] 123)).drew K B M ada n capa adb m capb cap C r h P) := HS1.out.later bb
  have HB2 : Hid (Bx (W1.alloc (.cells #[] 123)).drew S #[.int .i64 (x : Int), .int .i64 (y : Int)] 105 ∧ Fr2 B M W (W1.alloc (.cells #[] 123)).drew) := by
    have b0 := HB1.out.2.1
    rw [← HSz.out] at b0
    exact ⟨HB1.out.1.later bb, (Fr2.below b0).trans (Fr2.below bb)⟩
  have HSB : Hid (S ≠ B ∧ S ≠ M ∧ S ≠ K) := by
    have := HSz.out
    refine ⟨?_, ?_, ?_⟩ <;> omega
  clear hlk1 hlk2 s0 s1 k3 hS1 hK1 HS1 HB1 bb HSz HS hl
  generalize W1.heap.size = T
  generalize (W1.alloc (.cells #[] 123)).drew = W2 at HS2 HB2 ⊢
  have s0 : W2.cell? ⟨S, 0, none⟩ = some (.int .i64 (x : Int)) := HB2.out.1.cell 0
  have s1 : W2.cell? ⟨S, 1, none⟩ = some (.int .i64 (y : Int)) := HB2.out.1.cell 1
  cases q
  case true =>
    have HE : Hid (r x = r (n + y)) := HS2.out.g.1 (x, y) (pI_mem.1 (of_decide_eq_true Hq.out.symm))
    go_wp2
    go_ret
    exact ⟨true, r, h, C, [], rfl, by rw [List.append_nil]; exact HS2.out, Gone.old HE.out, HB2.out.2, Nat.le_refl _⟩
  case false =>
    have HNI : Hid ((x, y) ∉ P) := fun hm => absurd (Hq.out.trans (decide_eq_true (pI_mem.2 hm))) (by decide)
    have HJ : Hid (Calls Tryz.prog 64 #[.pointer (some ⟨K, 0, none⟩), .agg #[.int .i64 (x : Int), .int .i64 (y : Int)]] W2 fun e W3 => ∃ C' h', e = .returned (.bool (decide (r x ≠ r (n + y)))) ∧ Hid (PrS w0 W3 K B M (.slice ada n capa) (.slice adb m capb) (n + m) cap C' P ∧ Cls (n + m) C' (jnR r (r x) (r (n + y))) h' ∧ Fr2 B M W W3 ∧ Bx W3 S #[.int .i64 (x : Int), .int .i64 (y : Int)] 105)) :=
      (join_any hN HS2.out.c HS2.out.p hx hy).mono (fun e W3 q => by
        obtain ⟨C', h', q1, q2, q3, q4⟩ := q
        exact ⟨C', h', q1, q2.out, q3.out, HB2.out.2.trans q4.out, q4.out.bx HB2.out.1 HSB.out.1 HSB.out.2.1⟩)
    clear Hq
    by_cases hrr : r x = r (n + y)
    · have HE : Hid (r x = r (n + y)) := hrr
      have hd : decide (r x ≠ r (n + y)) = false := by simpa using hrr
      rw [hd, ← HE.out, jnR_self] at HJ
      clear hd hrr
      go_wp2_with (go_at_call 64; refine HJ.out.mono ?_; rintro e W3 ⟨C3, h3, rfl, H3⟩)
      go_ret
      exact ⟨true, r, h3, C3, [], rfl, by rw [List.append_nil]; exact ⟨H3.out.1, H3.out.2.1, HS2.out.g, HS2.out.i, HS2.out.l⟩, Gone.old HE.out, H3.out.2.2.1, Nat.le_refl _⟩
    · have HE : Hid (r x ≠ r (n + y)) := hrr
      have hd : decide (r x ≠ r (n + y)) = true := by simpa using hrr
      rw [hd] at HJ
      clear hd hrr
      go_upto_region 4 with (go_at_call 64; refine HJ.out.mono ?_; rintro e W3 ⟨C3, h3, rfl, H3⟩)
      have hP : (pI P).length < 9223372036854775807 := by
        have := HS2.out.l
        rw [List.length_map]
        omega
      obtain ⟨W4, hup, hps, hgr⟩ := ps_put (H3.out.1.m.later (Below.refl _ W3).drew) hok hP
      have HG4 : Hid (W3.drew.grownBy W4 (some M) ∧ PsAt W4 M (pI P ++ [((x : Int), (y : Int))])) := ⟨hgr, hps⟩
      have k3 : W3.cell? ⟨K, 3, none⟩ = some (.map (some M)) := H3.out.1.b.cell 3
      have t0 : W3.cell? ⟨S, 0, none⟩ = some (.int .i64 (x : Int)) := H3.out.2.2.2.cell 0
      have t1 : W3.cell? ⟨S, 1, none⟩ = some (.int .i64 (y : Int)) := H3.out.2.2.2.cell 1
      clear hps hgr s0 s1 HJ hP
      apply wp_once
      case h1 =>
        go_region
        all_goals exact ⟨rfl, rfl, rfl⟩
      clear hup k3 t0 t1
      have HS4 : Hid (GoS w0 W4 K B M ada n capa adb m capb cap C3 (jnR r (r x) (r (n + y))) h3 (P ++ [(x, y)]) ∧ Fr2 B M W W4 ∧ Bx W4 S #[.int .i64 (x : Int), .int .i64 (y : Int)] 105 ∧ rts (n + m) (jnR r (r x) (r (n + y))) + 1 = rts (n + m) r) := by
        obtain ⟨p1, p2, p3, p4⟩ := H3.out
        have hg := HG4.out.1
        have hkl := p1.lts
        have hbk : ∀ j, j < W3.heap.size → j ≠ M → W4.heap[j]? = W3.heap[j]? := fun j h1 h2 => hg.block j h1 (fun e => h2 (by injection e with e))
        have hrx : r (r x) = r x := HS2.out.c.en _ (HS2.out.c.rl x (by omega)) (HS2.out.c.fx x (by omega))
        have hry : r (r (n + y)) = r (n + y) := HS2.out.c.en _ (HS2.out.c.rl (n + y) (by omega)) (HS2.out.c.fx (n + y) (by omega))
        have hrt := rts_join (N := n + m) (HS2.out.c.rl x (by omega)) hrx hry HE.out
        obtain ⟨arr, a1, a2⟩ := p1.c
        refine ⟨⟨⟨(hbk K hkl.1 p1.km).trans p1.b, ⟨arr, (hbk B hkl.2.1 p1.bm).trans a1, a2⟩, ?_, ?_, p1.hk, p1.hb, p1.hm, p1.kb, p1.km, p1.bm⟩, p2, HS2.out.g.join x y, fun q hq => ?_, ?_⟩, p3.trans ⟨hg.size, fun j h1 _ h2 => hbk j h1 h2⟩, (hbk S p4.lt HSB.out.2.1).trans p4, hrt⟩
        · show PsAt W4 M (pI (P ++ [(x, y)]))
          rw [show pI (P ++ [(x, y)]) = pI P ++ [((x : Int), (y : Int))] by unfold pI; rw [List.map_append]; rfl]
          exact HG4.out.2
        · exact p1.bl.drew.grown hg p1.bl.drew.size (fun k e => by injection e with e; rw [← e]; exact p1.hm)
        · rcases List.mem_append.1 hq with hq | hq
          · exact HS2.out.i q hq
          · rw [List.mem_singleton.1 hq]; exact ⟨hx, hy⟩
        · rw [List.length_append, List.length_singleton]
          have := HS2.out.l
          omega
      clear HG4 H3 HS2 HB2 HNI
      obtain ⟨ba, offa, rfl, hba, hca⟩ := HNA.out.2 (by omega)
      obtain ⟨bb, offb, rfl, hbb, hcb⟩ := HNB.out.2 (by omega)
      obtain ⟨kaa, kla, kca, a1, a2, _, a4, HIa, ya0, ya1, ya2⟩ := hca x hx
      obtain ⟨kab, klb, kcb, b1, b2, _, b4, HIb, yb0, yb1, yb2⟩ := hcb y hy
      obtain ⟨na, Hna⟩ : ∃ na, Hid (na = nsa.getD x nd0) := ⟨_, rfl⟩
      obtain ⟨nb, Hnb⟩ : ∃ nb, Hid (nb = nsb.getD y nd0) := ⟨_, rfl⟩
      rw [← Hna.out] at a4 HIa ya0 ya1
      rw [← Hnb.out] at b4 HIb yb0 yb1
      obtain ⟨ka, xa, la⟩ := na
      obtain ⟨kb, xb, lb⟩ := nb
      simp only at a4 HIa ya0 ya1 b4 HIb yb0 yb1
      have hbl := HS4.out.1.p.bl
      have u0 := (hbl.cell (p := ⟨ba, offa + x * 3, none⟩) hba).trans ya0
      have u1 := (hbl.cell (p := ⟨ba, offa + x * 3 + 1, none⟩) hba).trans ya1
      have u2 := (hbl.cell (p := ⟨ba, offa + x * 3 + 2, none⟩) hba).trans ya2
      have v0 := (hbl.cell (p := ⟨bb, offb + y * 3, none⟩) hbb).trans yb0
      have v1 := (hbl.cell (p := ⟨bb, offb + y * 3 + 1, none⟩) hbb).trans yb1
      have v2 := (hbl.cell (p := ⟨bb, offb + y * 3 + 2, none⟩) hbb).trans yb2
      have hba4 : ba < W4.heap.size := Nat.lt_of_lt_of_le hba hbl.size
      have hbb4 : bb < W4.heap.size := Nat.lt_of_lt_of_le hbb hbl.size
      have k0 : W4.cell? ⟨K, 0, none⟩ = some (.slice (some ⟨ba, offa, none⟩) n capa) := HS4.out.1.p.b.cell 0
      have k1 : W4.cell? ⟨K, 1, none⟩ = some (.slice (some ⟨bb, offb, none⟩) m capb) := HS4.out.1.p.b.cell 1
      have t0 : W4.cell? ⟨S, 0, none⟩ = some (.int .i64 (x : Int)) := HS4.out.2.2.1.cell 0
      have t1 : W4.cell? ⟨S, 1, none⟩ = some (.int .i64 (y : Int)) := HS4.out.2.2.1.cell 1
      have hK4 : K < W4.heap.size := HS4.out.1.p.b.lt
      have hS4 : S < W4.heap.size := HS4.out.2.2.1.lt
      have HIA : Hid (IAt w0 kaa kla la) := HIa
      have HIB : Hid (IAt w0 kab klb lb) := HIb
      clear hca hcb ya0 ya1 ya2 yb0 yb1 yb2 hbl HIa HIb hok
      have i1 : (0 : Int) ≤ (x : Int) := by omega
      have i2 : (x : Int) < (n : Int) := by omega
      have i3 : (0 : Int) ≤ (y : Int) := by omega
      have i4 : (y : Int) < (m : Int) := by omega
      go_wp2_with fail
      apply wp_two (I := TwoB W4 52 #[.int .i64 ka, .string (mk xa), .slice kaa kla kca] #[.int .i64 kb, .string (mk xb), .slice kab klb kcb])
      case h1 =>
        go_region_held3 (fun w' => w'.cell? ⟨K, 0, none⟩ = some (.slice (some ⟨ba, offa, none⟩) n capa) ∧ w'.cell? ⟨K, 1, none⟩ = some (.slice (some ⟨bb, offb, none⟩) m capb) ∧ w'.cell? ⟨S, 0, none⟩ = some (.int .i64 (x : Int)) ∧ w'.cell? ⟨S, 1, none⟩ = some (.int .i64 (y : Int)) ∧ w'.cell? ⟨ba, offa + x * 3, none⟩ = some (.int .i64 ka) ∧ w'.cell? ⟨ba, offa + x * 3 + 1, none⟩ = some (.string (mk xa)) ∧ w'.cell? ⟨ba, offa + x * 3 + 2, none⟩ = some (.slice kaa kla kca) ∧ w'.cell? ⟨bb, offb + y * 3, none⟩ = some (.int .i64 kb) ∧ w'.cell? ⟨bb, offb + y * 3 + 1, none⟩ = some (.string (mk xb)) ∧ w'.cell? ⟨bb, offb + y * 3 + 2, none⟩ = some (.slice kab klb kcb)) (go_keep) (fail)
        all_goals first | refine ⟨rfl, _, _, ?_, two_a _ _ _ _⟩ | refine ⟨rfl, _, _, ?_, two_b _ _ _ _⟩
        all_goals
          generalize W4.heap.size + 1 = j
          generalize W4.heap.size = i
          exact rfl
      rintro A1 A2 W5 hTB
      have HP5 : Hid (Bx W5 A1 #[.int .i64 ka, .string (mk xa), .slice kaa kla kca] 52 ∧ Bx W5 A2 #[.int .i64 kb, .string (mk xb), .slice kab klb kcb] 52 ∧ GoS w0 W5 K B M (some ⟨ba, offa, none⟩) n capa (some ⟨bb, offb, none⟩) m capb cap C3 (jnR r (r x) (r (n + y))) h3 (P ++ [(x, y)]) ∧ Fr2 B M W W5 ∧ (A1 ≠ B ∧ A1 ≠ M) ∧ A2 ≠ B ∧ A2 ≠ M) := by
        obtain ⟨t1, t2, t3, t4, t5⟩ := hTB
        have hl := HS4.out.1.p.lts
        refine ⟨t1, t2, HS4.out.1.later t3, HS4.out.2.1.trans (Fr2.below t3), ⟨?_, ?_⟩, ?_, ?_⟩ <;> omega
      have HRT : Hid (rts (n + m) (jnR r (r x) (r (n + y))) < rts (n + m) r) := by have := HS4.out.2.2.2; show _ < _; omega
      have HLA : Hid (lab nsa x = (ka, xa) ∧ kd nsa x = la.map Int.toNat ∧ kla = la.length) := by
        have := Hna.out
        refine ⟨by unfold lab; rw [← this], by unfold kd; rw [← this], HIA.out.1⟩
      have HLB : Hid (lab nsb y = (kb, xb) ∧ kd nsb y = lb.map Int.toNat ∧ klb = lb.length) := by
        have := Hnb.out
        refine ⟨by unfold lab; rw [← this], by unfold kd; rw [← this], HIB.out.1⟩
      have HPA : Hid (∀ j, j < kla → ∃ p : Nat, la.getD j 0 = (p : Int) ∧ p < n) := fun j hj => by
        have hm : la.getD j 0 ∈ (nsa.getD x nd0).kids := by rw [← Hna.out]; exact getD_in _ _ _ (by rw [← HIA.out.1]; exact hj)
        exact isP_nat (HKA.out _ (mem_getD (by rw [← HNA.out.1]; exact hx)) _ hm)
      have HPB : Hid (∀ j, j < klb → ∃ p : Nat, lb.getD j 0 = (p : Int) ∧ p < m) := fun j hj => by
        have hm : lb.getD j 0 ∈ (nsb.getD y nd0).kids := by rw [← Hnb.out]; exact getD_in _ _ _ (by rw [← HIB.out.1]; exact hj)
        exact isP_nat (HKB.out _ (mem_getD (by rw [← HNB.out.1]; exact hy)) _ hm)
      have hk9 : maxLen = 9223372036854775807 := rfl
      have hkla : kla ≤ 9223372036854775807 := by omega
      have hklb : klb ≤ 9223372036854775807 := by omega
      have g0 : W5.cell? ⟨A1, 0, none⟩ = some (.int .i64 ka) := HP5.out.1.cell 0
      have g1 : W5.cell? ⟨A1, 1, none⟩ = some (.string (mk xa)) := HP5.out.1.cell 1
      have g2 : W5.cell? ⟨A1, 2, none⟩ = some (.slice kaa kla kca) := HP5.out.1.cell 2
      have f0 : W5.cell? ⟨A2, 0, none⟩ = some (.int .i64 kb) := HP5.out.2.1.cell 0
      have f1 : W5.cell? ⟨A2, 1, none⟩ = some (.string (mk xb)) := HP5.out.2.1.cell 1
      have f2 : W5.cell? ⟨A2, 2, none⟩ = some (.slice kab klb kcb) := HP5.out.2.1.cell 2
      clear k0 k1 t0 t1 u0 u1 u2 v0 v1 v2 hba4 hbb4 hK4 hS4 HS4 hTB Hna Hnb a1 a2 b1 b2 a4 b4 i1 i2 i3 i4 hk9
      by_cases hsame : ka = kb ∧ xa = xb ∧ kla = klb
      case neg =>
        have HBad : Hid (¬ (lab nsa x = lab nsb y ∧ (kd nsa x).length = (kd nsb y).length)) := by
          rintro ⟨e1, e2⟩
          rw [HLA.out.1, HLB.out.1] at e1
          rw [HLA.out.2.1, HLB.out.2.1, List.length_map, List.length_map, ← HLA.out.2.2, ← HLB.out.2.2] at e2
          injection e1 with e3 e4
          exact hsame ⟨e3, e4, e2⟩
        have HFin : Hid (GoRes w0 K B M (some ⟨ba, offa, none⟩) n capa (some ⟨bb, offb, none⟩) m capb cap nsa nsb W r P x y (.returned (.bool false)) W5) := ⟨false, _, h3, C3, [(x, y)], rfl, HP5.out.2.2.1, Gone.bad HBad.out, HP5.out.2.2.2.1, Nat.le_of_lt HRT.out⟩
        by_cases e1 : ka = kb
        · by_cases e2 : xa = xb
          · have e3 : ¬ kla = klb := fun h => hsame ⟨e1, e2, h⟩
            have e3' : ((kla : Int) != (klb : Int)) = true := by simpa using (show ¬ (kla : Int) = (klb : Int) by omega)
            subst e1 e2
            clear hsame HBad
            go_wp2
            go_ret
            exact HFin.out
          · have e2' : ((mk xa).toList != (mk xb).toList) = true := by rw [ByteArray.toList_eq, ByteArray.toList_eq, mk_data, mk_data]; simpa using e2
            have e2'' : ((mk xa).toList == (mk xb).toList) = false := by rw [ByteArray.toList_eq, ByteArray.toList_eq, mk_data, mk_data]; simpa using e2
            subst e1
            clear hsame HBad
            go_wp2
            go_ret
            exact HFin.out
        · have e1' : (ka != kb) = true := by simpa using e1
          clear hsame HBad
          go_wp2
          go_ret
          exact HFin.out
      case pos =>
        obtain ⟨rfl, rfl, rfl⟩ := hsame
        have HSM : Hid (lab nsa x = lab nsb y ∧ (kd nsa x).length = (kd nsb y).length ∧ (kd nsa x).length = kla) := by
          refine ⟨by rw [HLA.out.1, HLB.out.1], by rw [HLA.out.2.1, HLB.out.2.1, List.length_map, List.length_map, ← HLA.out.2.2, ← HLB.out.2.2], by rw [HLA.out.2.1, List.length_map]; exact HLA.out.2.2.symm⟩
        go_wp2_with fail
        go_loopw [72] (fun i wr => ∃ (j : Nat) (r1 h1 C1 : Nat → Nat) (D1 : List (Nat × Nat)), j ≤ kla ∧ i = .int .i64 (j : Int) ∧ Hid (GoS w0 wr K B M (some ⟨ba, offa, none⟩) n capa (some ⟨bb, offb, none⟩) m capb cap C1 r1 h1 (P ++ [(x, y)] ++ D1)) ∧ Hid (Kins n (lab nsa) (lab nsb) (kd nsa) (kd nsb) (jnR r (r x) (r (n + y))) r1 D1 x y j) ∧ Hid (Fr2 B M W5 wr) ∧ Hid (rts (n + m) r1 < rts (n + m) r)) (fun i _ => kla - (intOf i).toNat)
        case atStart => exact ⟨0, _, h3, C3, [], Nat.zero_le _, rfl, by rw [List.append_nil]; exact HP5.out.2.2.1, Kins.nil, Fr2.refl _ _ _, HRT⟩
        case round =>
          obtain ⟨j, r1, h1, C1, D1, hj, rfl, HG, HKi, HF, HR1⟩ := hrel
          have HB1 : Hid (Bx wr A1 #[.int .i64 ka, .string (mk xa), .slice kaa kla kca] 52 ∧ Bx wr A2 #[.int .i64 ka, .string (mk xa), .slice kab kla kcb] 52) := ⟨HF.out.bx HP5.out.1 HP5.out.2.2.2.2.1.1 HP5.out.2.2.2.2.1.2, HF.out.bx HP5.out.2.1 HP5.out.2.2.2.2.2.1 HP5.out.2.2.2.2.2.2⟩
          clear g0 g1 g2 f0 f1 f2
          by_cases hlt : j < kla
          · obtain ⟨bka, oka, rfl, hbka, hcka⟩ := HIA.out.2 (by omega)
            obtain ⟨bkb, okb, rfl, hbkb, hckb⟩ := HIB.out.2 (by omega)
            obtain ⟨pa, hpa, hpan⟩ := HPA.out j hlt
            obtain ⟨pb, hpb, hpbm⟩ := HPB.out j hlt
            have y0 := (hcka j hlt).2
            have y1 := (hckb j hlt).2
            rw [hpa] at y0
            rw [hpb] at y1
            have HKD : Hid ((kd nsa x).getD j 0 = pa ∧ (kd nsb y).getD j 0 = pb) := by
              rw [HLA.out.2.1, HLB.out.2.1, getD_map Int.toNat _ j 0 0 (by rw [← HLA.out.2.2]; exact hlt), getD_map Int.toNat _ j 0 0 (by rw [← HLB.out.2.2]; exact hlt), hpa, hpb]
              exact ⟨rfl, rfl⟩
            have HCell : Hid (∀ X, Below w0.heap.size w0 X → X.cell? ⟨bka, oka + j, none⟩ = some (.int .i64 (pa : Int)) ∧ X.cell? ⟨bkb, okb + j, none⟩ = some (.int .i64 (pb : Int))) := fun X hX => ⟨(hX.cell (p := ⟨bka, oka + j, none⟩) hbka).trans y0, (hX.cell (p := ⟨bkb, okb + j, none⟩) hbkb).trans y1⟩
            obtain ⟨z0, z1⟩ := HCell.out wr HG.out.p.bl
            have g2 : wr.cell? ⟨A1, 2, none⟩ = some (.slice (some ⟨bka, oka, none⟩) kla kca) := HB1.out.1.cell 2
            have f2 : wr.cell? ⟨A2, 2, none⟩ = some (.slice (some ⟨bkb, okb, none⟩) kla kcb) := HB1.out.2.cell 2
            have HC : Hid (Calls Tryz.prog 51 #[.pointer (some ⟨K, 0, none⟩), .agg #[.int .i64 (pa : Int), .int .i64 (pb : Int)]] wr.drew fun e W6 => ∃ q r2 h2 C2 D2, e = .returned (.bool q) ∧ Hid (GoS w0 W6 K B M (some ⟨ba, offa, none⟩) n capa (some ⟨bb, offb, none⟩) m capb cap C2 r2 h2 (P ++ [(x, y)] ++ (D1 ++ D2)) ∧ Gone n (lab nsa) (lab nsb) (kd nsa) (kd nsb) r1 r2 D2 pa pb q ∧ Fr2 B M W5 W6 ∧ rts (n + m) r2 < rts (n + m) r) ∧ W6.cell? ⟨A1, 2, none⟩ = some (.slice (some ⟨bka, oka, none⟩) kla kca) ∧ W6.cell? ⟨A2, 2, none⟩ = some (.slice (some ⟨bkb, okb, none⟩) kla kcb) ∧ W6.cell? ⟨bka, oka + j, none⟩ = some (.int .i64 (pa : Int)) ∧ W6.cell? ⟨bkb, okb + j, none⟩ = some (.int .i64 (pb : Int))) :=
              (HI.out pa pb wr.drew C1 r1 h1 _ HR1.out hpan hpbm (HG.out.later (Below.refl _ wr).drew)).mono (fun e W6 q => by
                obtain ⟨q, r2, h2, C2, D2, q1, q2, q3, q4, q5⟩ := q
                have hF6 : Fr2 B M wr W6 := (Fr2.below (Below.refl _ wr).drew).trans q4.out
                have c1 := HCell.out W6 q2.out.p.bl
                refine ⟨q, r2, h2, C2, D2, q1, ⟨by rw [← List.append_assoc]; exact q2.out, q3.out, HF.out.trans hF6, Nat.lt_of_le_of_lt q5.out HR1.out⟩, (hF6.bx HB1.out.1 HP5.out.2.2.2.2.1.1 HP5.out.2.2.2.2.1.2).cell 2, (hF6.bx HB1.out.2 HP5.out.2.2.2.2.2.1 HP5.out.2.2.2.2.2.2).cell 2, c1.1, c1.2⟩)
            have i1 : (0 : Int) ≤ (j : Int) := by omega
            have i2 : (j : Int) < (kla : Int) := by omega
            clear hcka hckb y0 y1 hpa hpb HI HF HG HR1 HB1
            go_wp2_with fail
            go_region_held3 (fun w' => w'.cell? ⟨A1, 2, none⟩ = some (.slice (some ⟨bka, oka, none⟩) kla kca) ∧ w'.cell? ⟨A2, 2, none⟩ = some (.slice (some ⟨bkb, okb, none⟩) kla kcb) ∧ w'.cell? ⟨bka, oka + j, none⟩ = some (.int .i64 (pa : Int)) ∧ w'.cell? ⟨bkb, okb + j, none⟩ = some (.int .i64 (pb : Int))) (go_keep)
              (first | (go_at_call 51; refine HC.out.mono ?_; rintro e W6 ⟨q, r2, h2, C2, D2, rfl, H6, m0, m1, m2, m3⟩))
            clear m0 m1 m2 m3 z0 z1 g2 f2 HC HCell
            cases q
            case true =>
              have HK2 : Hid (Kins n (lab nsa) (lab nsb) (kd nsa) (kd nsb) (jnR r (r x) (r (n + y))) r2 (D1 ++ D2) x y (j + 1)) := HKi.out.more (by rw [HSM.out.2.2]; exact hlt) (by rw [HKD.out.1, HKD.out.2]; exact H6.out.2.1)
              go_wp2
              go_roundw
              case rel => exact ⟨j + 1, r2, h2, C2, D1 ++ D2, by omega, by go_num, H6.out.1, HK2, H6.out.2.2.1, H6.out.2.2.2⟩
              case measure => simp [intOf]; omega
            case false =>
              have HGo : Hid (Gone n (lab nsa) (lab nsb) (kd nsa) (kd nsb) r r2 ((x, y) :: (D1 ++ D2)) x y false) := HKi.out.fail (by rw [HSM.out.2.2]; exact hlt) (by rw [HKD.out.1, HKD.out.2]; exact H6.out.2.1)
              go_wp2
              go_ret
              refine ⟨false, r2, h2, C2, (x, y) :: (D1 ++ D2), rfl, ?_, HGo, HP5.out.2.2.2.1.trans H6.out.2.2.1, Nat.le_of_lt H6.out.2.2.2⟩
              have := H6.out.1
              rw [List.append_assoc] at this
              exact this
          · have hje : j = kla := by omega
            have HGo : Hid (Gone n (lab nsa) (lab nsb) (kd nsa) (kd nsb) r r1 ((x, y) :: D1) x y true) := Kins.done (by rw [HSM.out.2.2, ← hje]; exact HKi.out) HSM.out.1 HSM.out.2.1
            clear hje
            go_wp2
            go_ret
            refine ⟨true, r1, h1, C1, (x, y) :: D1, rfl, ?_, HGo, HP5.out.2.2.2.1.trans HF.out, Nat.le_of_lt HR1.out⟩
            have := HG.out
            rw [List.append_assoc] at this
            exact this
theorem goTo_any {nsa nsb : List Nd} (hN : n + m ≤ 100000) (HNA : Hid (NAt w0 ada n nsa)) (HNB : Hid (NAt w0 adb m nsb)) (HKA : Hid (∀ nd ∈ nsa, ∀ a ∈ nd.kids, isP n a = true)) (HKB : Hid (∀ nd ∈ nsb, ∀ a ∈ nd.kids, isP m a = true)) :
    ∀ (f : Nat) (x y : Nat) (W : World) (C r h : Nat → Nat) (P : List (Nat × Nat)), rts (n + m) r ≤ f → x < n → y < m → GoS w0 W K B M ada n capa adb m capb cap C r h P →
      Calls Tryz.prog 51 #[.pointer (some ⟨K, 0, none⟩), .agg #[.int .i64 (x : Int), .int .i64 (y : Int)]] W (GoRes w0 K B M ada n capa adb m capb cap nsa nsb W r P x y) := by
  intro f
  induction f with
  | zero =>
    intro x y W C r h P hf hx hy H
    have h1 := H.c.rl x (by omega)
    have := rts_pos h1 (H.c.en _ h1 (H.c.fx x (by omega)))
    omega
  | succ f ih =>
    intro x y W C r h P hf hx hy H
    exact go_core hN HNA HNB HKA HKB x y hx hy H (fun x' y' W1 C1 r1 h1 P1 hlt hx' hy' H1 => ih x' y' W1 C1 r1 h1 P1 (by omega) hx' hy' H1)
end Go.Proofs.YtcplgjclkjcekaaGreatDoor.Alk
end

section
/- iso.paired, by its contract. -/
namespace Go.Proofs.YtcplgjclkjcekaaGreatDoor.Alk
open Utf Rws Pln Flw Grp
open Go.RowKit Go.Maps
set_option linter.unusedSimpArgs false
set_option linter.unusedVariables false
set_option maxRecDepth 100000
set_option maxHeartbeats 4000000
attribute [local go_sem ↓] Go.wp_at_zero Go.wp_at_succ

abbrev rgI (j : Nat) : List Value := (List.range j).map fun a : Nat => Value.int .i64 (a : Int)
/-- a pairing that is being made -/
structure PnS (w W : World) (Ka Kb K M : Nat) (sa sb : Value) (ra rb : Int) (j : Nat) (ov : Value) : Prop where
  a : Bx W Ka #[sa, .int .i64 ra] 24
  b : Bx W Kb #[sb, .int .i64 rb] 24
  k : Bx W K #[sa, sb, .bool false, .map (some M), ov] 102
  m : PsAt W M []
  o : W.ownsRow (K + 1) 3 1 ov j (rgI j)
  bl : Below w.heap.size w W
  h1 : w.heap.size ≤ Ka
  h2 : w.heap.size ≤ Kb
  h3 : w.heap.size ≤ M
  l1 : Ka < K
  l2 : Kb < K
  l3 : M < K
variable {w W W' : World} {Ka Kb K M : Nat} {sa sb : Value} {ra rb : Int} {j : Nat} {ov : Value}
theorem PnS.later (h : PnS w W Ka Kb K M sa sb ra rb j ov) (hb : Below W.heap.size W W') : PnS w W' Ka Kb K M sa sb ra rb j ov :=
  ⟨h.a.later hb, h.b.later hb, h.k.later hb, h.m.later hb, own_later1 h.o (fun g _ hg => hb.block g hg), h.bl.trans (hb.mono h.bl.size), h.h1, h.h2, h.h3, h.l1, h.l2, h.l3⟩
theorem PnS.new (w : World) (sa sb : Value) (ra rb : Int) : PnS w ((((w.alloc (.cells #[sa, .int .i64 ra] 24)).alloc (.cells #[sb, .int .i64 rb] 24)).alloc (.map #[] 0)).alloc (.cells #[sa, sb, .bool false, .map (some (w.heap.size + 1 + 1)), .slice none 0 0] 102)) w.heap.size (w.heap.size + 1) (w.heap.size + 1 + 1 + 1) (w.heap.size + 1 + 1) sa sb ra rb 0 (.slice none 0 0) := by
  have b1 := below_alloc w (.cells #[sa, .int .i64 ra] 24)
  have n1 := Bx.new w #[sa, .int .i64 ra] 24
  have s1 : (w.alloc (.cells #[sa, .int .i64 ra] 24)).heap.size = w.heap.size + 1 := World.size_alloc _ _
  generalize w.alloc (.cells #[sa, .int .i64 ra] 24) = w1 at *
  have b2 := below_alloc w1 (.cells #[sb, .int .i64 rb] 24)
  have n2 := Bx.new w1 #[sb, .int .i64 rb] 24
  have s2 : (w1.alloc (.cells #[sb, .int .i64 rb] 24)).heap.size = w1.heap.size + 1 := World.size_alloc _ _
  generalize w1.alloc (.cells #[sb, .int .i64 rb] 24) = w2 at *
  have b3 := below_alloc w2 (.map #[] 0)
  have n3 : PsAt (w2.alloc (.map #[] 0)) w2.heap.size [] := PsAt.new w2
  have s3 : (w2.alloc (.map #[] 0)).heap.size = w2.heap.size + 1 := World.size_alloc _ _
  generalize w2.alloc (.map #[] 0) = w3 at *
  have b4 := below_alloc w3 (.cells #[sa, sb, .bool false, .map (some (w.heap.size + 1 + 1)), .slice none 0 0] 102)
  have n4 := Bx.new w3 #[sa, sb, .bool false, .map (some (w.heap.size + 1 + 1)), .slice none 0 0] 102
  rw [s1] at n2 s2
  rw [s2] at n3 s3
  rw [s3] at n4
  have c1 := b1.trans (b2.mono b1.size)
  have c2 := c1.trans (b3.mono c1.size)
  have c3 := c2.trans (b4.mono c2.size)
  exact ⟨((n1.later b2).later b3).later b4, (n2.later b3).later b4, n4, n3.later b4, ⟨rfl, .inl ⟨rfl, rfl⟩⟩, c3, Nat.le_refl _, by omega, by omega, by omega, by omega, by omega⟩
/-- one more class -/
theorem PnS.app {o : Obj} {W2 : World} {ad ad2 : Option Addr} {c c2 : Nat} (h : PnS w W Ka Kb K M sa sb ra rb j (.slice ad j c)) (hg : (W.alloc o).grownBy W2 (Value.ownBlock (.slice ad j c))) (ho : W2.ownsRow (K + 1) 3 1 (.slice ad2 (j + 1) c2) (j + 1) (rgI j ++ [.int .i64 (j : Int)])) :
    PnS w (W2.setCell ⟨K, 4, none⟩ (.slice ad2 (j + 1) c2)) Ka Kb K M sa sb ra rb (j + 1) (.slice ad2 (j + 1) c2) ∧ Bx W2 K #[sa, sb, .bool false, .map (some M), .slice ad j c] 102 := by
  have hob : ∀ k, k ≤ K → some k ≠ Value.ownBlock (.slice ad j c) := fun k hk e => by
    rcases h.o.2 with ⟨h1, _⟩ | ⟨g, cp, cur, h1, h2, _⟩
    · rw [h1] at e; cases e
    · rw [h1] at e
      have : k = g := by simpa [Value.ownBlock] using e
      omega
  have h1 := h.later (below_alloc W o)
  have hl := h1.k.lt
  have e1 := (hg.block Ka (by have := h.l1; omega) (hob Ka (by have := h.l1; omega))).trans h1.a
  have e2 := (hg.block Kb (by have := h.l2; omega) (hob Kb (by have := h.l2; omega))).trans h1.b
  have e3 : Bx W2 K #[sa, sb, .bool false, .map (some M), .slice ad j c] 102 := (hg.block K hl (hob K (Nat.le_refl _))).trans h1.k
  have e4 := h1.m.kept hg (hob M (by have := h.l3; omega))
  have e5 : Below w.heap.size w W2 := by
    refine h1.bl.grown hg h1.bl.size (fun k e => ?_)
    rcases Nat.lt_or_ge K k with hk | hk
    · have := h.l1; have := h.h1; omega
    · exact absurd e.symm (hob k hk)
  have hw : w.heap.size ≤ K := by have := h.l1; have := h.h1; omega
  refine ⟨⟨Bx.other e1 (by have := h.l1; omega) _ _, Bx.other e2 (by have := h.l2; omega) _ _, e3.set 4 _, e4.kept (grown_set W2 K 4 _) (fun e => by injection e with e; have := h.l3; omega), ?_, e5.setCell (p := ⟨K, 4, none⟩) hw _, h.h1, h.h2, h.h3, h.l1, h.l2, h.l3⟩, e3⟩
  have : rgI (j + 1) = rgI j ++ [.int .i64 (j : Int)] := by
    show (List.range (j + 1)).map _ = _
    rw [List.range_succ, List.map_append]
    rfl
  rw [this]
  exact own_later1 ho (fun g hg _ => Below.heap_setCell _ _ _ _ (by show g ≠ K; omega))
/-- what is paired, in memory -/
structure PdS (w W : World) (K M : Nat) (sa sb : Value) (n m : Nat) (q : Bool) (P : List (Nat × Nat)) : Prop where
  b : ∃ v, Bx W K #[sa, sb, .bool q, .map (some M), v] 102
  s : PsAt W M (pI P)
  i : ∀ p ∈ P, p.1 < n ∧ p.2 < m
  l : P.length ≤ 100000
  bl : Below w.heap.size w W
  hk : w.heap.size ≤ K
  hm : w.heap.size ≤ M
/-- what paired answers -/
def PdRes (w : World) (sa sb : Value) (nsa nsb : List Nd) (n m ra rb : Nat) (e : Ending) (W' : World) : Prop :=
  ∃ K M q P, e = .returned (.pointer (some ⟨K, 0, none⟩)) ∧ Hid (PdS w W' K M sa sb n m q P) ∧ Hid ((q = true ↔ EqP (lab nsa) (lab nsb) (kd nsa) (kd nsb) ra rb) ∧ ((q = true ∧ OneL P) ↔ LkP (lab nsa) (lab nsb) (kd nsa) (kd nsb) ra rb))
theorem rts_id (N : Nat) : rts N (fun x => x) = N := by
  unfold rts
  rw [List.filter_eq_self.2 (by simp), List.length_range]
theorem paired_any {ada adb : Option Addr} {n m capa capb ra rb : Nat} {nsa nsb : List Nd} (hn : n ≤ 4096) (hm : m ≤ 4096) (hNA : NAt w ada n nsa) (hNB : NAt w adb m nsb) (hKA : ∀ nd ∈ nsa, ∀ a ∈ nd.kids, isP n a = true) (hKB : ∀ nd ∈ nsb, ∀ a ∈ nd.kids, isP m a = true) (hra : ra < n) (hrb : rb < m) :
    Calls Tryz.prog 31 #[gv ada n capa (ra : Int), gv adb m capb (rb : Int)] w (PdRes w (.slice ada n capa) (.slice adb m capb) nsa nsb n m ra rb) := by
  have h0 : Hid (PnS w _ w.heap.size (w.heap.size + 1) (w.heap.size + 1 + 1 + 1) (w.heap.size + 1 + 1) (.slice ada n capa) (.slice adb m capb) (ra : Int) (rb : Int) 0 (.slice none 0 0)) := PnS.new w (.slice ada n capa) (.slice adb m capb) (ra : Int) (rb : Int)
  have hmm := @run_makeMap Tryz.prog
  go_enter Tryz.func31, Tryz.ntmps31
  go_wp2_with fail
  generalize (((w.alloc (.cells #[.slice ada n capa, .int .i64 (ra : Int)] 24)).alloc (.cells #[.slice adb m capb, .int .i64 (rb : Int)] 24)).alloc (.map #[] 0)).alloc (.cells #[.slice ada n capa, .slice adb m capb, .bool false, .map (some (w.heap.size + 1 + 1)), .slice none 0 0] 102) = W0 at h0 ⊢
  obtain ⟨K, HK⟩ : ∃ K, Hid (w.heap.size + 1 + 1 + 1 = K) := ⟨_, rfl⟩
  obtain ⟨M, HM⟩ : ∃ M, Hid (w.heap.size + 1 + 1 = M) := ⟨_, rfl⟩
  obtain ⟨Kb, HKb⟩ : ∃ Kb, Hid (w.heap.size + 1 = Kb) := ⟨_, rfl⟩
  obtain ⟨Ka, HKa⟩ : ∃ Ka, Hid (w.heap.size = Ka) := ⟨_, rfl⟩
  rw [HK.out] at h0 ⊢
  rw [HM.out] at h0 ⊢
  rw [HKb.out] at h0 ⊢
  have HA : Hid (∀ X Y : World, Hid (PnS w X w.heap.size Kb K M (.slice ada n capa) (.slice adb m capb) (ra : Int) (rb : Int) 0 (.slice none 0 0)) → Hid (PnS w X Ka Kb K M (.slice ada n capa) (.slice adb m capb) (ra : Int) (rb : Int) 0 (.slice none 0 0))) := fun X _ h => by rw [HKa.out] at h; exact h
  replace h0 := HA.out _ W0 h0
  have e0 : ∀ (u : Nat), Hid (w.heap.size = u) → u = w.heap.size := fun u hu => hu.out.symm
  have e1 := e0 Ka HKa
  rw [← e1]
  clear HA HK HM HKb e0 e1 hmm
  have k0 : W0.cell? ⟨K, 0, none⟩ = some (.slice ada n capa) := h0.out.k.cell 0
  have k1 : W0.cell? ⟨K, 1, none⟩ = some (.slice adb m capb) := h0.out.k.cell 1
  apply wp_once
  case h1 =>
    go_region
    all_goals exact ⟨rfl, rfl, rfl⟩
  have h1 : Hid (PnS w W0.drew Ka Kb K M (.slice ada n capa) (.slice adb m capb) (ra : Int) (rb : Int) 0 (.slice none 0 0)) := h0.out.later (Below.refl _ W0).drew
  clear k0 k1 h0
  generalize W0.drew = W1 at h1 ⊢
  obtain ⟨i0, hi, hz0, hz1, hz2⟩ := info_parts Tryz.infoInt
  obtain ⟨N, HNn⟩ : ∃ N, Hid (N = n + m) := ⟨_, rfl⟩
  have hN : N ≤ 8192 := by have := HNn.out; omega
  rw [show (n : Int) + (m : Int) = (N : Int) by have := HNn.out; omega]
  go_wp2_with fail
  go_loopw [25] (fun i wr => ∃ (j : Nat) (ad : Option Addr) (c : Nat), j ≤ N ∧ i = .int .i64 (j : Int) ∧ Hid (PnS w wr Ka Kb K M (.slice ada n capa) (.slice adb m capb) (ra : Int) (rb : Int) j (.slice ad j c))) (fun i _ => N - (intOf i).toNat)
  case atStart => exact ⟨0, none, 0, Nat.zero_le _, rfl, h1⟩
  case round =>
    obtain ⟨j, ad, c, hj, rfl, HS⟩ := hrel
    clear h1
    by_cases hlt : j < N
    · have k4 : wr.cell? ⟨K, 4, none⟩ = some (.slice ad j c) := HS.out.k.cell 4
      have hKW := HS.out.k.lt
      go_wp2_with (at_builtin; refine wpList_append_own_at _ rfl _ _ 44 rfl (K + 1) 3 i0 (.int .i64 0) 1 8 Tryz.underInts hi hz0 hz1 hz2 rfl (by decide) _ _ _ rfl (HS.out.o.alloc _) ⟨wr.heap.size, 0, none⟩ 1 1 [Value.int .i64 (j : Int)] rfl rfl (cell_one_new _ _ _) (fun u hu => by rw [List.mem_singleton.1 hu]; rfl) (by have : maxLen = 9223372036854775807 := rfl; omega) (by omega) (by rw [World.size_alloc]; omega) ?_; intro ov W2 hown hgr hnil hat; obtain ⟨oad2, ocap2, rfl⟩ := own_shape hown; have HB2 := HS.out.app hgr hown; have q4 : W2.cell? ⟨K, 4, none⟩ = _ := HB2.2.cell 4; have y4 := HB2.2.fz 4; clear k4)
      refine ⟨⟨j + 1, oad2, ocap2, by omega, by go_num, HB2.1⟩, ?_⟩
      simp [intOf]
      omega
    · obtain rfl : j = N := by omega
      have HGo : Hid (∃ B, B ≠ K ∧ ad = some ⟨B, 0, none⟩ ∧ GoS w wr K B M ada n capa adb m capb c (fun z => z) (fun z => z) (fun _ => 0) []) := by
        rcases HS.out.o.2 with ⟨_, h0⟩ | ⟨g, cp, cur, h1, h2, h3, h4, h5, h6, h7⟩
        · have := HNn.out; omega
        · injection h1 with e1 e2 e3
          subst e3
          have hM := HS.out.l3
          have hw : w.heap.size ≤ K := by have := HS.out.l1; have := HS.out.h1; omega
          refine ⟨g, by omega, e1, ⟨⟨?_, ⟨cur, h3, fun i hi => ?_⟩, HS.out.m, HS.out.bl, hw, by omega, HS.out.h3, by omega, by omega, by omega⟩, Cls.id _, Gen.id n, fun q hq => absurd hq (by simp), ?_⟩⟩
          · have := HS.out.k
            rw [e1, HNn.out] at this
            exact this
          · have hi' : i < j := by have := HNn.out; omega
            have : (cur.toList.take (j * 1))[i]? = (rgI j)[i]? := by rw [h7]
            rw [Nat.mul_one, List.getElem?_take_of_lt hi', Array.getElem?_toList] at this
            rw [this, List.getElem?_map, List.getElem?_range hi']
            rfl
          · rw [rts_id]
            simp
            omega
      obtain ⟨B, hBK, rfl, HG'⟩ := HGo.out
      have HG : Hid (GoS w wr K B M ada n capa adb m capb c (fun z => z) (fun z => z) (fun _ => 0) []) := HG'
      have x0 : wr.cell? ⟨Ka, 1, none⟩ = some (.int .i64 (ra : Int)) := HS.out.a.cell 1
      have x1 : wr.cell? ⟨Kb, 1, none⟩ = some (.int .i64 (rb : Int)) := HS.out.b.cell 1
      have HC : Hid (Calls Tryz.prog 51 #[.pointer (some ⟨K, 0, none⟩), .agg #[.int .i64 (ra : Int), .int .i64 (rb : Int)]] wr (GoRes w K B M ada n capa adb m capb c nsa nsb wr (fun z => z) [] ra rb)) := goTo_any (by omega) hNA hNB hKA hKB _ ra rb wr _ _ _ [] (Nat.le_refl _) hra hrb HG'
      clear HG' HGo hi hz0 hz1 hz2
      go_wp2_with (go_at_call 51; refine HC.out.mono ?_; rintro e W2 ⟨q, r2, h2, C2, D2, rfl, H2, H3, H4, H5⟩; have q2 : W2.cell? ⟨K, 2, none⟩ = _ := H2.out.p.b.cell 2; have y2 := H2.out.p.b.fz 2; clear x0 x1)
      go_ret
      rw [List.nil_append] at H2
      refine ⟨K, M, q, D2, rfl, ⟨⟨_, H2.out.p.b.set 2 _⟩, ?_, H2.out.i, ?_, H2.out.p.bl.setCell (p := ⟨K, 2, none⟩) H2.out.p.hk _, H2.out.p.hk, H2.out.p.hm⟩, ?_⟩
      · exact H2.out.p.m.kept (grown_set W2 K 2 _) (fun e => by injection e with e; exact H2.out.p.km e.symm)
      · have := H2.out.l; omega
      · exact paired_facts hra (kd_lt hKA hNA.1) (fun p hp => (H2.out.i p hp).1) H2.out.g H3.out
end Go.Proofs.YtcplgjclkjcekaaGreatDoor.Alk
end

section
/- (*pairing).isLike, by its contract. -/
namespace Go.Proofs.YtcplgjclkjcekaaGreatDoor.Alk
open Utf Rws Pln Flw Grp
open Go.RowKit Go.Maps
set_option linter.unusedSimpArgs false
set_option linter.unusedVariables false
set_option maxRecDepth 100000
set_option maxHeartbeats 4000000
attribute [local go_sem ↓] Go.wp_at_zero Go.wp_at_succ

/-- a step of a range over pairs -/
theorem wpList_next_ps {w : World} {ops : Array Oper} {rest : List Oper} {o : Oper} {a : Act} {Q : Exit → Act → World → Prop} (hg : o.guard = none) (it : Operand) (hop : o.op = Op.next it false) (b r n : Nat) (D : DataW Unit) (left : Lit → Bool) (cnt : Nat)
    (hit : a.eval it = .pointer (some ⟨r, 0, none⟩)) (h : w.ranges Tryz.prog 105 unitElem b r n D left cnt) (hL : ∀ kl, left kl = true → ∃ p, okr p ∧ plt p = kl)
    (hDone : (∀ kl, left kl = false) → wpList Tryz.prog ops Q rest (a.put o.dst (.tuple #[.bool false])) w)
    (hMore : ∀ (p : Int × Int) (w' : World) (cnt' : Nat), okr p → left (plt p) = true → w'.ranges Tryz.prog 105 unitElem b r n D (fun z => left z && !z.sameKey (plt p)) cnt' → cnt' < cnt →
      w.grownBy w' (some r) → w'.heap.size = w.heap.size → (Instr.entry (.pointer (some ⟨r, 0, none⟩))).run Tryz.prog w' = .ok (.tuple #[pv p, .agg #[]]) w' → wpList Tryz.prog ops Q rest (a.put o.dst (.tuple #[.bool true, pv p, .agg #[]])) w') :
    wpList Tryz.prog ops Q (o :: rest) a w := by
  refine wpList_plain hg fun K' hK' => ?_
  unfold Oper.wp
  rcases h.next Tryz.keyedR o.type with ⟨h0, hl, hrun⟩ | ⟨key, v, kl, y, w', cnt', hkey, hlk, hv, hat, hrun, hrg, hlt, hgr, hsz, hen⟩
  · simp [execOp, hop, hit, hrun, Result.andThen]
    exact hK' _ _ (hDone hl)
  · obtain ⟨p, hp, rfl⟩ := hL kl hlk
    have e := Tryz.keyedR.inj hkey (keyOf_pv hp.1 hp.2)
    subst e
    obtain ⟨rfl, _⟩ := unitElem_inv hv
    simp [execOp, hop, hit, hrun, Result.andThen]
    exact hK' _ _ (hMore p w' cnt' hp hlk hrg hlt hgr hsz hen)
def cA (V : List (Nat × Nat)) (x : Nat) : Nat := (V.map (·.1)).count x
def cB (V : List (Nat × Nat)) (x : Nat) : Nat := (V.map (·.2)).count x
theorem tA_congr {T T' : Nat → Nat} {n : Nat} (h : ∀ i, T i = T' i) : tA T n = tA T' n := by rw [show T = T' from funext h]
theorem cA_snoc (V : List (Nat × Nat)) (x y : Nat) (i : Nat) : bump (cA V) x i = cA (V ++ [(x, y)]) i := by
  unfold bump cA
  rw [List.map_append, List.count_append, List.map_cons, List.map_nil, List.count_singleton]
  by_cases e : i = x
  · subst e; simp
  · rw [if_neg e, if_neg (by simpa using Ne.symm e)]; rfl
theorem cB_snoc (V : List (Nat × Nat)) (x y : Nat) (i : Nat) : bump (cB V) y i = cB (V ++ [(x, y)]) i := by
  unfold bump cB
  rw [List.map_append, List.count_append, List.map_cons, List.map_nil, List.count_singleton]
  by_cases e : i = y
  · subst e; simp
  · rw [if_neg e, if_neg (by simpa using Ne.symm e)]; rfl
/-- all that was seen is one to one -/
def Uni (V : List (Nat × Nat)) : Prop := (V.map (·.1)).Nodup ∧ (V.map (·.2)).Nodup
theorem Uni.one {P V : List (Nat × Nat)} (h : Uni V) (hs : ∀ p ∈ P, p ∈ V) : OneL P := by
  have key : ∀ (f : Nat × Nat → Nat), (V.map f).Nodup → ∀ p ∈ P, ∀ p' ∈ P, f p = f p' → p = p' := fun f hn p hp p' hp' e => by
    obtain ⟨i, hi, rfl⟩ := List.getElem_of_mem (hs p hp)
    obtain ⟨j, hj, rfl⟩ := List.getElem_of_mem (hs p' hp')
    have hh : ∀ i j (hi : i < V.length) (hj : j < V.length), i < j → f V[i] ≠ f V[j] := fun i j hi hj q => by
      have := List.pairwise_iff_getElem.1 hn i j (by simpa using hi) (by simpa using hj) q
      simpa using this
    rcases Nat.lt_trichotomy i j with q | q | q
    · exact absurd e (hh i j hi hj q)
    · subst q; rfl
    · exact absurd e.symm (hh j i hj hi q)
  exact fun p hp p' hp' => ⟨fun e => by rw [key (·.1) h.1 p hp p' hp' e], fun e => by rw [key (·.2) h.2 p hp p' hp' e]⟩
theorem Uni.snoc {V : List (Nat × Nat)} (h : Uni V) {x y : Nat} (h1 : cA (V ++ [(x, y)]) x ≤ 1) (h2 : cB (V ++ [(x, y)]) y ≤ 1) : Uni (V ++ [(x, y)]) := by
  unfold cA at h1
  unfold cB at h2
  rw [List.map_append, List.count_append] at h1 h2
  simp at h1 h2
  unfold Uni
  rw [List.map_append, List.map_append, List.nodup_append, List.nodup_append]
  refine ⟨⟨h.1, by simp, fun a ha b hb e => ?_⟩, h.2, by simp, fun a ha b hb e => ?_⟩
  · simp at hb
    subst hb e
    have := List.count_pos_iff.2 ha
    have := List.count_eq_zero.1 h1
    contradiction
  · simp at hb
    subst hb e
    have := List.count_pos_iff.2 ha
    have := List.count_eq_zero.1 h2
    contradiction
theorem not_one {P V : List (Nat × Nat)} (hV : ∀ p ∈ V, p ∈ P) {x y : Nat} (hp : (x, y) ∈ P) (hn : (x, y) ∉ V) (h : 1 < cA (V ++ [(x, y)]) x ∨ 1 < cB (V ++ [(x, y)]) y) : ¬ OneL P := by
  intro ho
  unfold cA cB at h
  rw [List.map_append, List.map_append, List.count_append, List.count_append] at h
  simp at h
  rcases h with ⟨y', h⟩ | ⟨x', h⟩
  · have := (ho (x, y') (hV _ h) (x, y) hp).1 rfl
    simp only at this
    subst this
    exact hn h
  · have := (ho (x', y) (hV _ h) (x, y) hp).2 rfl
    simp only at this
    subst this
    exact hn h
variable {w W W' : World} {K M : Nat} {ada adb : Option Addr} {n m capa capb : Nat} {q : Bool} {P : List (Nat × Nat)}
theorem like_any (hn : n ≤ 4096) (hm : m ≤ 4096) (HS : Hid (PdS w W K M (.slice ada n capa) (.slice adb m capb) n m q P)) :
    Calls Tryz.prog 32 #[.pointer (some ⟨K, 0, none⟩)] W fun e W' => ∃ res : Bool, e = .returned (.bool res) ∧ (res = true ↔ q = true ∧ OneL P) ∧ Below w.heap.size w W' := by
  obtain ⟨v4, hb⟩ := HS.out.b
  have c0 : W.cell? ⟨K, 0, none⟩ = some (.slice ada n capa) := hb.cell 0
  have c1 : W.cell? ⟨K, 1, none⟩ = some (.slice adb m capb) := hb.cell 1
  have c2 : W.cell? ⟨K, 2, none⟩ = some (.bool q) := hb.cell 2
  have HB : Hid (Bx W K #[.slice ada n capa, .slice adb m capb, .bool q, .map (some M), v4] 102) := hb
  have hKW := hb.lt
  clear hb
  cases q
  case false =>
    go_enter Tryz.func32, Tryz.ntmps32
    go_wp2
    go_ret
    exact ⟨false, rfl, ⟨fun h => absurd h (by decide), fun h => absurd h.1 (by decide)⟩, HS.out.bl⟩
  case true =>
    have hmkA := fun w' : World => run_make_row' (P := Tryz.prog) 44 3 (.int .i64 0) 8 Tryz.underInts Tryz.infoInt rfl .i64 .i64 n (by omega) (by omega) w'
    have hmkB := fun w' : World => run_make_row' (P := Tryz.prog) 44 3 (.int .i64 0) 8 Tryz.underInts Tryz.infoInt rfl .i64 .i64 m (by omega) (by omega) w'
    go_enter Tryz.func32, Tryz.ntmps32
    go_wp2_with fail
    apply wp_two (I := TwoB W 3 (tA (fun _ => 0) n) (tA (fun _ => 0) m))
    case h1 =>
      rw [← tA_made, ← tA_made]
      go_region_held3 (fun w' => w'.cell? ⟨K, 0, none⟩ = some (.slice ada n capa) ∧ w'.cell? ⟨K, 1, none⟩ = some (.slice adb m capb)) (go_keep) (fail)
      all_goals first | refine ⟨rfl, _, _, ?_, two_a _ _ _ _⟩ | refine ⟨rfl, _, _, ?_, two_b _ _ _ _⟩
      all_goals
        generalize W.heap.size + 1 = j
        generalize W.heap.size = i
        exact rfl
    rintro A1 A2 W1 ⟨t1, t2, t3, t4, t5, t6⟩
    have hML : M < W.heap.size := World.ownsMap.lt HS.out.s.1
    have HT : Hid (Bx W1 A1 (tA (cA []) n) 3 ∧ Bx W1 A2 (tA (cB []) m) 3 ∧ Below w.heap.size w W1 ∧ PsAt W1 M (pI P) ∧ w.heap.size ≤ A1 ∧ w.heap.size ≤ A2 ∧ A1 < W1.heap.size ∧ A2 < W1.heap.size) := by
      have e1 : tA (cA []) n = tA (fun _ => 0) n := tA_congr fun _ => rfl
      have e2 : tA (cB []) m = tA (fun _ => 0) m := tA_congr fun _ => rfl
      have hs := HS.out.bl.size
      rw [e1, e2]
      exact ⟨t1, t2, HS.out.bl.trans (t3.mono hs), HS.out.s.later t3, by omega, by omega, t1.lt, t2.lt⟩
    have HA : Hid (A1 ≠ A2) := t6
    have HMA : Hid (w.heap.size ≤ A1 ∧ w.heap.size ≤ A2 ∧ M < A1 ∧ M < A2) := by
      have hs := HS.out.bl.size
      refine ⟨?_, ?_, ?_, ?_⟩ <;> omega
    have k3 : W1.cell? ⟨K, 3, none⟩ = some (.map (some M)) := (HB.out.later t3).cell 3
    have HPS : Hid (PsAt W1 M (pI P)) := HT.out.2.2.2.1
    clear t1 t2 t3 t4 t5 t6 c0 c1 c2 hmkA hmkB HB
    go_wp2_with (first | (at_range; refine wpList_range_own _ rfl _ 100 rfl 105 123 Tryz.keyedR Tryz.undPs _ M (pI P).length _ rfl HPS.out.1 ?_; intro w0 hrg0 hg0 hs0) | go_in)
    obtain ⟨R, HR⟩ : ∃ R, Hid (W1.heap.size = R) := ⟨_, rfl⟩
    rw [HR.out] at hrg0 ⊢
    have HRL : Hid (w.heap.size ≤ R ∧ A1 < R ∧ A2 < R ∧ M < R) := by
      have h1 := HT.out.2.2.2.2
      have h2 := HT.out.2.2.1.size
      have h3 := World.ownsMap.lt HPS.out.1
      have h4 := HR.out
      refine ⟨?_, ?_, ?_, ?_⟩ <;> omega
    have HB0 : Hid (Bx w0 A1 (tA (cA []) n) 3 ∧ Bx w0 A2 (tA (cB []) m) 3 ∧ Below w.heap.size w w0) := by
      obtain ⟨h1, h2, h3, h4, h5, h6, h7, h8⟩ := HT.out
      exact ⟨(hg0.block A1 h7 (by simp)).trans h1, (hg0.block A2 h8 (by simp)).trans h2, h3.grown hg0 h3.size (fun k e => by cases e)⟩
    have HL0 : Hid (∀ kl, Maps.has (setOf (H := Unit) (.agg []) ((pI P).map plt)) kl = true ↔ ∃ p ∈ P, p ∉ ([] : List (Nat × Nat)) ∧ plt ((p.1 : Int), (p.2 : Int)) = kl) := by
      intro kl
      rw [has_setOf _ _ _ (fun x hx => by obtain ⟨q, hq, rfl⟩ := List.mem_map.1 hx; exact Tryz.keyedR.key (keyOf_pv (HPS.out.2 q hq).1 (HPS.out.2 q hq).2)), List.any_eq_true]
      constructor
      · rintro ⟨x, hx, hs⟩
        obtain ⟨q, hq, rfl⟩ := List.mem_map.1 hx
        obtain ⟨p, hp, rfl⟩ := List.mem_map.1 hq
        exact ⟨p, hp, by simp, WideAt.sameKey_eq hs⟩
      · rintro ⟨p, hp, _, rfl⟩
        have hm : ((p.1 : Int), (p.2 : Int)) ∈ pI P := List.mem_map.2 ⟨p, hp, rfl⟩
        exact ⟨_, List.mem_map_of_mem hm, WideAt.sameKey_self (Tryz.keyedR.key (keyOf_pv (HPS.out.2 _ hm).1 (HPS.out.2 _ hm).2))⟩
    have HOK : Hid (∀ p ∈ P, okr ((p.1 : Int), (p.2 : Int))) := fun p hp => HPS.out.2 _ (List.mem_map.2 ⟨p, hp, rfl⟩)
    have HPI : Hid (∀ p ∈ P, p.1 < n ∧ p.2 < m) := HS.out.i
    generalize setOf (H := Unit) (.agg []) ((pI P).map plt) = D at hrg0 HL0
    have HRG0 : Hid (w0.ranges Tryz.prog 105 unitElem M R (pI P).length D (Maps.has D) (Maps.size D)) := hrg0
    clear hrg0 hg0 hs0 HPS k3 HT HS hML hKW
    generalize (pI P).length = pl at HRG0
    go_frame
    go_loopw [] (fun wr => ∃ (V : List (Nat × Nat)) (left : Lit → Bool) (cnt : Nat), Hid (wr.ranges Tryz.prog 105 unitElem M R pl D left cnt) ∧ Hid (Bx wr A1 (tA (cA V) n) 3 ∧ Bx wr A2 (tA (cB V) m) 3 ∧ Below w.heap.size w wr) ∧ Hid (Uni V ∧ (∀ p ∈ V, p ∈ P) ∧ ∀ kl, left kl = true ↔ ∃ p ∈ P, p ∉ V ∧ plt ((p.1 : Int), (p.2 : Int)) = kl)) (fun wr => wr.rangeLeft M R)
    case atStart => exact ⟨[], _, _, HRG0, HB0, ⟨List.nodup_nil, List.nodup_nil⟩, fun p hp => absurd hp (by simp), HL0.out⟩
    case round =>
      obtain ⟨V, left, cnt, HG, HB, HV⟩ := hrel
      clear HRG0 HB0 HL0
      go_wp2_with (first | (at_next; refine wpList_next_ps rfl _ rfl M R pl D left cnt rfl HG.out (fun kl hk => by obtain ⟨p, hp, _, e⟩ := (HV.out.2.2 kl).1 hk; exact ⟨_, HOK.out p hp, e⟩) ?_ ?_) | go_in)
      · intro hl
        have HO : Hid (OneL P) := HV.out.1.one fun p hp => by
          refine Classical.byContradiction fun hn => ?_
          have := (HV.out.2.2 _).2 ⟨p, hp, hn, rfl⟩
          rw [hl] at this
          exact absurd this (by decide)
        clear hl
        go_wp2
        go_ret
        exact ⟨true, rfl, ⟨fun _ => ⟨trivial, HO.out⟩, fun _ => rfl⟩, HB.out.2.2⟩
      · rintro pa pb w1 cnt1 o1 o2 o3 o4 hlp hrg1 hlt hg1 hs1 hen
        have hp : okr (pa, pb) := ⟨⟨o1, o2⟩, ⟨o3, o4⟩⟩
        obtain ⟨⟨x, y⟩, hxP, hxV, hxe⟩ := (HV.out.2.2 _).1 hlp
        have hpe := plt_inj (HOK.out _ hxP) hp hxe
        injection hpe with hpa hpb
        simp only at hpa hpb
        subst hpa hpb
        obtain ⟨hx, hy⟩ := HPI.out _ hxP
        simp only at hx hy
        have HB1 : Hid (Bx w1 A1 (tA (cA V) n) 3 ∧ Bx w1 A2 (tA (cB V) m) 3 ∧ Below w.heap.size w w1) := by
          have hr := HRL.out
          obtain ⟨h1, h2, h3⟩ := HB.out
          exact ⟨(hg1.block A1 h1.lt (fun e => by injection e with e; omega)).trans h1, (hg1.block A2 h2.lt (fun e => by injection e with e; omega)).trans h2, h3.grown hg1 h3.size (fun k e => by injection e with e; omega)⟩
        have HRG1 : Hid (w1.ranges Tryz.prog 105 unitElem M R pl D (fun z => left z && !z.sameKey (plt ((x : Int), (y : Int)))) cnt1 ∧ cnt1 < cnt) := ⟨hrg1, hlt⟩
        have HXP : Hid ((x, y) ∈ P ∧ (x, y) ∉ V) := ⟨hxP, hxV⟩
        have HLM : Hid (wr.rangeLeft M R = cnt) := HG.out.left_eq
        have n1 := Bx.new w1 #[.int .i64 (x : Int), .int .i64 (y : Int)] 105
        have b1 := below_alloc w1 (.cells #[.int .i64 (x : Int), .int .i64 (y : Int)] 105)
        have HW2 : Hid (Bx (w1.alloc (.cells #[.int .i64 (x : Int), .int .i64 (y : Int)] 105)) A1 (tA (cA V) n) 3 ∧ Bx (w1.alloc (.cells #[.int .i64 (x : Int), .int .i64 (y : Int)] 105)) A2 (tA (cB V) m) 3 ∧ Below w.heap.size w (w1.alloc (.cells #[.int .i64 (x : Int), .int .i64 (y : Int)] 105)) ∧ Bx (w1.alloc (.cells #[.int .i64 (x : Int), .int .i64 (y : Int)] 105)) w1.heap.size #[.int .i64 (x : Int), .int .i64 (y : Int)] 105 ∧ (w1.alloc (.cells #[.int .i64 (x : Int), .int .i64 (y : Int)] 105)).ranges Tryz.prog 105 unitElem M R pl D (fun z => left z && !z.sameKey (plt ((x : Int), (y : Int)))) cnt1 ∧ A1 < w1.heap.size ∧ A2 < w1.heap.size) := ⟨HB1.out.1.later b1, HB1.out.2.1.later b1, HB1.out.2.2.trans (b1.mono HB1.out.2.2.size), n1, HRG1.out.1.alloc _, HB1.out.1.lt, HB1.out.2.1.lt⟩
        clear hrg1 hlt hg1 hs1 hlp hp hxP hxV hxe n1 b1 HG HB
        go_upto_region 7 with go_in
        generalize w1.alloc (.cells #[.int .i64 (x : Int), .int .i64 (y : Int)] 105) = w2 at HW2 ⊢
        generalize w1.heap.size = T at HW2 ⊢
        have HAT : Hid (A1 < T ∧ A2 < T) := HW2.out.2.2.2.2.2
        obtain ⟨a, Ha⟩ : ∃ a, Hid (a = cA V x) := ⟨_, rfl⟩
        obtain ⟨b, Hb⟩ : ∃ b, Hid (b = cB V y) := ⟨_, rfl⟩
        have ha1 : a ≤ 1 := by rw [Ha.out]; exact List.nodup_iff_count.1 HV.out.1.1 x
        have hb1 : b ≤ 1 := by rw [Hb.out]; exact List.nodup_iff_count.1 HV.out.1.2 y
        have e0 : w2.cell? ⟨A1, x, none⟩ = some (.int .i64 (a : Int)) := by rw [Ha.out]; exact (HW2.out.1.cell x).trans (tA_get _ hx)
        have z0 := HW2.out.1.fz x
        have s0 : w2.cell? ⟨T, 0, none⟩ = some (.int .i64 (x : Int)) := HW2.out.2.2.2.1.cell 0
        have HW3 : Hid (Bx (w2.setCell ⟨A1, x, none⟩ (.int .i64 ((a : Int) + 1))) A1 (tA (cA (V ++ [(x, y)])) n) 3 ∧ Bx (w2.setCell ⟨A1, x, none⟩ (.int .i64 ((a : Int) + 1))) A2 (tA (cB V) m) 3 ∧ Below w.heap.size w (w2.setCell ⟨A1, x, none⟩ (.int .i64 ((a : Int) + 1))) ∧ Bx (w2.setCell ⟨A1, x, none⟩ (.int .i64 ((a : Int) + 1))) T #[.int .i64 (x : Int), .int .i64 (y : Int)] 105 ∧ (w2.setCell ⟨A1, x, none⟩ (.int .i64 ((a : Int) + 1))).ranges Tryz.prog 105 unitElem M R pl D (fun z => left z && !z.sameKey (plt ((x : Int), (y : Int)))) cnt1) := by
          obtain ⟨h1, h2, h3, h4, h5, h6, h7⟩ := HW2.out
          have hr := HRL.out
          have hA := HA.out
          refine ⟨?_, h2.other (Ne.symm hA) _ _, h3.setCell (p := ⟨A1, x, none⟩) HMA.out.1 _, h4.other (by omega) _ _, h5.kept (grown_set w2 A1 x _) (fun e => by injection e with e; have := HMA.out; omega) (fun e => by injection e with e; omega)⟩
          have := h1.set x (.int .i64 ((a : Int) + 1))
          rw [show (a : Int) + 1 = ((cA V x + 1 : Nat) : Int) by rw [Ha.out]; omega, tA_set] at this
          rw [show tA (cA (V ++ [(x, y)])) n = tA (bump (cA V) x) n from tA_congr fun i => (cA_snoc V x y i).symm, show (a : Int) + 1 = ((cA V x + 1 : Nat) : Int) by rw [Ha.out]; omega]
          exact this
        go_upto_region 8 with fail
        clear e0 z0 s0 HW2
        generalize w2.setCell ⟨A1, x, none⟩ (.int .i64 ((a : Int) + 1)) = w3 at HW3 ⊢
        have e1 : w3.cell? ⟨A2, y, none⟩ = some (.int .i64 (b : Int)) := by rw [Hb.out]; exact (HW3.out.2.1.cell y).trans (tA_get _ hy)
        have z1 := HW3.out.2.1.fz y
        have s1 : w3.cell? ⟨T, 1, none⟩ = some (.int .i64 (y : Int)) := HW3.out.2.2.2.1.cell 1
        have HW4 : Hid (Bx (w3.setCell ⟨A2, y, none⟩ (.int .i64 ((b : Int) + 1))) A1 (tA (cA (V ++ [(x, y)])) n) 3 ∧ Bx (w3.setCell ⟨A2, y, none⟩ (.int .i64 ((b : Int) + 1))) A2 (tA (cB (V ++ [(x, y)])) m) 3 ∧ Below w.heap.size w (w3.setCell ⟨A2, y, none⟩ (.int .i64 ((b : Int) + 1))) ∧ Bx (w3.setCell ⟨A2, y, none⟩ (.int .i64 ((b : Int) + 1))) T #[.int .i64 (x : Int), .int .i64 (y : Int)] 105 ∧ (w3.setCell ⟨A2, y, none⟩ (.int .i64 ((b : Int) + 1))).ranges Tryz.prog 105 unitElem M R pl D (fun z => left z && !z.sameKey (plt ((x : Int), (y : Int)))) cnt1) := by
          obtain ⟨h1, h2, h3, h4, h5⟩ := HW3.out
          have hr := HRL.out
          have hA := HA.out
          refine ⟨h1.other hA _ _, ?_, h3.setCell (p := ⟨A2, y, none⟩) HMA.out.2.1 _, h4.other (by have := HAT.out; omega) _ _, h5.kept (grown_set w3 A2 y _) (fun e => by injection e with e; have := HMA.out; omega) (fun e => by injection e with e; omega)⟩
          have := h2.set y (.int .i64 ((b : Int) + 1))
          rw [show (b : Int) + 1 = ((cB V y + 1 : Nat) : Int) by rw [Hb.out]; omega, tA_set] at this
          rw [show tA (cB (V ++ [(x, y)])) m = tA (bump (cB V) y) m from tA_congr fun i => (cB_snoc V x y i).symm, show (b : Int) + 1 = ((cB V y + 1 : Nat) : Int) by rw [Hb.out]; omega]
          exact this
        go_upto_region 9 with fail
        clear e1 z1 s1 HW3
        generalize w3.setCell ⟨A2, y, none⟩ (.int .i64 ((b : Int) + 1)) = w4 at HW4 ⊢
        have s0 : w4.cell? ⟨T, 0, none⟩ = some (.int .i64 (x : Int)) := HW4.out.2.2.2.1.cell 0
        have s1 : w4.cell? ⟨T, 1, none⟩ = some (.int .i64 (y : Int)) := HW4.out.2.2.2.1.cell 1
        have HCA : Hid (cA (V ++ [(x, y)]) x = a + 1 ∧ cB (V ++ [(x, y)]) y = b + 1) := by
          refine ⟨?_, ?_⟩
          · rw [← cA_snoc V x y x, bump, if_pos rfl, Ha.out]
          · rw [← cB_snoc V x y y, bump, if_pos rfl, Hb.out]
        have e0 : w4.cell? ⟨A1, x, none⟩ = some (.int .i64 ((a : Int) + 1)) := by
          rw [(HW4.out.1.cell x).trans (tA_get _ hx), HCA.out.1]; rfl
        have e1 : w4.cell? ⟨A2, y, none⟩ = some (.int .i64 ((b : Int) + 1)) := by
          rw [(HW4.out.2.1.cell y).trans (tA_get _ hy), HCA.out.2]; rfl
        by_cases hone : a = 0 ∧ b = 0
        · obtain ⟨ha0, hb0⟩ := hone
          have HU : Hid (Uni (V ++ [(x, y)])) := HV.out.1.snoc (by rw [HCA.out.1, ha0]; omega) (by rw [HCA.out.2, hb0]; omega)
          have HV2 : Hid ((∀ p ∈ V ++ [(x, y)], p ∈ P) ∧ ∀ kl, (left kl && !kl.sameKey (plt ((x : Int), (y : Int)))) = true ↔ ∃ p ∈ P, p ∉ V ++ [(x, y)] ∧ plt ((p.1 : Int), (p.2 : Int)) = kl) := by
            refine ⟨fun p hp => ?_, fun kl => ?_⟩
            · rcases List.mem_append.1 hp with hp | hp
              · exact HV.out.2.1 p hp
              · rw [List.mem_singleton.1 hp]; exact HXP.out.1
            · rw [Bool.and_eq_true, HV.out.2.2 kl]
              constructor
              · rintro ⟨⟨p, h1, h2, rfl⟩, h3⟩
                refine ⟨p, h1, fun hm => ?_, rfl⟩
                rcases List.mem_append.1 hm with hm | hm
                · exact h2 hm
                · rw [List.mem_singleton.1 hm] at h3
                  rw [WideAt.sameKey_self (Tryz.keyedR.key (keyOf_pv (HOK.out _ HXP.out.1).1 (HOK.out _ HXP.out.1).2))] at h3
                  exact absurd h3 (by decide)
              · rintro ⟨p, h1, h2, rfl⟩
                refine ⟨⟨p, h1, fun hm => h2 (by simp [hm]), rfl⟩, ?_⟩
                cases hs : (plt ((p.1 : Int), (p.2 : Int))).sameKey (plt ((x : Int), (y : Int)))
                · rfl
                · exfalso
                  have := plt_inj (HOK.out _ h1) (HOK.out _ HXP.out.1) (WideAt.sameKey_eq hs)
                  injection this with q1 q2
                  have : p = (x, y) := Prod.ext (by simp only at q1; omega) (by simp only at q2; omega)
                  exact h2 (by simp [this])
          subst ha0 hb0
          go_wp2
          go_roundw
          case rel => exact ⟨V ++ [(x, y)], _, cnt1, HW4.out.2.2.2.2, ⟨HW4.out.1, HW4.out.2.1, HW4.out.2.2.1⟩, HU.out, HV2.out.1, HV2.out.2⟩
          case measure => rw [HW4.out.2.2.2.2.left_eq, HLM.out]; exact HRG1.out.2
        · have HNO : Hid (¬ OneL P) := not_one HV.out.2.1 HXP.out.1 HXP.out.2 (by rw [HCA.out.1, HCA.out.2]; omega)
          have hcs : 1 < a + 1 ∨ (a = 0 ∧ 1 < b + 1) := by omega
          clear hone
          rcases hcs with h | ⟨rfl, h⟩
          · have h' : (1 : Int) < (a : Int) + 1 := by omega
            go_wp2
            go_ret
            exact ⟨false, rfl, ⟨fun h => absurd h (by decide), fun h => absurd h.2 HNO.out⟩, HW4.out.2.2.1⟩
          · have h' : (1 : Int) < (b : Int) + 1 := by omega
            go_wp2
            go_ret
            exact ⟨false, rfl, ⟨fun h => absurd h (by decide), fun h => absurd h.2 HNO.out⟩, HW4.out.2.2.1⟩
end Go.Proofs.YtcplgjclkjcekaaGreatDoor.Alk
end
