/- The set of keys, by the contracts of the map's operations. -/
import Derived.Test.YtkggdjghjdakoaaGreatDoorGraphNe
import Derived.Maps.OwnSet
import Derived.Maps.OwnIn
import Derived.DeepKeys4
namespace Go.Proofs.YtkggdjghjdakoaaGreatDoor.Grp
open Utf Rws Pln Flw
open Go.RowKit Go.Shelf Go.Maps
set_option linter.unusedSimpArgs false
set_option linter.unusedVariables false
set_option maxRecDepth 100000
set_option maxHeartbeats 4000000

theorem Tryz.laidG : laidOutB Tryz.prog = true := by kernel_rfl
theorem Tryz.rowK : (72 : TypeId) < Tryz.prog.types.size := of_decide_eq_true (by kernel_rfl)
theorem Tryz.wideK : (match Tryz.prog.underlying 72 with | some (.array _ _) | some (.struct _) => true | _ => false) = true := by kernel_rfl
theorem Tryz.lawK : WideMaps.KeyLaw Tryz.prog 72 := deep_law_laid Tryz.laidG (m := 3) (by omega) Tryz.rowK (by kernel_rfl) Tryz.wideK
theorem Tryz.keyedK : Keyed Tryz.prog 72 := Keyed.of_law Tryz.lawK
theorem Tryz.undSet : Tryz.prog.underlying 69 = some (.map 72 86) := by kernel_rfl
theorem Tryz.cellsK : Tryz.prog.cellsOf 72 = 2 := by kernel_rfl
theorem Tryz.keyTK : Tryz.prog.keyType 72 = true := by kernel_rfl
theorem Tryz.cellsI : Tryz.prog.cellsOf 3 = 1 := by kernel_rfl
theorem Tryz.cellsS : Tryz.prog.cellsOf 9 = 1 := by kernel_rfl
theorem Tryz.undI : Tryz.prog.underlying 3 = some (.int .i64) := by kernel_rfl
theorem Tryz.undS : Tryz.prog.underlying 9 = some .string := by kernel_rfl
theorem Tryz.undK0 : (match Tryz.prog.underlying 72 with | some (.struct fs) => fs.toList.map (fun f => (f.name != "_", f.type, f.offset)) | _ => []) = [(true, 3, 0), (true, 9, 1)] := by kernel_rfl
theorem undK : ∃ f0 f1, Tryz.prog.underlying 72 = some (.struct #[f0, f1]) ∧ (f0.name != "_") = true ∧ f0.type = 3 ∧ f0.offset = 0 ∧ (f1.name != "_") = true ∧ f1.type = 9 ∧ f1.offset = 1 := by
  have h := Tryz.undK0
  have hw := Tryz.wideK
  cases hu : Tryz.prog.underlying 72 with
  | none => rw [hu] at hw; cases hw
  | some d =>
    rw [hu] at h
    cases d with
    | struct fs =>
      simp only at h
      obtain ⟨l⟩ := fs
      match l, h with
      | [f0, f1], h =>
        simp only [List.map_cons, List.map_nil, List.cons.injEq, Prod.mk.injEq, and_true] at h
        exact ⟨f0, f1, rfl, h.1.1, h.1.2.1, h.1.2.2, h.2.1, h.2.2.1, h.2.2.2⟩
    | _ => simp at h
abbrev kv (p : Int × Ln) : Value := .agg #[.int .i64 p.1, .string (mk p.2)]
/-- what a key is told as -/
def klt (p : Int × Ln) : Lit := .string (keyBytes [.int .i64 p.1, .string p.2])
theorem keyOf_kv {p : Int × Ln} (h1 : i64 p.1) (h2 : p.2.length ≤ 9223372036854775807) : keyOf Tryz.prog 72 (kv p) = some (klt p) := by
  obtain ⟨f0, f1, hu, a0, a1, a2, b0, b1, b2⟩ := undK
  have hf : (kv p).formed Tryz.prog 72 = true := by simp [Value.formed, hu, Tryz.cellsK]
  have hwf : (Lit.int .i64 p.1).wf = true := by
    show (decide (IntKind.min .i64 ≤ p.1) && decide (p.1 ≤ IntKind.max .i64)) = true
    rw [Bool.and_eq_true, decide_eq_true_eq, decide_eq_true_eq]
    exact ⟨h1.1, h1.2⟩
  have hsz : (mk p.2).size ≤ maxLen := by rw [mk_size]; exact h2
  obtain ⟨d, hd⟩ : ∃ d, Tryz.prog.types.size + 1 = d + 1 + 1 := ⟨Tryz.prog.types.size - 1, by have : 72 < Tryz.prog.types.size := Tryz.rowK; omega⟩
  have hi : Tryz.prog.keyLits (d + 1) 3 [.int .i64 p.1] = some [.int .i64 p.1] := by unfold Program.keyLits; rw [Tryz.undI]; simp [hwf]
  have hs : Tryz.prog.keyLits (d + 1) 9 [.string (mk p.2)] = some [.string p.2] := by unfold Program.keyLits; rw [Tryz.undS]; simp [hsz, mk_data]
  have h : Tryz.prog.keyLits (d + 1 + 1) 72 [.int .i64 p.1, .string (mk p.2)] = some [.int .i64 p.1, .string p.2] := by
    unfold Program.keyLits
    simp only [hu, List.length_cons, List.length_nil, Tryz.cellsK]
    rw [if_pos ⟨trivial, by simp [a0, b0]⟩]
    simp only [List.mapM_cons, List.mapM_nil, a1, a2, b1, b2, Tryz.cellsI, Tryz.cellsS, List.drop_zero, List.drop_succ_cons, List.take_succ_cons, List.take_zero, hi, hs]
    rfl
  unfold keyOf
  rw [hu]
  simp only [Tryz.keyTK, hf, Bool.and_self, if_true]
  rw [hd]
  show (Tryz.prog.keyLits (d + 1 + 1) 72 [.int .i64 p.1, .string (mk p.2)]).map _ = _
  rw [h]
  rfl
abbrev okp (p : Int × Ln) : Prop := i64 p.1 ∧ p.2.length ≤ 9223372036854775807
theorem klt_inj {p q : Int × Ln} (hp : okp p) (hq : okp q) (e : klt p = klt q) : p = q := by
  have h := Tryz.keyedK.inj (keyOf_kv hp.1 hp.2) (by rw [e]; exact keyOf_kv hq.1 hq.2)
  simp only [kv, Value.agg.injEq, Array.mk.injEq, List.cons.injEq, Value.int.injEq, Value.string.injEq, and_true, true_and] at h
  exact Prod.ext h.1 (mk_inj h.2)
/-- a set in memory -/
def SetAt (w : World) (B : Nat) (ps : List (Int × Ln)) : Prop := w.ownsMap (H := Unit) Tryz.prog 72 unitElem B ps.length (setOf (.agg []) (ps.map klt)) ∧ ∀ p ∈ ps, okp p
theorem has_set {ps : List (Int × Ln)} {p : Int × Ln} (h : ∀ q ∈ ps, okp q) (hp : okp p) : has (setOf (H := Unit) (.agg []) (ps.map klt)) (klt p) = decide (p ∈ ps) := by
  rw [has_setOf _ _ _ (fun x hx => by obtain ⟨q, hq, rfl⟩ := List.mem_map.1 hx; exact Tryz.keyedK.key (keyOf_kv (h q hq).1 (h q hq).2)), Bool.eq_iff_iff, List.any_eq_true, decide_eq_true_eq]
  constructor
  · rintro ⟨x, hx, hs⟩
    obtain ⟨q, hq, rfl⟩ := List.mem_map.1 hx
    have := klt_inj (h q hq) hp (WideAt.sameKey_eq hs)
    rw [← this]
    exact hq
  · intro hm
    exact ⟨klt p, List.mem_map_of_mem hm, WideAt.sameKey_self (Tryz.keyedK.key (keyOf_kv hp.1 hp.2))⟩
theorem SetAt.kept {w w' : World} {B : Nat} {row : Option Nat} {ps : List (Int × Ln)} (h : SetAt w B ps) (hg : w.grownBy w' row) (hne : some B ≠ row) : SetAt w' B ps := ⟨h.1.kept hg hne, h.2⟩
theorem SetAt.later {w w' : World} {B : Nat} {ps : List (Int × Ln)} (h : SetAt w B ps) (hb : Below w.heap.size w w') : SetAt w' B ps := h.kept (row := none) ⟨hb.os, hb.tape, hb.output, hb.size, fun k hk _ => hb.block k hk⟩ (by simp)
theorem SetAt.new (w : World) : SetAt (w.alloc (.map #[] 0)) w.heap.size [] := ⟨World.ownsMap_made w _ _ _, fun p hp => absurd hp (by simp)⟩
theorem zeroU (w : World) : (zeroValue 86).run Tryz.prog w = .ok (.agg #[]) w := by kernel_rfl
theorem add_any {w : World} {B : Nat} {ps : List (Int × Ln)} {p : Int × Ln} (h : SetAt w B ps) (hp : okp p) (hr : ps.length < 9223372036854775807) :
    Calls Tryz.prog 36 #[.map (some B), kv p] w fun e w' => e = .returned (.bool (!decide (p ∈ ps))) ∧ SetAt w' B (ps ++ [p]) ∧ w.grownBy w' (some B) := by
  have HH : Hid (has (setOf (H := Unit) (.agg []) (ps.map klt)) (klt p) = decide (p ∈ ps)) := has_set h.2 hp
  have HS : Hid (setOf (H := Unit) (.agg []) ((ps ++ [p]).map klt) = (setOf (.agg []) (ps.map klt)).put (klt p) (.agg [])) := by
    show _ = _
    rw [List.map_append]
    exact setOf_snoc _ _ _
  have HO : Hid (∀ q ∈ ps ++ [p], okp q) := fun q hq => by
    rcases List.mem_append.1 hq with hq | hq
    · exact h.2 q hq
    · rw [List.mem_singleton.1 hq]; exact hp
  have hkey := keyOf_kv hp.1 hp.2
  obtain ⟨k, x⟩ := p
  have hown1 := h.1.alloc (.cells #[.int .i64 k, .string (mk x)] 72)
  have hsz : maxLen = 9223372036854775807 := rfl
  generalize decide ((k, x) ∈ ps) = q at *
  generalize setOf (H := Unit) (.agg []) (ps.map klt) = D at *
  clear h
  go_enter Tryz.func36, Tryz.ntmps36
  go_wp2_with (first | (at_lookup; refine wpList_lookup_own_unit _ rfl _ _ 69 rfl 72 86 Tryz.keyedK Tryz.undSet (zeroU _) B ps.length D rfl hown1 _ _ rfl hkey ?_) | (at_mapUpdate; refine wpList_mapUpdate_own _ rfl _ _ _ 69 rfl 72 86 Tryz.keyedK Tryz.undSet _ B ps.length D rfl (hown1.alloc _) (by omega) _ _ (klt (k, x)) rfl rfl hkey (.agg []) [] unitElem_mk ?_; intro w1 hown2 hgrow2))
  go_ret
  refine ⟨?_, ⟨?_, HO.out⟩, ((World.grownBy_alloc _ _ _).trans (World.grownBy_alloc _ _ _)).trans hgrow2⟩
  · rw [← HH.out]; rfl
  · rw [HS.out, List.length_append]; exact hown2
end Go.Proofs.YtkggdjghjdakoaaGreatDoor.Grp
