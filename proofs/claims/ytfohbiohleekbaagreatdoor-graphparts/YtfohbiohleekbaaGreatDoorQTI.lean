/- Several texts as one: PlainLaid, FlowLaid, FlowArg, GraphArg, NodeArg. -/
import Derived.Test.YtfohbiohleekbaaGreatDoorQFbI
import Derived.Lib.LaidTab
import Derived.MakeChecks
import Derived.LaidLaws
import Derived.Test.YtfohbiohleekbaaGreatDoorQFbN
import Derived.OpenShut
import Derived.Test.YtfohbiohleekbaaGreatDoorQFbE
import Derived.ProofKit
import Derived.SliceStrings
import Derived.SizedLaws
import Derived.Deep.SlicePairs
import Derived.Lib.SmallJoins
import Derived.Test.YtfohbiohleekbaaGreatDoorQGgB
section
/- . -/
namespace Go.Proofs.YtfohbiohleekbaaGreatDoor.Pln
open Utf Rws
open Go.RowKit
set_option linter.unusedSimpArgs false
set_option linter.unusedVariables false
set_option maxRecDepth 100000
theorem iface_of_trod {H : Type} {enc : TypeId × Value → H} {P : Program} {w : World} {base : Nat} {sp : Nat → Bool} {held : Bool} {fuel : Nat} {t : TypeId} {ms : Array (String × TypeId)} {cs : List Value} {nm : String} {d : DataW H} {p : List MemPlace}
  (hi : P.underlying t = some (.interface ms)) (h : DataW.trod enc P w base sp held fuel t cs = some (.iface nm d, p)) : ∃ u v, cs = [.iface u v] := by
 cases fuel with
 | zero => simp [DataW.trod] at h
 | succ fuel =>
  simp only [DataW.trod, hi] at h
  split at h
  all_goals first
   | (exact ⟨_, _, rfl⟩)
   | (exfalso; simp at h; done)
   | (exfalso; rename_i heq _; cases heq; done)
   | (exfalso; rename_i heq; cases heq; done)
   | (exfalso; simp_all; done)
theorem laid_iface {P : Program} {n nm : String} {d : DataW Unit} {r : List (String × DataW Unit)} {W : World} {g : Nat} {ti : TypeId} {ms : Array (String × TypeId)}
  (h : ∃ q, DataW.LaidVars P W ((n, .iface nm d) :: r) q) (hg : P.globalNamed n = some g) (ht : (P.globals[g]?).map (·.type) = some ti) (hi : P.underlying ti = some (.interface ms)) :
  ∃ u v, W.cell? ⟨g, 0, none⟩ = some (.iface u v) := by
 obtain ⟨q, g0, t0, cs0, f0, p0, q0, hg0, ht0, hv0, hd0, _, _⟩ := h
 obtain rfl := Option.some.inj (hg.symm.trans hg0)
 obtain rfl := Option.some.inj (ht.symm.trans ht0)
 obtain ⟨u, v, e⟩ := iface_of_trod hi hd0
 refine ⟨u, v, ?_⟩
 rw [World.var?_cell hg0 hv0 0, ← Array.getElem?_toList, e]
 rfl
theorem laid_tail {P : Program} {x : String × DataW Unit} {r : List (String × DataW Unit)} {W : World} (h : ∃ q, DataW.LaidVars P W (x :: r) q) : ∃ q, DataW.LaidVars P W r q := by
 obtain ⟨q, g0, t0, cs0, f0, p0, q0, _, _, _, _, h, _⟩ := h
 exact ⟨q0, h⟩
theorem laid_tab {P : Program} {W : World} {name : String} {k : IntKind} {zs : List Int} {rest : List (String × DataW Unit)} {g : Nat} {t e : TypeId} {n : Nat}
  (h : ∃ q, DataW.LaidVars P W ((name, Lib.tabData k zs) :: rest) q)
  (hg : P.globalNamed name = some g) (hty : (P.globals[g]?).map (·.type) = some t) (ht : P.underlying t = some (.array n e)) (he : P.underlying e = some (.int k)) (hce : P.cellsOf e = 1) (hct : P.cellsOf t = n) : Lib.TabIs P W name k zs := by
 obtain ⟨q, g', t', cs, fuel, p, q', hg', ht', hvar, hd, _, _⟩ := h
 obtain rfl := Option.some.inj (hg.symm.trans hg')
 obtain rfl := Option.some.inj (hty.symm.trans ht')
 unfold Lib.TabIs
 rw [hvar, ← Lib.cells_of_tab ht he hce hct hd]
theorem tabs_of {W : World} (h : laidMetH Tryz.prog Rows.graphComposesRow.laid W) : Tabs W := by
 rw [MakeChecks.laidMetH_plain _ _ _ (by kernel_rfl)] at h
 obtain ⟨ps, h, _⟩ := h
 have h0 : ∃ q, DataW.LaidVars Tryz.prog W Rows.graphComposesRow.laid q := ⟨ps, h⟩
 have h2 := laid_tail (laid_tail h0)
 have h4 := laid_tail (laid_tail h2)
 have h5 := laid_tail h4
 refine ⟨?_, ?_, ?_⟩
 ·exact laid_tab (n := 20) (t := 233) (e := 206) (g := 7) (zs := Lib.pow10Tab) h2 (by kernel_rfl) (by kernel_rfl) (by kernel_rfl) (by kernel_rfl) (by kernel_rfl) (by kernel_rfl)
 ·exact laid_iface (g := 3) h5 (by kernel_rfl) (by kernel_rfl) Tryz.underlying185
 ·exact laid_iface (g := 4) h4 (by kernel_rfl) (by kernel_rfl) Tryz.underlying185
end Go.Proofs.YtfohbiohleekbaaGreatDoor.Pln
end

section
/- . -/
namespace Go.Proofs.YtfohbiohleekbaaGreatDoor.Flw
open Utf Rws
open Go.RowKit
set_option linter.unusedSimpArgs false
set_option linter.unusedVariables false
set_option maxRecDepth 100000
section
variable {H : Type} {enc : TypeId × Value → H} {P : Program} {w : World} {base : Nat} {sp : Nat → Bool} {held : Bool} {fuel : Nat} {t e t0 t1 : TypeId} {n : Nat} {cs : List Value} {p : List MemPlace}
theorem cells_of_pair {f0 f1 : Field} {a b : Int} (he : P.underlying e = some (.struct #[f0, f1])) (h0 : f0.offset = 0) (h1 : f1.offset = 1) (hu0 : P.underlying f0.type = some (.int .u8)) (hu1 : P.underlying f1.type = some (.int .i64)) (hc0 : P.cellsOf f0.type = 1) (hc1 : P.cellsOf f1.type = 1) (hce : P.cellsOf e = 2)
  (h : DataW.trod enc P w base sp held fuel e cs = some (.agg [.lit (.int .u8 a), .lit (.int .i64 b)], p)) : cs = [.int .u8 a, .int .i64 b] := by
 obtain ⟨xs, m, _, hx, hl, hxl, hget⟩ := DataW.trod_struct he h
 have g0 := hget 0 f0 rfl
 have g1 := hget 1 f1 rfl
 have hx1 : xs.map (·.1) = [.lit (.int .u8 a), .lit (.int .i64 b)] := by have := congrArg Prod.fst hx; simp only [DataW.agg.injEq] at this; exact this.symm
 match xs, hxl, hx1, g0, g1 with
 | [x0, x1], _, hx1, g0, g1 =>
  simp only [List.map_cons, List.map_nil, List.cons.injEq, and_true] at hx1
  obtain ⟨z0, k0, k1, _⟩ := DataW.trod_int hu0 g0
  obtain ⟨z1, k2, k3, _⟩ := DataW.trod_int hu1 g1
  rw [k1, k3] at hx1
  simp only [DataW.lit.injEq, Lit.int.injEq, true_and] at hx1
  obtain ⟨rfl, rfl⟩ := hx1
  rw [h0, hc0, List.drop_zero] at k0
  rw [h1, hc1] at k2
  rw [hce] at hl
  match cs, hl, k0, k2 with
  | [c0, c1], _, k0, k2 =>
   simp at k0 k2
   rw [k0, k2]
end
theorem var_heap {P : Program} {W : World} {name : String} {g : Nat} {cs : Array Value} (hg : P.globalNamed name = some g) (hv : W.var? P name = some cs) : ∃ t fz, W.heap[g]? = some (.cells cs t fz) := by
 unfold World.var? at hv
 rw [hg] at hv
 simp only [Option.bind_some] at hv
 split at hv
 ·rename_i c t fz hh
  simp only [Option.some.injEq] at hv
  subst hv
  exact ⟨_, _, hh⟩
 ·cases hv
theorem cellsS : Tryz.prog.cellsOf 217 = 2 := by kernel_rfl
theorem cellsN : Tryz.prog.cellsOf 219 = 2 := by kernel_rfl
theorem cells6 : Tryz.prog.cellsOf 218 = 12 := by kernel_rfl
theorem cells3 : Tryz.prog.cellsOf 220 = 6 := by kernel_rfl
theorem cellsB : Tryz.prog.cellsOf 5 = 1 := by kernel_rfl
theorem cellsI : Tryz.prog.cellsOf 3 = 1 := by kernel_rfl
theorem seg {cs : List Value} {i : Nat} {a b : Value} (h : (cs.drop (i * 2)).take 2 = [a, b]) : cs[i * 2]? = some a ∧ cs[i * 2 + 1]? = some b := by
 have h0 := congrArg (·[0]?) h
 have h1 := congrArg (·[1]?) h
 simp [List.getElem?_take, List.getElem?_drop] at h0 h1
 exact ⟨h0, h1⟩
def shName : String := match Rows.graphComposesRow.laid with
 | _ :: _ :: _ :: _ :: _ :: _ :: x :: _ => x.1
 | _ => Rows.graphComposesRow.func
def nuName : String := match Rows.graphComposesRow.laid with
 | _ :: _ :: _ :: _ :: _ :: _ :: _ :: x :: _ => x.1
 | _ => Rows.graphComposesRow.func
theorem qtabs_of {W : World} {r : List (String × DataW Unit)} (h : ∃ q, DataW.LaidVars Tryz.prog W ((shName, Rows.laid_grommet_quote_shorts) :: (nuName, Rows.laid_grommet_quote_numbered) :: r) q) : Quo.Tabs W := by
 have h2 := Pln.laid_tail h
 refine ⟨?_, ?_⟩
 ·obtain ⟨q, g, t, cs, fuel, p, q', hg, ht, hv, hd, _, _⟩ := h
  have hg' : Tryz.prog.globalNamed shName = some 5 := by kernel_rfl
  obtain rfl := Option.some.inj (hg'.symm.trans hg)
  have ht' : (Tryz.prog.globals[5]?).map (·.type) = some 218 := by kernel_rfl
  obtain rfl := Option.some.inj (ht'.symm.trans ht)
  obtain ⟨t, fz, hh⟩ := var_heap hg hv
  obtain ⟨xs, m, _, hx, hl, hxl, hget⟩ := DataW.trod_array Tryz.underlying218 hd
  have hx1 : xs.map (·.1) = [.agg [.lit (.int .u8 34), .lit (.int .i64 34)], .agg [.lit (.int .u8 92), .lit (.int .i64 92)], .agg [.lit (.int .u8 110), .lit (.int .i64 10)], .agg [.lit (.int .u8 116), .lit (.int .i64 9)], .agg [.lit (.int .u8 114), .lit (.int .i64 13)], .agg [.lit (.int .u8 48), .lit (.int .i64 0)]] := by
   have := congrArg Prod.fst hx
   simp only [Rows.laid_grommet_quote_shorts, DataW.agg.injEq] at this
   exact this.symm
  have key : ∀ i a b, i < 6 → (xs.map (·.1))[i]? = some (.agg [.lit (.int .u8 a), .lit (.int .i64 b)]) → cs.toList[i * 2]? = some (.int .u8 a) ∧ cs.toList[i * 2 + 1]? = some (.int .i64 b) := by
   intro i a b hi hxi
   have hg2 := hget i hi
   rw [List.getElem?_map] at hxi
   obtain ⟨y, hy, hy2⟩ := Option.map_eq_some_iff.1 hxi
   rw [hy, cellsS] at hg2
   obtain ⟨y1, y2⟩ := y
   simp only at hy2
   subst hy2
   exact seg (cells_of_pair Tryz.underlying217 rfl rfl Tryz.underlying5 Tryz.underlying3 cellsB cellsI cellsS hg2)
  rw [hx1] at key
  rw [cells6] at hl
  obtain ⟨k0, k1⟩ := key 0 _ _ (by decide) rfl
  obtain ⟨k2, k3⟩ := key 1 _ _ (by decide) rfl
  obtain ⟨k4, k5⟩ := key 2 _ _ (by decide) rfl
  obtain ⟨k6, k7⟩ := key 3 _ _ (by decide) rfl
  obtain ⟨k8, k9⟩ := key 4 _ _ (by decide) rfl
  obtain ⟨k10, k11⟩ := key 5 _ _ (by decide) rfl
  refine ⟨t, fz, hh.trans (congrArg (fun c => some (Obj.cells c t fz)) ?_)⟩
  apply Array.ext'
  generalize cs.toList = l at *
  match l, hl, k0, k1, k2, k3, k4, k5, k6, k7, k8, k9, k10, k11 with
  | [c0, c1, c2, c3, c4, c5, c6, c7, c8, c9, c10, c11], _, k0, k1, k2, k3, k4, k5, k6, k7, k8, k9, k10, k11 =>
   simp at k0 k1 k2 k3 k4 k5 k6 k7 k8 k9 k10 k11
   rw [k0, k1, k2, k3, k4, k5, k6, k7, k8, k9, k10, k11]
 ·obtain ⟨q, g, t, cs, fuel, p, q', hg, ht, hv, hd, _, _⟩ := h2
  have hg' : Tryz.prog.globalNamed nuName = some 6 := by kernel_rfl
  obtain rfl := Option.some.inj (hg'.symm.trans hg)
  have ht' : (Tryz.prog.globals[6]?).map (·.type) = some 220 := by kernel_rfl
  obtain rfl := Option.some.inj (ht'.symm.trans ht)
  obtain ⟨t, fz, hh⟩ := var_heap hg hv
  obtain ⟨xs, m, _, hx, hl, hxl, hget⟩ := DataW.trod_array Tryz.underlying220 hd
  have hx1 : xs.map (·.1) = [.agg [.lit (.int .u8 120), .lit (.int .i64 2)], .agg [.lit (.int .u8 117), .lit (.int .i64 4)], .agg [.lit (.int .u8 85), .lit (.int .i64 8)]] := by
   have := congrArg Prod.fst hx
   simp only [Rows.laid_grommet_quote_numbered, DataW.agg.injEq] at this
   exact this.symm
  have key : ∀ i a b, i < 3 → (xs.map (·.1))[i]? = some (.agg [.lit (.int .u8 a), .lit (.int .i64 b)]) → cs.toList[i * 2]? = some (.int .u8 a) ∧ cs.toList[i * 2 + 1]? = some (.int .i64 b) := by
   intro i a b hi hxi
   have hg2 := hget i hi
   rw [List.getElem?_map] at hxi
   obtain ⟨y, hy, hy2⟩ := Option.map_eq_some_iff.1 hxi
   rw [hy, cellsN] at hg2
   obtain ⟨y1, y2⟩ := y
   simp only at hy2
   subst hy2
   exact seg (cells_of_pair Tryz.underlying219 rfl rfl Tryz.underlying5 Tryz.underlying3 cellsB cellsI cellsN hg2)
  rw [hx1] at key
  rw [cells3] at hl
  obtain ⟨k0, k1⟩ := key 0 _ _ (by decide) rfl
  obtain ⟨k2, k3⟩ := key 1 _ _ (by decide) rfl
  obtain ⟨k4, k5⟩ := key 2 _ _ (by decide) rfl
  refine ⟨t, fz, hh.trans (congrArg (fun c => some (Obj.cells c t fz)) ?_)⟩
  apply Array.ext'
  generalize cs.toList = l at *
  match l, hl, k0, k1, k2, k3, k4, k5 with
  | [c0, c1, c2, c3, c4, c5], _, k0, k1, k2, k3, k4, k5 =>
   simp at k0 k1 k2 k3 k4 k5
   rw [k0, k1, k2, k3, k4, k5]
theorem tb_met {W : World} (h : laidMetH Tryz.prog Rows.graphComposesRow.laid W) : Tb W := by
 refine ⟨Pln.tabs_of h, ?_⟩
 rw [MakeChecks.laidMetH_plain _ _ _ (by kernel_rfl)] at h
 obtain ⟨ps, h, _⟩ := h
 have h2 : ∃ q, DataW.LaidVars Tryz.prog W Rows.graphComposesRow.laid q := ⟨ps, h⟩
 exact qtabs_of (Pln.laid_tail (Pln.laid_tail (Pln.laid_tail (Pln.laid_tail (Pln.laid_tail (Pln.laid_tail h2))))))
end Go.Proofs.YtfohbiohleekbaaGreatDoor.Flw
end

section
/- . -/
namespace Go.Proofs.YtfohbiohleekbaaGreatDoor.Flw
open Utf Rws Pln
open Go.ChangeShapes Go.WideShapes Go.ChangeAt Go.RowKit
set_option linter.unusedSimpArgs false
set_option linter.unusedVariables false
set_option maxRecDepth 100000
section
variable {H : Type} {enc : TypeId × Value → H} {W : World} {base : Nat} {held : Bool}
theorem i64_bounds {z : Int} (w : (Lit.int .i64 z).wf = true) : -9223372036854775808 ≤ z ∧ z ≤ 9223372036854775807 := by
 simp only [Lit.wf, Bool.and_eq_true, decide_eq_true_eq] at w
 simp [IntKind.min, IntKind.max, IntKind.bits, IntKind.signed] at w
 omega
end
end Go.Proofs.YtfohbiohleekbaaGreatDoor.Flw
end

section
/- . -/
namespace Go.Proofs.YtfohbiohleekbaaGreatDoor.Grp
open Utf Rws Pln Flw
open Go.ChangeShapes Go.WideShapes Go.ChangeAt Go.RowKit
set_option linter.unusedSimpArgs false
set_option linter.unusedVariables false
set_option maxRecDepth 100000
section
variable {H : Type} {enc : TypeId × Value → H} {W : World} {base : Nat} {held : Bool}
theorem add_at (b off i : Nat) : (⟨b, off, none⟩ : Addr).add i = ⟨b, off + i, none⟩ := by unfold Addr.add; split <;> simp_all
theorem came_ints {fuel : Nat} {cs : List Value} {x : DataW H × List MemPlace} (h : DataW.trod enc Tryz.prog W base (fun _ => true) held fuel 39 cs = some x) : ∃ ad len cap l, cs = [.slice ad len cap] ∧ len ≤ cap ∧ cap ≤ maxLen ∧ IAt W ad len l := by
 have ci : Tryz.prog.cellsOf 3 = 1 := by kernel_rfl
 rcases DataW.trod_slice Tryz.underlying39 h with ⟨q, _⟩ | ⟨a, len, cap, elems, rest, n', hn', q, _, _, hlc, hcm, hel, hx, _⟩
 ·exact ⟨none, 0, 0, [], q, Nat.le_refl _, Nat.zero_le _, rfl, fun h => absurd h (by decide)⟩
 ·have each : ∀ i, i < len → ∃ z : Int, W.cell? (a.add i) = some (.int .i64 z) ∧ i64 z := by
   intro i hi
   have hxi := hx i hi
   rw [ci, List.getElem?_eq_getElem (by omega)] at hxi
   obtain ⟨cs', h1, h2⟩ := Option.bind_eq_some_iff.1 hxi
   obtain ⟨_, hlen, hcell⟩ := World.cells?_some h1
   obtain ⟨z0, e0, _, w0⟩ := DataW.trod_int Tryz.underlying3 h2
   subst e0
   have k0 := hcell 0 (by simp)
   rw [Deep.add_add] at k0
   exact ⟨z0, by simpa using k0, i64_bounds w0⟩
  obtain ⟨f, hf⟩ := Deep.choose_lt each
  refine ⟨some a, len, cap, (List.range len).map f, q, hlc, hcm, by simp, fun hp => ?_⟩
  obtain ⟨b, off, spot⟩ := a
  have hspot : spot = none := by simpa [Addr.add] using World.cell?_spot (hf 0 hp).1
  subst hspot
  refine ⟨b, off, rfl, World.block_lt_of_cell? W ⟨b, off + 0, none⟩ (by have := (hf 0 hp).1; rwa [add_at] at this), fun i hi => ?_⟩
  have e : ((List.range len).map f).getD i 0 = f i := by rw [List.getD_eq_getElem?_getD, List.getElem?_map, List.getElem?_range hi]; rfl
  rw [e]
  have k := (hf i hi).1
  rw [add_at] at k
  exact ⟨(hf i hi).2, k⟩
theorem came_node {fuel : Nat} {cs : List Value} {x : DataW H × List MemPlace} (h : DataW.trod enc Tryz.prog W base (fun _ => true) held fuel 50 cs = some x) : ∃ (n : Nd) (ad : Option Addr) (len cap : Nat), cs = [.int .i64 n.kind, .string (mk n.text), .slice ad len cap] ∧ len ≤ cap ∧ cap ≤ maxLen ∧ i64 n.kind ∧ n.text.length ≤ 9223372036854775807 ∧ IAt W ad len n.kids := by
 have hC : Tryz.prog.cellsOf 50 = 3 := by kernel_rfl
 have c0 : Tryz.prog.cellsOf 3 = 1 := by kernel_rfl
 have c1 : Tryz.prog.cellsOf 9 = 1 := by kernel_rfl
 have c2 : Tryz.prog.cellsOf 39 = 1 := by kernel_rfl
 obtain ⟨xs, n, hn, _, hl, hlen, hf⟩ := DataW.trod_struct Tryz.underlying50 h
 rw [hC] at hl
 match xs, hlen, cs, hl with
 | [y0, y1, y2], _, [v0, v1, v2], _ =>
  obtain ⟨_, _, _, _, _, _, g0, g1, g2⟩ := Deep.trod_struct3 Tryz.underlying50 h
  simp only [c0, c1, c2] at g0 g1 g2
  simp at g0 g1 g2
  obtain ⟨z0, e0, _, w0⟩ := DataW.trod_int Tryz.underlying3 g0
  obtain ⟨z1, e1, _, s1⟩ := DataW.trod_string Tryz.underlying9 g1
  obtain ⟨ad, len, cap, l, e2, h1, h2, h3⟩ := came_ints g2
  cases e0
  cases e1
  cases e2
  have m1 : maxLen = 9223372036854775807 := rfl
  refine ⟨⟨z0, z1.data.toList, l⟩, ad, len, cap, by simp only [mk_of], h1, h2, i64_bounds w0, ?_, h3⟩
  have e : z1.data.toList.length = z1.size := by rw [Array.length_toList]; rfl
  show z1.data.toList.length ≤ _
  rw [e]; omega
theorem trod_two {P : Program} {spare : Nat → Bool} {t : TypeId} {fuel : Nat} {f0 f1 : Field} {cs : List Value} {x : DataW H × List MemPlace} (ht : P.underlying t = some (.struct #[f0, f1])) (h : DataW.trod enc P W base spare held fuel t cs = some x) :
  ∃ y0 y1 n, DataW.trod enc P W base spare held n f0.type ((cs.drop f0.offset).take (P.cellsOf f0.type)) = some y0 ∧ DataW.trod enc P W base spare held n f1.type ((cs.drop f1.offset).take (P.cellsOf f1.type)) = some y1 := by
 obtain ⟨xs, n, hn, rfl, hl, hlen, hf⟩ := DataW.trod_struct ht h
 match xs, hlen with
 | [y0, y1], _ => exact ⟨y0, y1, n, by simpa using hf 0 f0 rfl, by simpa using hf 1 f1 rfl⟩
theorem came_graph {fuel : Nat} {cs : List Value} {x : DataW H × List MemPlace} (h : DataW.trod enc Tryz.prog W base (fun _ => true) held fuel 30 cs = some x) : ∃ g, GrV W (.agg cs.toArray) g := by
 have hC : Tryz.prog.cellsOf 30 = 2 := by kernel_rfl
 have hN : Tryz.prog.cellsOf 50 = 3 := by kernel_rfl
 have c0 : Tryz.prog.cellsOf 3 = 1 := by kernel_rfl
 have c1 : Tryz.prog.cellsOf 28 = 1 := by kernel_rfl
 obtain ⟨xs, n, hn, _, hl, hlen, hf⟩ := DataW.trod_struct Tryz.underlying30 h
 rw [hC] at hl
 match xs, hlen, cs, hl with
 | [y0, y1], _, [v0, v1], _ =>
  obtain ⟨_, _, _, g0, g1⟩ := trod_two Tryz.underlying30 h
  simp only [c0, c1] at g0 g1
  simp at g0 g1
  obtain ⟨z1, e1, _, w1⟩ := DataW.trod_int Tryz.underlying3 g1
  cases e1
  rcases DataW.trod_slice Tryz.underlying28 g0 with ⟨q, _⟩ | ⟨a, len, cap, elems, rest, n', hn', q, _, _, hlc, hcm, hel, hx, _⟩
  ·simp at q
   subst q
   exact ⟨⟨[], z1⟩, none, 0, 0, rfl, Nat.le_refl _, Nat.zero_le _, i64_bounds w1, rfl, fun h => absurd h (by decide)⟩
  ·simp at q
   subst q
   have each : ∀ i, i < len → ∃ p : Nd × Option Addr × Nat × Nat, W.cell? (a.add (i * 3)) = some (.int .i64 p.1.kind) ∧ W.cell? (a.add (i * 3 + 1)) = some (.string (mk p.1.text)) ∧ W.cell? (a.add (i * 3 + 2)) = some (.slice p.2.1 p.2.2.1 p.2.2.2) ∧ p.2.2.1 ≤ p.2.2.2 ∧ p.2.2.2 ≤ maxLen ∧ i64 p.1.kind ∧ p.1.text.length ≤ 9223372036854775807 ∧ IAt W p.2.1 p.2.2.1 p.1.kids := by
    intro i hi
    have hxi := hx i hi
    rw [hN, List.getElem?_eq_getElem (by omega)] at hxi
    obtain ⟨cs', h1, h2⟩ := Option.bind_eq_some_iff.1 hxi
    obtain ⟨nd, ad, l, c, e, q1, q2, q3, q4, q5⟩ := came_node h2
    obtain ⟨_, hlen, hcell⟩ := World.cells?_some h1
    subst e
    have k0 := hcell 0 (by simp)
    have k1 := hcell 1 (by simp)
    have k2 := hcell 2 (by simp)
    rw [Deep.add_add] at k0 k1 k2
    exact ⟨(nd, ad, l, c), by simpa using k0, by simpa using k1, by simpa using k2, q1, q2, q3, q4, q5⟩
   have inh : Inhabited (Nd × Option Addr × Nat × Nat) := ⟨(nd0, none, 0, 0)⟩
   obtain ⟨f, hf⟩ := Deep.choose_lt each
   refine ⟨⟨(List.range len).map fun i => (f i).1, z1⟩, some a, len, cap, rfl, hlc, hcm, i64_bounds w1, by simp, fun hp => ?_⟩
   obtain ⟨b, off, spot⟩ := a
   have hspot : spot = none := by simpa [Addr.add] using World.cell?_spot (hf 0 hp).1
   subst hspot
   refine ⟨b, off, rfl, World.block_lt_of_cell? W ⟨b, off + 0 * 3, none⟩ (by have := (hf 0 hp).1; rwa [add_at] at this), fun i hi => ?_⟩
   obtain ⟨k0, k1, k2, q1, q2, q3, q4, q5⟩ := hf i hi
   rw [add_at] at k0 k1 k2
   have e : ((List.range len).map fun i => (f i).1).getD i nd0 = (f i).1 := by rw [List.getD_eq_getElem?_getD, List.getElem?_map, List.getElem?_range hi]; rfl
   rw [e]
   exact ⟨(f i).2.1, (f i).2.2.1, (f i).2.2.2, q1, q2, q3, q4, q5, k0, k1, k2⟩
theorem came_graphv {r : Reach} {b0 : Nat} {v : Value} {d : DataW H} {p : List MemPlace} (hv : Value.okWide Tryz.prog W r b0 30 v) (h : DataW.Trod enc Tryz.prog W base (fun _ => true) held 30 v d p) :
  ∃ g, GrV W v g := by
 obtain ⟨cs, rfl, hsz⟩ := okWide_struct Tryz.underlying30 hv
 obtain ⟨fuel, hf⟩ := h
 obtain ⟨g, hg⟩ := came_graph hf
 exact ⟨g, by simpa [Value.cells] using hg⟩
end
end Go.Proofs.YtfohbiohleekbaaGreatDoor.Grp
end

section
/- . -/
namespace Go.Proofs.YtfohbiohleekbaaGreatDoor.Grp
open Utf Rws Pln Flw
open Go.ChangeShapes Go.WideShapes Go.ChangeAt Go.RowKit
set_option linter.unusedSimpArgs false
set_option linter.unusedVariables false
set_option maxRecDepth 100000
theorem came_nodev {H : Type} {enc : TypeId × Value → H} {W : World} {base : Nat} {held : Bool} {r : Reach} {b0 : Nat} {v : Value} {d : DataW H} {p : List MemPlace} (hv : Value.okWide Tryz.prog W r b0 50 v) (h : DataW.Trod enc Tryz.prog W base (fun _ => true) held 50 v d p) :
  ∃ n, NdV W v n := by
 obtain ⟨cs, rfl, hsz⟩ := okWide_struct Tryz.underlying50 hv
 obtain ⟨fuel, hf⟩ := h
 obtain ⟨n, ad, len, cap, e, h1, h2, h3, h4, h5⟩ := came_node hf
 refine ⟨n, ad, len, cap, ?_, h1, h2, h3, h4, h5⟩
 have e' : cs.toList = [Value.int .i64 n.kind, .string (mk n.text), .slice ad len cap] := by simpa [Value.cells] using e
 have : cs = #[Value.int .i64 n.kind, .string (mk n.text), .slice ad len cap] := by cases cs; simp_all
 rw [this]
end Go.Proofs.YtfohbiohleekbaaGreatDoor.Grp
end
