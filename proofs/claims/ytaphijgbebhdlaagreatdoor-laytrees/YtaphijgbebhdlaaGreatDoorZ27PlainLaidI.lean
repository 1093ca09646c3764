/- Several texts as one: PlainLaidI, IsoLaid. -/
import Derived.Test.YtaphijgbebhdlaaGreatDoorZ06PlainEndY
import Derived.Lib.LaidTab
import Derived.MakeChecks
import Derived.LaidLaws
import Derived.Test.YtaphijgbebhdlaaGreatDoorZFlowCore
section
/- What the rows list of package variables, as the contracts of the library ask it. -/
namespace Go.Proofs.YtaphijgbebhdlaaGreatDoor.Pln
open Utf Rws
open Go.RowKit
set_option linter.unusedSimpArgs false
set_option linter.unusedVariables false
set_option maxRecDepth 100000

theorem iface_of_trod {H : Type} {enc : TypeId × Value → H} {P : Program} {w : World} {base : Nat} {sp : Nat → Bool} {held : Bool} {fuel : Nat} {t : TypeId} {ms : Array (String × TypeId)} {cs : List Value} {nm : String} {d : DataW H} {p : List MemPlace}
    (hi : P.underlying t = some (.interface ms)) (h : DataW.trod enc P w base sp held fuel t cs = some (.iface nm d, p)) : ∃ u v, cs = [.iface u v] := by
  cases fuel with
  | zero => simp [DataW.trod] at h
  | succ fuel =>
    simp only [DataW.trod, hi] at h
    split at h
    all_goals first
      | (exact ⟨_, _, rfl⟩)
      | (exfalso; simp at h; done)
      | (exfalso; rename_i heq _; cases heq; done)
      | (exfalso; rename_i heq; cases heq; done)
      | (exfalso; simp_all; done)

theorem laid_iface {P : Program} {n nm : String} {d : DataW Unit} {r : List (String × DataW Unit)} {W : World} {g : Nat} {ti : TypeId} {ms : Array (String × TypeId)}
    (h : ∃ q, DataW.LaidVars P W ((n, .iface nm d) :: r) q) (hg : P.globalNamed n = some g) (ht : (P.globals[g]?).map (·.type) = some ti) (hi : P.underlying ti = some (.interface ms)) :
    ∃ u v, W.cell? ⟨g, 0, none⟩ = some (.iface u v) := by
  obtain ⟨q, g0, t0, cs0, f0, p0, q0, hg0, ht0, hv0, hd0, _, _⟩ := h
  obtain rfl := Option.some.inj (hg.symm.trans hg0)
  obtain rfl := Option.some.inj (ht.symm.trans ht0)
  obtain ⟨u, v, e⟩ := iface_of_trod hi hd0
  refine ⟨u, v, ?_⟩
  rw [World.var?_cell hg0 hv0 0, ← Array.getElem?_toList, e]
  rfl
theorem laid_tail {P : Program} {x : String × DataW Unit} {r : List (String × DataW Unit)} {W : World} (h : ∃ q, DataW.LaidVars P W (x :: r) q) : ∃ q, DataW.LaidVars P W r q := by
  obtain ⟨q, g0, t0, cs0, f0, p0, q0, _, _, _, _, h, _⟩ := h
  exact ⟨q0, h⟩
theorem laid_tab {P : Program} {W : World} {name : String} {k : IntKind} {zs : List Int} {rest : List (String × DataW Unit)} {g : Nat} {t e : TypeId} {n : Nat}
    (h : ∃ q, DataW.LaidVars P W ((name, Lib.tabData k zs) :: rest) q)
    (hg : P.globalNamed name = some g) (hty : (P.globals[g]?).map (·.type) = some t) (ht : P.underlying t = some (.array n e)) (he : P.underlying e = some (.int k)) (hce : P.cellsOf e = 1) (hct : P.cellsOf t = n) : Lib.TabIs P W name k zs := by
  obtain ⟨q, g', t', cs, fuel, p, q', hg', ht', hvar, hd, _, _⟩ := h
  obtain rfl := Option.some.inj (hg.symm.trans hg')
  obtain rfl := Option.some.inj (hty.symm.trans ht')
  unfold Lib.TabIs
  rw [hvar, ← Lib.cells_of_tab ht he hce hct hd]

theorem tabs_of {W : World} (h : laidMetH Tryz.prog Rows.layTreesRow.laid W) : Tabs W := by
  rw [MakeChecks.laidMetH_plain _ _ _ (by kernel_rfl)] at h
  obtain ⟨ps, h, _⟩ := h
  have h0 : ∃ q, DataW.LaidVars Tryz.prog W Rows.layTreesRow.laid q := ⟨ps, h⟩
  have h2 := laid_tail (laid_tail h0)
  have h4 := laid_tail h2
  have h5 := laid_tail h4
  refine ⟨?_, ?_, ?_⟩
  · exact laid_tab (n := 20) (t := 179) (e := 163) (g := 2) (zs := Lib.pow10Tab) h2 (by kernel_rfl) (by kernel_rfl) (by kernel_rfl) (by kernel_rfl) (by kernel_rfl) (by kernel_rfl)
  · exact laid_iface (g := 3) h5 (by kernel_rfl) (by kernel_rfl) Tryz.underlying102
  · exact laid_iface (g := 4) h4 (by kernel_rfl) (by kernel_rfl) Tryz.underlying102

end Go.Proofs.YtaphijgbebhdlaaGreatDoor.Pln
end

section
/- What the rows list of package variables: the tables of layer 6, as the contracts ask them. -/
namespace Go.Proofs.YtaphijgbebhdlaaGreatDoor.Alk
open Utf Rws Pln Flw
open Go.RowKit
theorem tb_met {W : World} (h : laidMetH Tryz.prog Rows.layTreesRow.laid W) : Tb W := ⟨Pln.tabs_of h, trivial⟩
end Go.Proofs.YtaphijgbebhdlaaGreatDoor.Alk
end
