/- A graph in its box; a Canon is no larger. -/
import Derived.Test.YtahmnpfmccipbaaGreatDoorGgG
import Derived.Test.YtahmnpfmccipbaaGreatDoorGgL
namespace Go.Proofs.YtahmnpfmccipbaaGreatDoor.Grp
open Utf Rws Pln Flw
open Go.RowKit
set_option linter.unusedSimpArgs false
set_option linter.unusedVariables false
set_option maxRecDepth 100000
set_option maxHeartbeats 4000000

/-- a Canon is no larger -/
theorem sml_can {ns : List Nd} {r : Int} (h : rgG ⟨ns, r⟩ = true) {m : Nat} (hm : m < ns.length) (hS : Sml ns) : Sml (cnN ns (odG ns m)) := by
  obtain ⟨f1, f2, f3⟩ := rgG_facts h
  obtain ⟨h1, h2⟩ := hS f1
  have hnd := odG_nd ns m
  have hlt := odG_lt f3 hm
  refine fun _ => ⟨fun n hn => ?_, ?_⟩
  · obtain ⟨a, ha, rfl⟩ := List.mem_map.1 hn
    exact h1 (ns.getD a nd0) (mem_getD (hlt a ha))
  · have e1 : sumK (cnN ns (odG ns m)) = ((odG ns m).map fun a => (ns.getD a nd0).kids.length).sum := by
      unfold sumK cnN
      rw [List.map_map]
      congr 1
      exact List.map_congr_left fun a _ => by simp
    have e2 := sum_le (fun a => (ns.getD a nd0).kids.length) hnd hlt
    have e3 := map_range ns (fun n => n.kids.length)
    have e4 : sumK ns = (ns.map (fun n => n.kids.length)).sum := rfl
    omega
/-- a graph in its box -/
structure AgS (w W : World) (K : Nat) (ad : Option Addr) (len cap : Nat) (r : Int) (ns : List Nd) : Prop where
  b : Bx W K #[.slice ad len cap, .int .i64 r] 30
  bl : Below w.heap.size w W
  g : GrV W (gv ad len cap r) ⟨ns, r⟩
theorem AgS.later {w W W' : World} {K : Nat} {ad : Option Addr} {len cap : Nat} {r : Int} {ns : List Nd} (h : AgS w W K ad len cap r ns) (hb : Below W.heap.size W W') : AgS w W' K ad len cap r ns := ⟨h.b.later hb, h.bl.trans (hb.mono h.bl.size), h.g.later hb (Nat.le_refl _)⟩
theorem AgS.new {w W : World} {ad : Option Addr} {len cap : Nat} {r : Int} {ns : List Nd} (hb : Below w.heap.size w W) (h : GrV W (gv ad len cap r) ⟨ns, r⟩) : AgS w (W.alloc (.cells #[.slice ad len cap, .int .i64 r] 30)) W.heap.size ad len cap r ns := by
  have b1 := below_alloc W (.cells #[.slice ad len cap, .int .i64 r] 30)
  exact ⟨Bx.new _ _ _, hb.trans (b1.mono hb.size), h.later b1 (Nat.le_refl _)⟩
end Go.Proofs.YtahmnpfmccipbaaGreatDoor.Grp
