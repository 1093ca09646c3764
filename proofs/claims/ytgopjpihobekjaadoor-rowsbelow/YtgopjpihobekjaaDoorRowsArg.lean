/- A slice of rows that came in, opened: what lies in memory, and what it reads as. -/
import Derived.Test.YtgopjpihobekjaaDoorRowsSame
import Derived.Deep.SlicePairs
import Derived.Deep.Strs
namespace Go.Proofs.YtgopjpihobekjaaDoor.Rws
open Go.ChangeShapes Go.WideShapes
set_option linter.unusedSimpArgs false
set_option linter.unusedVariables false
set_option maxRecDepth 100000

/-- a row as it reads -/
def dat {H : Type} (r : R3) : DataW H := .agg [.lit (.int .i64 r.1), .lit (.string r.2.1.data.toList), .lit (.int .i64 r.2.2)]

theorem add_plain (b off i : Nat) : (⟨b, off, none⟩ : Addr).add i = ⟨b, off + i, none⟩ := by unfold Addr.add; split <;> simp_all
theorem spot_of_cell {W : World} {b off : Nat} {s : Option Nat} {v : Value} (h : W.cell? ((⟨b, off, s⟩ : Addr).add (0 * 3)) = some v) : s = none := by
  simpa [Addr.add] using World.cell?_spot h

theorem open_rows {H : Type} {enc : TypeId × Value → H} {W : World} {fuel : Nat} {cs : List Value} {x : DataW H × List MemPlace} (h : DataW.trod enc Tryd.prog W 0 (fun _ => true) true fuel 22 cs = some x) :
    (cs = [.slice none 0 0] ∧ x = (.nil, [])) ∨
    ∃ (a : Addr) (len cap : Nat) (rs : List R3) (sp : List (DataW H)), cs = [.slice (some a) len cap] ∧ len ≤ cap ∧ cap ≤ maxLen ∧ RowsAt W (some a) len rs ∧ x.1 = .slice (rs.map dat) sp := by
  have ce : Tryd.prog.cellsOf 31 = 3 := by kernel_rfl
  have ci : Tryd.prog.cellsOf 3 = 1 := by kernel_rfl
  have cst : Tryd.prog.cellsOf 9 = 1 := by kernel_rfl
  rcases Deep.open_slice Tryd.underlying22 h with h0 | ⟨a, len, cap, m, n, D, Pl, rfl, hb, hl, hm, hmm, rfl, hx⟩
  · exact .inl h0
  right
  have hlm : len ≤ m := by rw [hmm]; split <;> omega
  have each : ∀ i, i < m → ∃ q : R3, W.cell? (a.add (i * 3)) = some (.int .i64 q.1) ∧ W.cell? (a.add (i * 3 + 1)) = some (.string q.2.1) ∧ W.cell? (a.add (i * 3 + 2)) = some (.int .i64 q.2.2) ∧ D i = dat q := by
    intro i hi
    obtain ⟨cs', h1, h2⟩ := hx i hi
    rw [ce] at h1
    obtain ⟨_, hlen, hcell⟩ := World.cells?_some h1
    obtain ⟨y0, y1, y2, k, hxy, _, g0, g1, g2⟩ := Deep.trod_struct3 Tryd.underlying31 h2
    simp only [ci, cst] at g0 g1 g2
    match cs', hlen with
    | [v0, v1, v2], _ =>
      simp at g0 g1 g2
      obtain ⟨z0, e0, d0, _⟩ := DataW.trod_int Tryd.underlying3 g0
      obtain ⟨z1, e1, d1, _⟩ := DataW.trod_string Tryd.underlying9 g1
      obtain ⟨z2, e2, d2, _⟩ := DataW.trod_int Tryd.underlying3 g2
      cases e0
      cases e1
      cases e2
      have c0 := hcell 0 (by omega)
      have c1 := hcell 1 (by omega)
      have c2 := hcell 2 (by omega)
      rw [Deep.add_add] at c0 c1 c2
      simp only [Prod.mk.injEq] at hxy
      refine ⟨(z0, z1, z2), by simpa using c0, by simpa using c1, by simpa using c2, ?_⟩
      rw [hxy.1, d0, d1, d2]
      rfl
  have inh : Inhabited R3 := ⟨z3⟩
  obtain ⟨q, hq⟩ := Deep.choose_lt each
  refine ⟨a, len, cap, (List.range len).map q, (List.range (m - len)).map fun j => D (len + j), rfl, hl, hm, ⟨by simp, fun hp => ?_⟩, ?_⟩
  · obtain ⟨b, off, spot⟩ := a
    have hs : spot = none := spot_of_cell (hq 0 (by omega)).1
    subst hs
    refine ⟨b, off, rfl, World.block_lt_of_cell? W ⟨b, off + 0 * 3, none⟩ (by have := (hq 0 (by omega)).1; rwa [add_plain] at this), fun i hi => ?_⟩
    obtain ⟨c0, c1, c2, _⟩ := hq i (by omega)
    rw [add_plain] at c0 c1 c2
    have e : ((List.range len).map q).getD i z3 = q i := by
      rw [List.getD_eq_getElem?_getD, List.getElem?_map, List.getElem?_range hi]; rfl
    rw [e]
    exact ⟨c0, c1, c2⟩
  · show DataW.slice _ _ = _
    rw [List.map_map]
    congr 1
    exact List.map_congr_left (fun i hi => (hq i (by have := List.mem_range.1 hi; omega)).2.2.2)

def tot (rs : List R3) : Nat := (rs.map fun r => r.2.1.size).sum
theorem bulk_rows {H : Type} (rs : List R3) : Rows.uptoBulkAll (rs.map (dat (H := H))) = rs.length * 4 + tot rs := by
  induction rs with
  | nil => rfl
  | cons r rs ih =>
    rw [List.map_cons, Rows.uptoBulkAll, ih]
    have e : Rows.uptoBulk (dat (H := H) r) = r.2.1.size + 4 := by
      unfold dat
      simp only [Rows.uptoBulk, Rows.uptoBulkAll]
      have : r.2.1.data.toList.length = r.2.1.size := by rw [Array.length_toList]; rfl
      omega
    rw [e]
    unfold tot
    simp
    omega

end Go.Proofs.YtgopjpihobekjaaDoor.Rws
