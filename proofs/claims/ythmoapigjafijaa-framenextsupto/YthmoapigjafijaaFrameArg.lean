/- Rows of rows of bytes that came in, with a bound on all of them together. -/
import Derived.Test.YthmoapigjafijaaRows
import Derived.Test.YthmoapigjafijaaCrcArg
namespace Go.Proofs.Ythmoapigjafijaa.Frm
open Go.ChangeShapes Go.WideShapes Go.ChangeAt Go.RowKit Crc
set_option linter.unusedSimpArgs false
set_option linter.unusedVariables false

theorem bulk_lits {H : Type} (k : IntKind) (zs : List Int) : Rows.uptoBulkAll (lits (H := H) k zs) = zs.length := by
  induction zs with
  | nil => simp [lits, Rows.uptoBulkAll]
  | cons z r ih =>
    have : lits (H := H) k (z :: r) = .lit (.int k z) :: lits k r := rfl
    rw [this, Rows.uptoBulkAll, ih, List.length_cons]
    simp [Rows.uptoBulk]
    omega
theorem bulk_map {H : Type} (l : List Nat) (f : Nat → DataW H) (g : Nat → Nat) (h : ∀ r ∈ l, g r + 1 ≤ Rows.uptoBulk (f r)) : l.length + (l.map g).sum ≤ Rows.uptoBulkAll (l.map f) := by
  induction l with
  | nil => simp [Rows.uptoBulkAll]
  | cons x r ih =>
    have h1 := h x List.mem_cons_self
    have h2 := ih (fun y hy => h y (List.mem_cons_of_mem _ hy))
    rw [List.map_cons, List.map_cons, List.sum_cons, List.length_cons, Rows.uptoBulkAll]
    omega
theorem came_partsU {H : Type} {enc : TypeId × Value → H} {W : World} {base : Nat} {held : Bool} {fuel : Nat} {a : Option Addr} {len cap : Nat} {x : DataW H × List MemPlace}
    (hf : DataW.trod enc Try.prog W base (fun _ => true) held fuel 48 [.slice a len cap] = some x) :
    ∃ ps, Parts W a len ps ∧ len ≤ cap ∧ cap ≤ maxLen ∧ ps.length + (ps.map List.length).sum ≤ Rows.uptoBulk x.1 := by
  rcases Deep.open_int_rows Try.underlying48 Try.underlying22 Try.underlying5 (by kernel_rfl) (by kernel_rfl) hf with ⟨hcs, _⟩ | ⟨x', l, c, A, L, C, Z, hcs, _, hl, hm, hx, hall⟩
  · simp at hcs
    obtain ⟨rfl, rfl, rfl⟩ := hcs
    exact ⟨[], ⟨rfl, fun h => absurd h (by decide)⟩, Nat.le_refl _, Nat.zero_le _, Nat.zero_le _⟩
  · simp at hcs
    obtain ⟨rfl, rfl, rfl⟩ := hcs
    refine ⟨(List.range len).map fun r => toBys ((Z r).take (L r)), ⟨by simp, fun hp => ?_⟩, hl, hm, ?_⟩
    · obtain ⟨b, off, spot⟩ := x'
      have hc0 := (hall 0 (by omega)).1
      have hspot : spot = none := by simpa [Addr.add] using World.cell?_spot hc0
      subst hspot
      refine ⟨b, off, rfl, World.block_lt_of_cell? W _ hc0, fun i hi => ?_⟩
      obtain ⟨h1, h2, h3, h4, h5, h6, h7⟩ := hall i (by omega)
      rw [Addr.add_mid] at h1
      refine ⟨A i, L i, C i, h1, ?_, Nat.le_trans h2 h3⟩
      have e : ((List.range len).map fun r => toBys ((Z r).take (L r))).getD i [] = toBys ((Z i).take (L i)) := by
        rw [List.getD_eq_getElem?_getD, List.getElem?_map, List.getElem?_range hi]; rfl
      rw [e]
      cases ha : A i with
      | none =>
        have hz := h6 ha
        have hL : L i = 0 := by omega
        rw [hL]
        exact ⟨rfl, fun h => absurd h (by decide)⟩
      | some a' => exact bys_came (by omega) (fun c hc => (h7 a' ha).2 c (by omega)) h5
    · subst hx
      have e : (((List.range len).map fun r => toBys ((Z r).take (L r))).map List.length) = (List.range len).map L := by
        rw [List.map_map]
        refine List.map_congr_left fun r hr => ?_
        obtain ⟨_, h2, _, h4, _⟩ := hall r (by have := List.mem_range.1 hr; omega)
        show (toBys ((Z r).take (L r))).length = L r
        rw [toBys, List.length_map, List.length_take]
        omega
      rw [e, List.length_map]
      have hb := bulk_map (List.range len) (fun r => Deep.intRow (H := H) .u8 (A r) (L r) (Z r)) L (fun r hr => by
        obtain ⟨_, h2, _, h4, _, h6, _⟩ := hall r (by have := List.mem_range.1 hr; omega)
        unfold Deep.intRow
        cases ha : A r with
        | none =>
          have := h6 ha
          simp [Rows.uptoBulk]
          omega
        | some a' =>
          simp only [Rows.uptoBulk, bulk_lits, List.length_take, List.length_drop]
          omega)
      simp only [Rows.uptoBulk]
      omega

end Go.Proofs.Ythmoapigjafijaa.Frm
