/- Arguments that came in: bytes, words, rows of bytes, rows of rows. -/
import Derived.Test.YtkihoimlelbolaaCrcSum
import Derived.ProofKit
import Derived.OpenShut
import Derived.Deep.Matrix
namespace Go.Proofs.Ytkihoimlelbolaa.Crc
open Go.ChangeShapes Go.WideShapes Go.ChangeAt Go.RowKit
set_option linter.unusedSimpArgs false
set_option linter.unusedVariables false

theorem byte_of {n : Int} (h : (Lit.int .u8 n).wf = true) : n = nm (wd (UInt8.ofNat n.toNat)) := by
  have hb := bounds_u8 h
  rw [nm_wd, UInt8.toNat_ofNat']
  omega
theorem word_of {n : Int} (h : (Lit.int .u32 n).wf = true) : n = nm (BitVec.ofInt 32 n) := by
  have hb := bounds_u32 h
  rw [nm_eq, BitVec.toNat_ofInt]
  omega
def toBys (zs : List Int) : List UInt8 := zs.map fun n => UInt8.ofNat n.toNat
theorem bys_came {w : World} {a : Addr} {len : Nat} {zs : List Int} (hl : len ≤ zs.length) (hc : ∀ i, i < len → w.cell? (a.add i) = some (.int .u8 (zs.getD i 0))) (hw : ∀ n ∈ zs, (Lit.int .u8 n).wf = true) :
    Bys w (some a) len (toBys (zs.take len)) := by
  refine ⟨by rw [toBys, List.length_map, List.length_take]; omega, fun hp => ?_⟩
  obtain ⟨b, off, spot⟩ := a
  have hc0 := hc 0 hp
  have hspot : spot = none := by simpa [Addr.add] using World.cell?_spot hc0
  subst hspot
  refine ⟨b, off, rfl, World.block_lt_of_cell? w _ hc0, fun i hi => ?_⟩
  have h := hc i hi
  rw [Addr.add_mid] at h
  have hz : zs[i]? = some zs[i] := List.getElem?_eq_getElem (by omega)
  have hb := byte_of (hw zs[i] (List.getElem_mem _))
  have e1 : zs.getD i 0 = zs[i] := by rw [List.getD_eq_getElem?_getD, hz]; rfl
  have e2 : (toBys (zs.take len)).getD i 0 = UInt8.ofNat zs[i].toNat := by
    rw [toBys, List.getD_eq_getElem?_getD, List.getElem?_map, List.getElem?_take, if_pos hi, hz]; rfl
  rw [h, e1, e2, ← hb]
theorem came_bytes {H : Type} {enc : TypeId × Value → H} {W : World} {base : Nat} {held : Bool} {fuel : Nat} {a : Option Addr} {len cap : Nat} {x : DataW H × List MemPlace}
    (hf : DataW.trod enc Try.prog W base (fun _ => true) held fuel 28 [.slice a len cap] = some x) :
    ∃ l, Bys W a len l ∧ len ≤ cap ∧ cap ≤ maxLen ∧ ((a = none ∧ len = 0) ∨ ∃ zs : List Int, zs.length = cap ∧ x.1 = .slice (lits .u8 (zs.take len)) (lits .u8 (zs.drop len))) := by
  rcases open_ints Try.underlying28 Try.underlying5 (by kernel_rfl) hf with ⟨hcs, _⟩ | ⟨x', l, c, zs, hcs, _, hl, hm, hz, hx, hcell, hwz⟩
  · simp at hcs
    obtain ⟨rfl, rfl, rfl⟩ := hcs
    exact ⟨[], ⟨rfl, fun h => absurd h (by decide)⟩, Nat.le_refl _, Nat.zero_le _, .inl ⟨rfl, rfl⟩⟩
  · simp at hcs
    obtain ⟨rfl, rfl, rfl⟩ := hcs
    simp only [if_true] at hz
    subst hx
    exact ⟨_, bys_came (by omega) (fun i hi => hcell i (by omega)) hwz, hl, hm, .inr ⟨zs, hz, rfl⟩⟩
theorem came_parts {H : Type} {enc : TypeId × Value → H} {W : World} {base : Nat} {held : Bool} {fuel : Nat} {a : Option Addr} {len cap : Nat} {x : DataW H × List MemPlace}
    (hf : DataW.trod enc Try.prog W base (fun _ => true) held fuel 22 [.slice a len cap] = some x) :
    ∃ ps, Parts W a len ps ∧ len ≤ maxLen := by
  rcases Deep.open_int_rows Try.underlying22 Try.underlying28 Try.underlying5 (by kernel_rfl) (by kernel_rfl) hf with ⟨hcs, _⟩ | ⟨x', l, c, A, L, C, Z, hcs, _, hl, hm, hx, hall⟩
  · simp at hcs
    obtain ⟨rfl, rfl, rfl⟩ := hcs
    exact ⟨[], ⟨rfl, fun h => absurd h (by decide)⟩, Nat.zero_le _⟩
  · simp at hcs
    obtain ⟨rfl, rfl, rfl⟩ := hcs
    refine ⟨(List.range len).map fun r => toBys ((Z r).take (L r)), ⟨by simp, fun hp => ?_⟩, by omega⟩
    obtain ⟨b, off, spot⟩ := x'
    have hc0 := (hall 0 (by omega)).1
    have hspot : spot = none := by simpa [Addr.add] using World.cell?_spot hc0
    subst hspot
    refine ⟨b, off, rfl, World.block_lt_of_cell? W _ hc0, fun i hi => ?_⟩
    obtain ⟨h1, h2, h3, h4, h5, h6, h7⟩ := hall i (by omega)
    rw [Addr.add_mid] at h1
    refine ⟨A i, L i, C i, h1, ?_, Nat.le_trans h2 h3⟩
    have e : ((List.range len).map fun r => toBys ((Z r).take (L r))).getD i [] = toBys ((Z i).take (L i)) := by
      rw [List.getD_eq_getElem?_getD, List.getElem?_map, List.getElem?_range hi]; rfl
    rw [e]
    cases ha : A i with
    | none =>
      have hz := h6 ha
      have hL : L i = 0 := by omega
      rw [hL]
      exact ⟨rfl, fun h => absurd h (by decide)⟩
    | some a' => exact bys_came (by omega) (fun c hc => (h7 a' ha).2 c (by omega)) h5

end Go.Proofs.Ytkihoimlelbolaa.Crc
