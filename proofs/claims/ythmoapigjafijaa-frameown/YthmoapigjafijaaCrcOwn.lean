/- Bytes as cells; a byte turned. -/
import Derived.Test.YthmoapigjafijaaCrcParts
import Derived.OwnWalk
namespace Go.Proofs.Ythmoapigjafijaa.Crc
open Go.RowKit
set_option linter.unusedSimpArgs false
set_option linter.unusedVariables false

theorem infoByte : (Try.prog.info? 5).map (fun i => (i.zero, i.size, i.bytes)) = some (some (.int .u8 0), 1, 1) := by kernel_rfl
theorem info_parts {t : TypeId} {z : Value} {n b : Nat} (h : (Try.prog.info? t).map (fun i => (i.zero, i.size, i.bytes)) = some (some z, n, b)) : ∃ i, Try.prog.info? t = some i ∧ i.zero = some z ∧ i.size = n ∧ i.bytes = b := by
  cases hq : Try.prog.info? t with
  | none => simp [hq] at h
  | some i => simp [hq] at h; exact ⟨i, rfl, h.1, h.2.1, h.2.2⟩
/-- bytes as cells -/
def byC (l : List UInt8) : List Value := l.map fun x => Value.int .u8 (nm (wd x))
theorem byC_len (l : List UInt8) : (byC l).length = l.length := by simp [byC]
theorem byC_at (l : List UInt8) (i : Nat) (h : i < l.length) : (byC l)[i]? = some (.int .u8 (nm (wd (l.getD i 0)))) := by
  simp [byC, List.getElem?_eq_getElem h]
theorem byC_one (l : List UInt8) : ∀ u ∈ byC l, u.oneCell' = true := by
  intro u hu
  simp only [byC, List.mem_map] at hu
  obtain ⟨x, _, rfl⟩ := hu
  rfl
theorem turn_place (n : Int) (len : Nat) (hl : len ≤ 140737488351232) (h0 : 0 < len) : ∃ p : Nat, p < len ∧ (wrap64 (n.tmod (len : Int) + (len : Int))).tmod (len : Int) = (p : Int) := by
  have h1 := Int.tmod_lt_of_pos n (show 0 < (len : Int) by omega)
  have h2 : -(len : Int) < n.tmod (len : Int) := by
    have := Int.lt_tmod_of_pos n (show 0 < (len : Int) by omega)
    omega
  generalize n.tmod (len : Int) = m at *
  have e1 : wrap64 (m + (len : Int)) = m + len := by unfold wrap64; omega
  rw [e1]
  have h3 := Int.tmod_lt_of_pos (m + len) (show 0 < (len : Int) by omega)
  have h4 := Int.tmod_nonneg (a := m + len) (len : Int) (by omega)
  exact ⟨((m + len).tmod (len : Int)).toNat, by omega, by omega⟩
theorem xor_byte (x d : UInt8) : bits .xor .u8 (nm (wd x)) (nm (wd d)) = nm (wd (x ^^^ d)) := by
  rw [nm_wd, nm_wd, nm_wd, u8_xor_nat _ _ x.toNat_lt d.toNat_lt, UInt8.toNat_xor]
theorem xor_ne (x d : UInt8) (h : d ≠ 0) : x ≠ x ^^^ d := by
  intro e
  apply h
  have := congrArg (fun y => x ^^^ y) e
  simpa [← UInt8.xor_assoc] using this.symm

end Go.Proofs.Ythmoapigjafijaa.Crc
