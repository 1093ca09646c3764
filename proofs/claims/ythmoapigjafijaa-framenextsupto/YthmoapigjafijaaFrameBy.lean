/- Bytes in memory: cut, and as a string. -/
import Derived.Test.YthmoapigjafijaaFramePutn
import Derived.Laws.BytesArg
import Derived.Laws.IdiomStrings
namespace Go.Proofs.Ythmoapigjafijaa.Frm
open Go.RowKit Crc
set_option linter.unusedSimpArgs false
set_option linter.unusedVariables false

def mk (l : List UInt8) : ByteArray := ⟨l.toArray⟩
theorem mk_data (l : List UInt8) : (mk l).data.toList = l := by simp [mk]
theorem mk_inj {a b : List UInt8} (h : mk a = mk b) : a = b := by rw [← mk_data a, h, mk_data]
/-- string(b) -/
theorem conv_bys {w : World} {a : Option Addr} {len cap : Nat} {l : List UInt8} (h : Bys w a len l) : (convert 22 9 (.slice a len cap)).run Try.prog w = .ok (.string (mk l)) w := by
  obtain ⟨rfl, h⟩ := h
  cases a with
  | none =>
    have h0 : l = [] := by
      by_cases hp : 0 < l.length
      · obtain ⟨b, off, ha, _⟩ := h hp; cases ha
      · exact List.eq_nil_of_length_eq_zero (by omega)
    subst h0
    exact run_convert_bytes_nil w 22 5 Try.underlying22 Try.underlying5 0 cap 9 Try.underlying9
  | some p =>
    refine run_convert_bytes_back w 22 9 5 p cap l Try.underlying22 Try.underlying5 Try.underlying9 fun j hj => ?_
    obtain ⟨b, off, ha, _, hc⟩ := h (by omega)
    cases ha
    rw [Addr.add_mid, hc j hj, nm_wd, List.getD_eq_getElem?_getD, List.getElem?_eq_getElem hj]
    rfl
theorem cut_get (l : List UInt8) (i j k : Nat) (h : i + k < j) (hj : j ≤ l.length) : (cut l i j).getD k 0 = l.getD (i + k) 0 := by
  unfold cut
  rw [List.getD_eq_getElem?_getD, List.getElem?_drop, List.getElem?_take, if_pos h, List.getD_eq_getElem?_getD]
/-- a part of bytes; at its very end it may lie anywhere -/
theorem bys_cut {w : World} {a : Option Addr} {len : Nat} {l : List UInt8} (h : Bys w a len l) (i j : Nat) (hij : i ≤ j) (hj : j ≤ len) (a' : Option Addr) (ha : i < j → ∀ b off, a = some ⟨b, off, none⟩ → a' = some ⟨b, off + i, none⟩) : Bys w a' (j - i) (Frm.cut l i j) := by
  have hl := h.1
  refine ⟨by rw [cut_len _ _ _ (by omega)], fun hp => ?_⟩
  obtain ⟨b, off, hab, hb, hc⟩ := h.2 (by omega)
  refine ⟨b, off + i, ha (by omega) b off hab, hb, fun k hk => ?_⟩
  rw [cut_get l i j k (by omega) (by omega), Nat.add_assoc]
  exact hc (i + k) (by omega)
theorem bys_take {w : World} {a : Option Addr} {len : Nat} {l : List UInt8} (h : Bys w a len l) (j : Nat) (hj : j ≤ len) : Bys w a j (l.take j) := by
  have hl := h.1
  refine ⟨by rw [List.length_take]; omega, fun hp => ?_⟩
  obtain ⟨b, off, hab, hb, hc⟩ := h.2 (by omega)
  refine ⟨b, off, hab, hb, fun k hk => ?_⟩
  rw [List.getD_eq_getElem?_getD, List.getElem?_take, if_pos hk, ← List.getD_eq_getElem?_getD]
  exact hc k (by omega)
theorem bys_drop {w : World} {a : Option Addr} {len : Nat} {l : List UInt8} (h : Bys w a len l) (i : Nat) (hj : i ≤ len) (a' : Option Addr) (ha : i < len → ∀ b off, a = some ⟨b, off, none⟩ → a' = some ⟨b, off + i, none⟩) : Bys w a' (len - i) (l.drop i) := by
  have hl := h.1
  have h1 := bys_cut h i len hj (Nat.le_refl _) a' ha
  rwa [Frm.cut, List.take_of_length_le (by omega)] at h1

end Go.Proofs.Ythmoapigjafijaa.Frm
