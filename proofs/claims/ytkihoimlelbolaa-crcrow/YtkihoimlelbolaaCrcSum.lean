/- crc.Sum. -/
import Derived.Test.YtkihoimlelbolaaCrcAdd
namespace Go.Proofs.Ytkihoimlelbolaa.Crc
open Go.RowKit
set_option linter.unusedSimpArgs false
set_option linter.unusedVariables false

/-- the turns, laid into a variable of their own -/
theorem turns_laid (w : World) (C : Array Value) (hC : C.size = 16) : (w.alloc (.cells C 37)).there w.heap.size 0 trL.toArray.size ∧ ((w.alloc (.cells C 37)).setCells w.heap.size 0 trL.toArray.toList).rangeAt w.heap.size 0 trL ∧ Below w.heap.size w ((w.alloc (.cells C 37)).setCells w.heap.size 0 trL.toArray.toList) := by
  have ht : (w.alloc (.cells C 37)).there w.heap.size 0 trL.toArray.size := by
    have h1 := there_new w C 37
    rw [hC] at h1
    simpa [trL_len] using h1
  exact ⟨ht, World.rangeAt_setCells_same _ _ _ trL (by simpa using ht), below_setCells (Nat.le_refl _) _ _ _ _ ((Below.refl _ w).alloc (Nat.le_refl _) _)⟩

/-- a slice of slices of bytes that holds the rows ps -/
def Parts (w : World) (a : Option Addr) (len : Nat) (ps : List (List UInt8)) : Prop :=
  len = ps.length ∧ (0 < len → ∃ b off, a = some ⟨b, off, none⟩ ∧ b < w.heap.size ∧ ∀ i, i < len → ∃ pa pl pc, w.cell? ⟨b, off + i, none⟩ = some (.slice pa pl pc) ∧ Bys w pa pl (ps.getD i []) ∧ pl ≤ maxLen)
theorem Parts.later {w w' : World} {a : Option Addr} {len : Nat} {ps : List (List UInt8)} (h : Parts w a len ps) {B : Nat} (hb : Below B w w') (hB : w.heap.size ≤ B) : Parts w' a len ps := by
  refine ⟨h.1, fun hp => ?_⟩
  obtain ⟨b, off, ha, hlt, hc⟩ := h.2 hp
  refine ⟨b, off, ha, Nat.lt_of_lt_of_le hlt hb.size, fun i hi => ?_⟩
  obtain ⟨pa, pl, pc, h1, h2, h3⟩ := hc i hi
  exact ⟨pa, pl, pc, by rw [hb.cell (p := ⟨b, off + i, none⟩) (Nat.lt_of_lt_of_le hlt hB)]; exact h1, h2.later hb hB, h3⟩
/-- the sum of parts -/
def sums (ps : List (List UInt8)) : W32 := ps.foldl add 0
theorem sums_snoc (ps : List (List UInt8)) (k : Nat) (h : k < ps.length) : sums (ps.take (k + 1)) = add (sums (ps.take k)) (ps.getD k []) := by
  rw [List.take_succ_eq_append_getElem h, sums, List.foldl_append]
  simp only [List.foldl]
  rw [List.getD_eq_getElem?_getD, List.getElem?_eq_getElem h]
  rfl

theorem sum_any (a : Option Addr) (len cap : Nat) (ps : List (List UInt8)) (w : World) (hl : Parts w a len ps) (hm : len ≤ maxLen) :
    Calls Try.prog 9 #[.slice a len cap] w fun e w' => e = .returned (.int .u32 (nm (sums ps))) ∧ Below w.heap.size w w' := by
  have HZ : Hid (Parts w a len ps) := hl
  have HL : Hid (len = ps.length) := hl.1
  unfold maxLen at hm
  clear hl
  go_enter Try.func9, Try.ntmps9
  go_wp2_with fail
  refine (newTurns_any _).mono ?_
  rintro e w1 ⟨rfl, hbe⟩
  dsimp only
  go_step
  go_step
  go_step
  go_step
  obtain ⟨ht, hr, hb2⟩ := turns_laid w1 #[.int .u32 0, .int .u32 0, .int .u32 0, .int .u32 0, .int .u32 0, .int .u32 0, .int .u32 0, .int .u32 0, .int .u32 0, .int .u32 0, .int .u32 0, .int .u32 0, .int .u32 0, .int .u32 0, .int .u32 0, .int .u32 0] rfl
  refine wpList_store_mid rfl 37 (.tmp 3) (.tmp 7) rfl w1.heap.size 0 trL.toArray rfl rfl ht (by rw [List.size_toArray, trL_len]; exact info37) trL_one ?_
  generalize ((w1.alloc _).setCells w1.heap.size 0 trL.toArray.toList) = W2 at *
  have hbel := hbe.trans (hb2.mono hbe.size)
  have HZ2 : Hid (Parts W2 a len ps) := HZ.out.later hbel (Nat.le_refl _)
  have HR : Hid (W2.rangeAt w1.heap.size 0 trL) := hr
  clear ht hr hb2 hbe
  generalize w1.heap.size = b1 at *
  go_wp2
  go_loop [4, 10] (fun x i => ∃ (k : Nat) (st : W32), k ≤ len ∧ i = .int .i64 k ∧ x = .int .u32 (nm st) ∧ st = sums (ps.take k)) (fun _ i => len - (intOf i).toNat)
  case atStart => exact ⟨0, 0, Nat.zero_le _, rfl, int_u nm_zero.symm, rfl⟩
  case round =>
    obtain ⟨k, st, hk, rfl, rfl, hst⟩ := hrel
    have HST : Hid (st = sums (ps.take k)) := hst
    clear hst
    have hx0 := nm_lo st
    have hx1 := nm_hi st
    by_cases hlt : k < len
    · obtain ⟨b, off, rfl, hb, hc⟩ := HZ2.out.2 (by omega)
      obtain ⟨pa, pl, pc, hck, hB, hM⟩ := hc k hlt
      have HB : Hid (Bys W2 pa pl (ps.getD k [])) := hB
      have HM : Hid (pl ≤ maxLen) := hM
      have HNX : Hid (_ = _) := sums_snoc ps k (by rw [← HL.out]; exact hlt)
      clear hc hB hM
      go_wp2_with (go_at_call 17; refine (tadd_any _ _ _ _ _ _ _ HR.out HB.out HM.out).mono ?_; rintro e w' ⟨rfl, rfl⟩)
      go_round
      case rel => exact ⟨k + 1, add st (ps.getD k []), by omega, by go_num, rfl, by rw [HNX.out, ← HST.out]⟩
      case measure => simp [intOf]; omega
    · have HF : Hid (ps.take k = ps) := by
        show ps.take k = ps
        exact List.take_of_length_le (by have := HL.out; omega)
      go_wp2
      go_ret
      exact ⟨ret_u (by rw [HST.out, HF.out]), hbel⟩

end Go.Proofs.Ytkihoimlelbolaa.Crc
