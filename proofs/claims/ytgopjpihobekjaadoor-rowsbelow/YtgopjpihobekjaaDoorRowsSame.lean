/- A row of rows in memory; grommetref02.Same, by its contract. -/
import Derived.Test.YtgopjpihobekjaaDoorRowsRow
import Derived.BigQuiet
import Derived.Deep.QuietTactic
namespace Go.Proofs.YtgopjpihobekjaaDoor.Rws
open Utf
open Go.RowKit
set_option linter.unusedSimpArgs false
set_option linter.unusedVariables false
set_option maxRecDepth 100000

abbrev R3 := Int × ByteArray × Int
def z3 : R3 := (0, ByteArray.empty, 0)
/-- a slice of rows in memory -/
def RowsAt (w : World) (a : Option Addr) (len : Nat) (rs : List R3) : Prop :=
  len = rs.length ∧ (0 < len → ∃ b off, a = some ⟨b, off, none⟩ ∧ b < w.heap.size ∧ ∀ i, i < len →
    w.cell? ⟨b, off + i * 3, none⟩ = some (.int .i64 (rs.getD i z3).1) ∧ w.cell? ⟨b, off + i * 3 + 1, none⟩ = some (.string (rs.getD i z3).2.1) ∧ w.cell? ⟨b, off + i * 3 + 2, none⟩ = some (.int .i64 (rs.getD i z3).2.2))
theorem RowsAt.later {w w' : World} {a : Option Addr} {len : Nat} {rs : List R3} (h : RowsAt w a len rs) {B : Nat} (hb : Below B w w') (hB : w.heap.size ≤ B) : RowsAt w' a len rs := by
  refine ⟨h.1, fun hp => ?_⟩
  obtain ⟨b, off, ha, hlt, hc⟩ := h.2 hp
  have hbB : b < B := Nat.lt_of_lt_of_le hlt hB
  refine ⟨b, off, ha, Nat.lt_of_lt_of_le hlt hb.size, fun i hi => ?_⟩
  obtain ⟨c0, c1, c2⟩ := hc i hi
  exact ⟨(hb.cell (p := ⟨b, off + i * 3, none⟩) hbB).trans c0, (hb.cell (p := ⟨b, off + i * 3 + 1, none⟩) hbB).trans c1, (hb.cell (p := ⟨b, off + i * 3 + 2, none⟩) hbB).trans c2⟩

def eq3 (x y : R3) : Bool := decide (x = y)
theorem eq3_of (x1 y1 x3 y3 : Int) (x2 y2 : ByteArray) : eq3 (x1, x2, x3) (y1, y2, y3) = (x1 == y1 && (x2.toList == y2.toList) && x3 == y3) := by
  unfold eq3
  rw [← beq_toListBytes, Bool.eq_iff_iff]
  have h2 : (x2 == y2) = true ↔ x2 = y2 := by rw [beq_toListBytes, beq_iff_eq, ByteArray.toList_eq, ByteArray.toList_eq]; exact ⟨fun h => by rw [← mk_of x2, ← mk_of y2, h], fun h => by rw [h]⟩
  simp only [decide_eq_true_eq, Prod.mk.injEq, Bool.and_eq_true, beq_iff_eq, h2, and_assoc]
theorem neq_row (x1 y1 x3 y3 : Int) (x2 y2 : ByteArray) (w : World) : (binOp .neq 31 (.agg #[.int .i64 x1, .string x2, .int .i64 x3]) (.agg #[.int .i64 y1, .string y2, .int .i64 y3])).run Tryd.prog w = .ok (.bool (!eq3 (x1, x2, x3) (y1, y2, y3))) w := by
  rw [run_neq_struct, run_equalIn_struct w 9999 31 _ _ (by kernel_rfl) (by kernel_rfl), eq3_of]
  cases h1 : x1 == y1 <;> cases h2 : (x2.toList == y2.toList) <;> cases h3 : x3 == y3 <;> simp [go_sem, Program.fieldsOf, Tryd.underlying31, Tryd.underlying3, Tryd.underlying9, h1, h2, h3]

def same (rs ks : List R3) : Bool := decide (rs = ks)
theorem rsame_any (a a' : Option Addr) (len len' cap cap' : Nat) (rs ks : List R3) (w : World) (h : RowsAt w a len rs) (h' : RowsAt w a' len' ks) (hl : len ≤ 4398046511104) (hl' : len' ≤ 4398046511104) :
    Calls Tryd.prog 12 #[.slice a len cap, .slice a' len' cap'] w fun e w' => e = .returned (.bool (same rs ks)) ∧ Below w.heap.size w w' := by
  have HZ : Hid (RowsAt w a len rs) := h
  have HZ' : Hid (RowsAt w a' len' ks) := h'
  clear h h'
  by_cases hne : len = len'
  · subst hne
    go_enter Tryd.func12, Tryd.ntmps12
    go_wp2
    go_loopw [5] (fun i wr => ∃ k : Nat, k ≤ len ∧ i = .int .i64 k ∧ rs.take k = ks.take k ∧ Below w.heap.size w wr) (fun i _ => len - (intOf i).toNat)
    case atStart => exact ⟨0, Nat.zero_le _, rfl, rfl, Below.refl _ _⟩
    case round =>
      obtain ⟨k, hk, rfl, ht, hbe⟩ := hrel
      have HT : Hid (rs.take k = ks.take k) := ht
      clear ht
      by_cases hlt : k < len
      · obtain ⟨b, off, rfl, hb, hc⟩ := HZ.out.2 (by omega)
        obtain ⟨b', off', rfl, hb', hc'⟩ := HZ'.out.2 (by omega)
        obtain ⟨c0, c1, c2⟩ := hc k hlt
        obtain ⟨d0, d1, d2⟩ := hc' k hlt
        replace c0 := (hbe.cell (p := ⟨b, off + k * 3, none⟩) hb).trans c0
        replace c1 := (hbe.cell (p := ⟨b, off + k * 3 + 1, none⟩) hb).trans c1
        replace c2 := (hbe.cell (p := ⟨b, off + k * 3 + 2, none⟩) hb).trans c2
        replace d0 := (hbe.cell (p := ⟨b', off' + k * 3, none⟩) hb').trans d0
        replace d1 := (hbe.cell (p := ⟨b', off' + k * 3 + 1, none⟩) hb').trans d1
        replace d2 := (hbe.cell (p := ⟨b', off' + k * 3 + 2, none⟩) hb').trans d2
        obtain ⟨x, hx⟩ : ∃ x, Hid (x = rs.getD k z3) := ⟨_, rfl⟩
        obtain ⟨y, hy⟩ : ∃ y, Hid (y = ks.getD k z3) := ⟨_, rfl⟩
        rw [← hx.out] at c0 c1 c2
        rw [← hy.out] at d0 d1 d2
        obtain ⟨x1, x2, x3⟩ := x
        obtain ⟨y1, y2, y3⟩ := y
        simp only at c0 c1 c2 d0 d1 d2
        clear hc hc'
        have hn := neq_row x1 y1 x3 y3 x2 y2
        have HE : Hid (eq3 (x1, x2, x3) (y1, y2, y3) = decide (rs.getD k z3 = ks.getD k z3)) := by rw [hx.out, hy.out]; rfl
        generalize eq3 (x1, x2, x3) (y1, y2, y3) = q at hn HE
        cases q
        · go_wp2
          go_quiet (fail)
          go_wp2
          go_ret
          refine ⟨?_, below_drewN hbe _⟩
          have e : same rs ks = false := by
            unfold same
            rw [decide_eq_false_iff_not]
            intro h
            have := HE.out
            rw [h] at this
            simp at this
          rw [e]
          rfl
        · go_wp2
          go_quiet (fail)
          go_wp2
          go_roundw
          case rel =>
            refine ⟨k + 1, by omega, by go_num, ?_, below_drewN hbe _⟩
            have hrl := HZ.out.1
            have hkl := HZ'.out.1
            have he : rs.getD k z3 = ks.getD k z3 := by have := HE.out; simpa using this.symm
            rw [List.getD_eq_getElem?_getD, List.getD_eq_getElem?_getD, List.getElem?_eq_getElem (by omega), List.getElem?_eq_getElem (by omega)] at he
            rw [List.take_succ_eq_append_getElem (by omega), List.take_succ_eq_append_getElem (by omega), HT.out]
            congr 2
          case measure => simp [intOf]; omega
      · have hrl := HZ.out.1
        have hkl := HZ'.out.1
        have HE : Hid (same rs ks = true) := by
          have h := HT.out
          rw [List.take_of_length_le (by omega), List.take_of_length_le (by omega)] at h
          unfold same; rw [h]; simp [Hid]
        clear hrl hkl
        go_wp2
        go_ret
        rw [HE.out]
        exact ⟨rfl, hbe⟩
  · have HE : Hid (same rs ks = false) := by
      unfold same
      have h1 := HZ.out.1
      have h2 := HZ'.out.1
      exact decide_eq_false (fun h => hne (by rw [h1, h2, h]))
    have hne' : ((len : Int) != (len' : Int)) = true := by simp; omega
    go_enter Tryd.func12, Tryd.ntmps12
    go_wp2
    go_ret
    rw [HE.out]
    exact ⟨rfl, Below.refl _ _⟩

end Go.Proofs.YtgopjpihobekjaaDoor.Rws
