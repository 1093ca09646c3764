/- Several texts as one: QuoteSign, QuoteTab, QuoteDig. -/
import Derived.Test.YtfohbiohleekbaaGreatDoorQQuoteBldR
import Derived.Test.YtfohbiohleekbaaGreatDoorQFbA
import Derived.Test.YtfohbiohleekbaaGreatDoorQFbJ
import Derived.Test.YtfohbiohleekbaaGreatDoorQFbF
import Derived.Laws.BitsAllLaws
section
/- . -/
namespace Go.Proofs.YtfohbiohleekbaaGreatDoor.Quo
open Utf Rws
open Go.RowKit
set_option linter.unusedSimpArgs false
set_option linter.unusedVariables false
set_option maxRecDepth 100000
theorem stands_any (n : Int) (w : World) : Calls Tryz.prog 171 #[.int .i64 n] w fun e w' => e = .returned (.bool (may n)) ∧ w = w' := by
 have HM : Hid (may n = (prn n && !(n == 9) && !(n == 10) && !(n == 13))) := rfl
 cases c1 : (n == 9)
 ·cases c2 : (n == 10)
  ·cases c3 : (n == 13)
   ·go_enter Tryz.func171, Tryz.ntmps171
    go_wp2_with (first | (go_at_call 162; refine (printable_any _ _).mono ?_; rintro e w' ⟨rfl, rfl⟩))
    go_ret
    exact ⟨by rw [HM.out, c1, c2, c3]; simp, rfl⟩
   ·go_enter Tryz.func171, Tryz.ntmps171
    go_wp2
    go_ret
    exact ⟨by rw [HM.out, c3]; simp, rfl⟩
  ·go_enter Tryz.func171, Tryz.ntmps171
   go_wp2
   go_ret
   exact ⟨by rw [HM.out, c2]; simp, rfl⟩
 ·go_enter Tryz.func171, Tryz.ntmps171
  go_wp2
  go_ret
  exact ⟨by rw [HM.out, c1]; simp, rfl⟩
theorem bytes_one (n : Int) : Utf.bytes [n] = byt n := by simp [Utf.bytes]
theorem allS_one (n : Int) : allS [n] = sgn n := by simp [allS]
theorem cells_app (a b : List UInt8) : Lib.byteCells (a ++ b) = Lib.byteCells a ++ Lib.byteCells b := by simp [Lib.byteCells]
theorem strCells_mk (l : List UInt8) : Lib.strCells (mk l) = Lib.byteCells l := rfl
def sgb (n : Int) : List UInt8 := if sgn n = true then u8s (byt n) else []
theorem sgb_len (n : Int) : (sgb n).length ≤ 4 := by
 unfold sgb; split
 ·simp [u8s]; exact (byt_len n).2
 ·simp
variable {T : TypeId} {B b : Nat} {tl : List Value} {w : World}
theorem putSign_any (hT : Emb T (tl.length + 2)) (n : Int) (out : List UInt8) (h : Bld T B b tl (Lib.byteCells out) w) (hlen : out.length + 4 ≤ 140737488355328) (hBw : B ≤ w.heap.size) :
  Calls Tryz.prog 172 #[.pointer (some ⟨b, 0, none⟩), .int .i64 n] w fun e w' => e = .returned (.bool (sgn n)) ∧ (Bld T B b tl (Lib.byteCells (out ++ sgb n)) w' ∧ Below B w w' ∧ Lib.OthersKept 5 (some b) w w') := by
 have HE := encode_any (some ⟨w.heap.size, 0, none⟩) 1 1 [n] (w.alloc (.cells #[.int .i64 n] 3)) (ints_one w n 3) (by decide)
 have hb0 : Below w.heap.size w (w.alloc (.cells #[.int .i64 n] 3)) := (Below.refl _ _).alloc (Nat.le_refl _) _
 have hsl := sgb_len n
 have e1 : encS [n] = mk (sgb n) := by
  unfold encS sgb
  rw [allS_one, bytes_one]
  split <;> rfl
 have e2 : (encE [n] == 0) = sgn n := by
  unfold encE
  rw [allS_one]
  cases sgn n <;> rfl
 obtain ⟨E, hE⟩ : ∃ E, E = encE [n] := ⟨_, rfl⟩
 obtain ⟨S, hS⟩ : ∃ S, S = sgb n := ⟨_, rfl⟩
 obtain ⟨V, hV⟩ : ∃ V, V = sgn n := ⟨_, rfl⟩
 rw [e1, ← hE, ← hS] at HE
 rw [← hE, ← hV] at e2
 rw [← hS, ← hV]
 rw [← hS] at hsl
 clear e1 hE hS hV
 have HC : Hid (Calls Tryz.prog 181 #[.slice (some ⟨w.heap.size, 0, none⟩) 1 1] (w.alloc (.cells #[.int .i64 n] 3)) fun e w' => e = .returned (.tuple #[.string (mk S), .int .i64 E]) ∧ Below w.heap.size w w' ∧ Bld T B b tl (Lib.byteCells out) w') := HE.mono (by
  rintro e w' ⟨h1, h2⟩
  have h3 : Below w.heap.size w w' := hb0.trans (h2.mono (by simp))
  exact ⟨h1, h3, h.later h3⟩)
 clear HE hb0 h
 have HT : Hid (Emb T (tl.length + 2)) := hT
 clear hT
 go_enter Tryz.func172, Tryz.ntmps172
 go_wp2_with (first | (go_at_call 181; refine HC.out.mono ?_; rintro e w1 ⟨rfl, hb1, hB1⟩) | (go_at_call 182; refine (writeString_any HT.out (mk S) hB1 (by rw [cells_len, mk_size]; omega) (by have := hb1.size; omega)).mono ?_; rintro e w2 ⟨rfl, hB2, hb2, hk2⟩))
 go_ret
 rw [strCells_mk, ← cells_app] at hB2
 exact ⟨rfl, hB2, (hb1.mono hBw).trans hb2, (kept_of_below hb1).trans hk2⟩
end Go.Proofs.YtfohbiohleekbaaGreatDoor.Quo
end

section
/- . -/
namespace Go.Proofs.YtfohbiohleekbaaGreatDoor.Quo
open Utf Rws
open Go.RowKit
set_option linter.unusedSimpArgs false
set_option linter.unusedVariables false
set_option maxRecDepth 100000
structure Tabs (w : World) : Prop where
 sh : ∃ t fz, w.heap[5]? = some (.cells #[.int .u8 34, .int .i64 34, .int .u8 92, .int .i64 92, .int .u8 110, .int .i64 10, .int .u8 116, .int .i64 9, .int .u8 114, .int .i64 13, .int .u8 48, .int .i64 0] t fz)
 nu : ∃ t fz, w.heap[6]? = some (.cells #[.int .u8 120, .int .i64 2, .int .u8 117, .int .i64 4, .int .u8 85, .int .i64 8] t fz)
theorem Tabs.later {w w' : World} (h : Tabs w) (hb : Below w.heap.size w w') : Tabs w' := by
 obtain ⟨⟨t1, f1, h1⟩, ⟨t2, f2, h2⟩⟩ := h
 exact ⟨⟨t1, f1, (hb.block _ (Array.getElem?_eq_some_iff.1 h1).1).trans h1⟩, ⟨t2, f2, (hb.block _ (Array.getElem?_eq_some_iff.1 h2).1).trans h2⟩⟩
theorem Tabs.under {w w' : World} {B : Nat} (h : Tabs w) (hb : Below B w w') (hB : 7 ≤ B) : Tabs w' := by
 obtain ⟨⟨t1, f1, h1⟩, ⟨t2, f2, h2⟩⟩ := h
 exact ⟨⟨t1, f1, (hb.block _ (by omega)).trans h1⟩, ⟨t2, f2, (hb.block _ (by omega)).trans h2⟩⟩
theorem Tabs.size {w : World} (h : Tabs w) : 7 ≤ w.heap.size := by
 obtain ⟨_, ⟨t2, f2, h2⟩⟩ := h
 exact (Array.getElem?_eq_some_iff.1 h2).1
def mnt (c : UInt8) : Option Int := if c = 34 then some 34 else if c = 92 then some 92 else if c = 110 then some 10 else if c = 116 then some 9 else if c = 114 then some 13 else if c = 48 then some 0 else none
theorem lit_yes {c d : UInt8} (h : c = d) : ((d.toNat : Int) == (c.toNat : Int)) = true := by subst h; simp
theorem lit_no {c d : UInt8} (h : c ≠ d) : ((d.toNat : Int) == (c.toNat : Int)) = false := by
 simp only [beq_eq_false_iff_ne, ne_eq]
 intro e
 exact h (UInt8.toNat_inj.1 (by omega))
set_option maxHeartbeats 1000000 in
theorem meant_any (c : UInt8) (w : World) (hT : Tabs w) : Calls Tryz.prog 173 #[.int .u8 (c.toNat : Int)] w fun e w' => e = .returned (.tuple #[.int .i64 ((mnt c).getD 0), .bool (mnt c).isSome]) ∧ Below w.heap.size w w' := by
 obtain ⟨t0, fz, hT⟩ := hT.sh
 have g0 : w.cell? ⟨5, 0, none⟩ = some (.int .u8 34) := by rw [Lib.cell_of_heap hT]; rfl
 have g1 : w.cell? ⟨5, 1, none⟩ = some (.int .i64 34) := by rw [Lib.cell_of_heap hT]; rfl
 have g2 : w.cell? ⟨5, 2, none⟩ = some (.int .u8 92) := by rw [Lib.cell_of_heap hT]; rfl
 have g3 : w.cell? ⟨5, 3, none⟩ = some (.int .i64 92) := by rw [Lib.cell_of_heap hT]; rfl
 have g4 : w.cell? ⟨5, 4, none⟩ = some (.int .u8 110) := by rw [Lib.cell_of_heap hT]; rfl
 have g5 : w.cell? ⟨5, 5, none⟩ = some (.int .i64 10) := by rw [Lib.cell_of_heap hT]; rfl
 have g6 : w.cell? ⟨5, 6, none⟩ = some (.int .u8 116) := by rw [Lib.cell_of_heap hT]; rfl
 have g7 : w.cell? ⟨5, 7, none⟩ = some (.int .i64 9) := by rw [Lib.cell_of_heap hT]; rfl
 have g8 : w.cell? ⟨5, 8, none⟩ = some (.int .u8 114) := by rw [Lib.cell_of_heap hT]; rfl
 have g9 : w.cell? ⟨5, 9, none⟩ = some (.int .i64 13) := by rw [Lib.cell_of_heap hT]; rfl
 have g10 : w.cell? ⟨5, 10, none⟩ = some (.int .u8 48) := by rw [Lib.cell_of_heap hT]; rfl
 have g11 : w.cell? ⟨5, 11, none⟩ = some (.int .i64 0) := by rw [Lib.cell_of_heap hT]; rfl
 have x0 : ∀ w : World, (Instr.index 218 (.agg #[.int .u8 34, .int .i64 34, .int .u8 92, .int .i64 92, .int .u8 110, .int .i64 10, .int .u8 116, .int .i64 9, .int .u8 114, .int .i64 13, .int .u8 48, .int .i64 0]) (.int .i64 0)).run Tryz.prog w = .ok (.agg #[.int .u8 34, .int .i64 34]) w := fun _ => by kernel_rfl
 have x1 : ∀ w : World, (Instr.index 218 (.agg #[.int .u8 34, .int .i64 34, .int .u8 92, .int .i64 92, .int .u8 110, .int .i64 10, .int .u8 116, .int .i64 9, .int .u8 114, .int .i64 13, .int .u8 48, .int .i64 0]) (.int .i64 1)).run Tryz.prog w = .ok (.agg #[.int .u8 92, .int .i64 92]) w := fun _ => by kernel_rfl
 have x2 : ∀ w : World, (Instr.index 218 (.agg #[.int .u8 34, .int .i64 34, .int .u8 92, .int .i64 92, .int .u8 110, .int .i64 10, .int .u8 116, .int .i64 9, .int .u8 114, .int .i64 13, .int .u8 48, .int .i64 0]) (.int .i64 2)).run Tryz.prog w = .ok (.agg #[.int .u8 110, .int .i64 10]) w := fun _ => by kernel_rfl
 have x3 : ∀ w : World, (Instr.index 218 (.agg #[.int .u8 34, .int .i64 34, .int .u8 92, .int .i64 92, .int .u8 110, .int .i64 10, .int .u8 116, .int .i64 9, .int .u8 114, .int .i64 13, .int .u8 48, .int .i64 0]) (.int .i64 3)).run Tryz.prog w = .ok (.agg #[.int .u8 116, .int .i64 9]) w := fun _ => by kernel_rfl
 have x4 : ∀ w : World, (Instr.index 218 (.agg #[.int .u8 34, .int .i64 34, .int .u8 92, .int .i64 92, .int .u8 110, .int .i64 10, .int .u8 116, .int .i64 9, .int .u8 114, .int .i64 13, .int .u8 48, .int .i64 0]) (.int .i64 4)).run Tryz.prog w = .ok (.agg #[.int .u8 114, .int .i64 13]) w := fun _ => by kernel_rfl
 have x5 : ∀ w : World, (Instr.index 218 (.agg #[.int .u8 34, .int .i64 34, .int .u8 92, .int .i64 92, .int .u8 110, .int .i64 10, .int .u8 116, .int .i64 9, .int .u8 114, .int .i64 13, .int .u8 48, .int .i64 0]) (.int .i64 5)).run Tryz.prog w = .ok (.agg #[.int .u8 48, .int .i64 0]) w := fun _ => by kernel_rfl
 clear hT
 go_enter Tryz.func173, Tryz.ntmps173
 go_wp2
 clear g0 g1 g2 g3 g4 g5 g6 g7 g8 g9 g10 g11
 go_loopw [7] (fun i wr => ∃ k : Int, 0 ≤ k ∧ k ≤ 6 ∧ i = .int .i64 k ∧ (0 < k → c ≠ 34) ∧ (1 < k → c ≠ 92) ∧ (2 < k → c ≠ 110) ∧ (3 < k → c ≠ 116) ∧ (4 < k → c ≠ 114) ∧ (5 < k → c ≠ 48) ∧ Below w.heap.size w wr) (fun i _ => 6 - (intOf i).toNat)
 case atStart => exact ⟨0, by decide, by decide, rfl, fun h => absurd h (by decide), fun h => absurd h (by decide), fun h => absurd h (by decide), fun h => absurd h (by decide), fun h => absurd h (by decide), fun h => absurd h (by decide), Below.refl _ _⟩
 case round =>
  obtain ⟨k, hk0, hk, rfl, n0, n1, n2, n3, n4, n5, hbe⟩ := hrel
  rcases (show k = 0 ∨ k = 1 ∨ k = 2 ∨ k = 3 ∨ k = 4 ∨ k = 5 ∨ k = 6 by omega) with rfl | rfl | rfl | rfl | rfl | rfl | rfl
  ·by_cases hc : c = 34
   ·have e : ((34 : Int) == (c.toNat : Int)) = true := lit_yes (d := 34) hc
    have HX : Hid (mnt c = some 34) := by subst hc; exact rfl
    clear hc n0 n1 n2 n3 n4 n5
    go_wp2
    go_ret2
    exact ⟨by rw [HX.out]; rfl, hbe.alloc hbe.size _⟩
   ·have e : ((34 : Int) == (c.toNat : Int)) = false := lit_no (d := 34) hc
    have HN : Hid (((0 : Int) < 1 → c ≠ 34) ∧ ((1 : Int) < 1 → c ≠ 92) ∧ ((2 : Int) < 1 → c ≠ 110) ∧ ((3 : Int) < 1 → c ≠ 116) ∧ ((4 : Int) < 1 → c ≠ 114) ∧ ((5 : Int) < 1 → c ≠ 48)) := ⟨fun _ => hc, fun h => absurd h (by decide), fun h => absurd h (by decide), fun h => absurd h (by decide), fun h => absurd h (by decide), fun h => absurd h (by decide)⟩
    have hs := hbe.size
    clear hc n0 n1 n2 n3 n4 n5
    go_wp2
    go_roundw
    case rel => exact ⟨1, by decide, by decide, rfl, HN.out.1, HN.out.2.1, HN.out.2.2.1, HN.out.2.2.2.1, HN.out.2.2.2.2.1, HN.out.2.2.2.2.2, hbe.alloc hs _⟩
    case measure => simp [intOf]
  ·by_cases hc : c = 92
   ·have e : ((92 : Int) == (c.toNat : Int)) = true := lit_yes (d := 92) hc
    have HX : Hid (mnt c = some 92) := by subst hc; exact rfl
    clear hc n0 n1 n2 n3 n4 n5
    go_wp2
    go_ret2
    exact ⟨by rw [HX.out]; rfl, hbe.alloc hbe.size _⟩
   ·have e : ((92 : Int) == (c.toNat : Int)) = false := lit_no (d := 92) hc
    have HN : Hid (((0 : Int) < 2 → c ≠ 34) ∧ ((1 : Int) < 2 → c ≠ 92) ∧ ((2 : Int) < 2 → c ≠ 110) ∧ ((3 : Int) < 2 → c ≠ 116) ∧ ((4 : Int) < 2 → c ≠ 114) ∧ ((5 : Int) < 2 → c ≠ 48)) := ⟨fun _ => n0 (by decide), fun _ => hc, fun h => absurd h (by decide), fun h => absurd h (by decide), fun h => absurd h (by decide), fun h => absurd h (by decide)⟩
    have hs := hbe.size
    clear hc n0 n1 n2 n3 n4 n5
    go_wp2
    go_roundw
    case rel => exact ⟨2, by decide, by decide, rfl, HN.out.1, HN.out.2.1, HN.out.2.2.1, HN.out.2.2.2.1, HN.out.2.2.2.2.1, HN.out.2.2.2.2.2, hbe.alloc hs _⟩
    case measure => simp [intOf]
  ·by_cases hc : c = 110
   ·have e : ((110 : Int) == (c.toNat : Int)) = true := lit_yes (d := 110) hc
    have HX : Hid (mnt c = some 10) := by subst hc; exact rfl
    clear hc n0 n1 n2 n3 n4 n5
    go_wp2
    go_ret2
    exact ⟨by rw [HX.out]; rfl, hbe.alloc hbe.size _⟩
   ·have e : ((110 : Int) == (c.toNat : Int)) = false := lit_no (d := 110) hc
    have HN : Hid (((0 : Int) < 3 → c ≠ 34) ∧ ((1 : Int) < 3 → c ≠ 92) ∧ ((2 : Int) < 3 → c ≠ 110) ∧ ((3 : Int) < 3 → c ≠ 116) ∧ ((4 : Int) < 3 → c ≠ 114) ∧ ((5 : Int) < 3 → c ≠ 48)) := ⟨fun _ => n0 (by decide), fun _ => n1 (by decide), fun _ => hc, fun h => absurd h (by decide), fun h => absurd h (by decide), fun h => absurd h (by decide)⟩
    have hs := hbe.size
    clear hc n0 n1 n2 n3 n4 n5
    go_wp2
    go_roundw
    case rel => exact ⟨3, by decide, by decide, rfl, HN.out.1, HN.out.2.1, HN.out.2.2.1, HN.out.2.2.2.1, HN.out.2.2.2.2.1, HN.out.2.2.2.2.2, hbe.alloc hs _⟩
    case measure => simp [intOf]
  ·by_cases hc : c = 116
   ·have e : ((116 : Int) == (c.toNat : Int)) = true := lit_yes (d := 116) hc
    have HX : Hid (mnt c = some 9) := by subst hc; exact rfl
    clear hc n0 n1 n2 n3 n4 n5
    go_wp2
    go_ret2
    exact ⟨by rw [HX.out]; rfl, hbe.alloc hbe.size _⟩
   ·have e : ((116 : Int) == (c.toNat : Int)) = false := lit_no (d := 116) hc
    have HN : Hid (((0 : Int) < 4 → c ≠ 34) ∧ ((1 : Int) < 4 → c ≠ 92) ∧ ((2 : Int) < 4 → c ≠ 110) ∧ ((3 : Int) < 4 → c ≠ 116) ∧ ((4 : Int) < 4 → c ≠ 114) ∧ ((5 : Int) < 4 → c ≠ 48)) := ⟨fun _ => n0 (by decide), fun _ => n1 (by decide), fun _ => n2 (by decide), fun _ => hc, fun h => absurd h (by decide), fun h => absurd h (by decide)⟩
    have hs := hbe.size
    clear hc n0 n1 n2 n3 n4 n5
    go_wp2
    go_roundw
    case rel => exact ⟨4, by decide, by decide, rfl, HN.out.1, HN.out.2.1, HN.out.2.2.1, HN.out.2.2.2.1, HN.out.2.2.2.2.1, HN.out.2.2.2.2.2, hbe.alloc hs _⟩
    case measure => simp [intOf]
  ·by_cases hc : c = 114
   ·have e : ((114 : Int) == (c.toNat : Int)) = true := lit_yes (d := 114) hc
    have HX : Hid (mnt c = some 13) := by subst hc; exact rfl
    clear hc n0 n1 n2 n3 n4 n5
    go_wp2
    go_ret2
    exact ⟨by rw [HX.out]; rfl, hbe.alloc hbe.size _⟩
   ·have e : ((114 : Int) == (c.toNat : Int)) = false := lit_no (d := 114) hc
    have HN : Hid (((0 : Int) < 5 → c ≠ 34) ∧ ((1 : Int) < 5 → c ≠ 92) ∧ ((2 : Int) < 5 → c ≠ 110) ∧ ((3 : Int) < 5 → c ≠ 116) ∧ ((4 : Int) < 5 → c ≠ 114) ∧ ((5 : Int) < 5 → c ≠ 48)) := ⟨fun _ => n0 (by decide), fun _ => n1 (by decide), fun _ => n2 (by decide), fun _ => n3 (by decide), fun _ => hc, fun h => absurd h (by decide)⟩
    have hs := hbe.size
    clear hc n0 n1 n2 n3 n4 n5
    go_wp2
    go_roundw
    case rel => exact ⟨5, by decide, by decide, rfl, HN.out.1, HN.out.2.1, HN.out.2.2.1, HN.out.2.2.2.1, HN.out.2.2.2.2.1, HN.out.2.2.2.2.2, hbe.alloc hs _⟩
    case measure => simp [intOf]
  ·by_cases hc : c = 48
   ·have e : ((48 : Int) == (c.toNat : Int)) = true := lit_yes (d := 48) hc
    have HX : Hid (mnt c = some 0) := by subst hc; exact rfl
    clear hc n0 n1 n2 n3 n4 n5
    go_wp2
    go_ret2
    exact ⟨by rw [HX.out]; rfl, hbe.alloc hbe.size _⟩
   ·have e : ((48 : Int) == (c.toNat : Int)) = false := lit_no (d := 48) hc
    have HN : Hid (((0 : Int) < 6 → c ≠ 34) ∧ ((1 : Int) < 6 → c ≠ 92) ∧ ((2 : Int) < 6 → c ≠ 110) ∧ ((3 : Int) < 6 → c ≠ 116) ∧ ((4 : Int) < 6 → c ≠ 114) ∧ ((5 : Int) < 6 → c ≠ 48)) := ⟨fun _ => n0 (by decide), fun _ => n1 (by decide), fun _ => n2 (by decide), fun _ => n3 (by decide), fun _ => n4 (by decide), fun _ => hc⟩
    have hs := hbe.size
    clear hc n0 n1 n2 n3 n4 n5
    go_wp2
    go_roundw
    case rel => exact ⟨6, by decide, by decide, rfl, HN.out.1, HN.out.2.1, HN.out.2.2.1, HN.out.2.2.2.1, HN.out.2.2.2.2.1, HN.out.2.2.2.2.2, hbe.alloc hs _⟩
    case measure => simp [intOf]
  ·have HX : Hid (mnt c = none) := by
    unfold mnt Hid
    rw [if_neg (n0 (by decide)), if_neg (n1 (by decide)), if_neg (n2 (by decide)), if_neg (n3 (by decide)), if_neg (n4 (by decide)), if_neg (n5 (by decide))]
   clear n0 n1 n2 n3 n4 n5
   go_wp2
   go_ret2
   exact ⟨by rw [HX.out]; rfl, hbe⟩
def dgs (c : UInt8) : Nat := if c = 120 then 2 else if c = 117 then 4 else if c = 85 then 8 else 0
set_option maxHeartbeats 1000000 in
theorem digitsOf_any (c : UInt8) (w : World) (hT : Tabs w) : Calls Tryz.prog 174 #[.int .u8 (c.toNat : Int)] w fun e w' => e = .returned (.int .i64 (dgs c : Int)) ∧ Below w.heap.size w w' := by
 obtain ⟨t0, fz, hT⟩ := hT.nu
 have g0 : w.cell? ⟨6, 0, none⟩ = some (.int .u8 120) := by rw [Lib.cell_of_heap hT]; rfl
 have g1 : w.cell? ⟨6, 1, none⟩ = some (.int .i64 2) := by rw [Lib.cell_of_heap hT]; rfl
 have g2 : w.cell? ⟨6, 2, none⟩ = some (.int .u8 117) := by rw [Lib.cell_of_heap hT]; rfl
 have g3 : w.cell? ⟨6, 3, none⟩ = some (.int .i64 4) := by rw [Lib.cell_of_heap hT]; rfl
 have g4 : w.cell? ⟨6, 4, none⟩ = some (.int .u8 85) := by rw [Lib.cell_of_heap hT]; rfl
 have g5 : w.cell? ⟨6, 5, none⟩ = some (.int .i64 8) := by rw [Lib.cell_of_heap hT]; rfl
 have x0 : ∀ w : World, (Instr.index 220 (.agg #[.int .u8 120, .int .i64 2, .int .u8 117, .int .i64 4, .int .u8 85, .int .i64 8]) (.int .i64 0)).run Tryz.prog w = .ok (.agg #[.int .u8 120, .int .i64 2]) w := fun _ => by kernel_rfl
 have x1 : ∀ w : World, (Instr.index 220 (.agg #[.int .u8 120, .int .i64 2, .int .u8 117, .int .i64 4, .int .u8 85, .int .i64 8]) (.int .i64 1)).run Tryz.prog w = .ok (.agg #[.int .u8 117, .int .i64 4]) w := fun _ => by kernel_rfl
 have x2 : ∀ w : World, (Instr.index 220 (.agg #[.int .u8 120, .int .i64 2, .int .u8 117, .int .i64 4, .int .u8 85, .int .i64 8]) (.int .i64 2)).run Tryz.prog w = .ok (.agg #[.int .u8 85, .int .i64 8]) w := fun _ => by kernel_rfl
 clear hT
 go_enter Tryz.func174, Tryz.ntmps174
 go_wp2
 clear g0 g1 g2 g3 g4 g5
 go_loopw [6] (fun i wr => ∃ k : Int, 0 ≤ k ∧ k ≤ 3 ∧ i = .int .i64 k ∧ (0 < k → c ≠ 120) ∧ (1 < k → c ≠ 117) ∧ (2 < k → c ≠ 85) ∧ Below w.heap.size w wr) (fun i _ => 3 - (intOf i).toNat)
 case atStart => exact ⟨0, by decide, by decide, rfl, fun h => absurd h (by decide), fun h => absurd h (by decide), fun h => absurd h (by decide), Below.refl _ _⟩
 case round =>
  obtain ⟨k, hk0, hk, rfl, n0, n1, n2, hbe⟩ := hrel
  rcases (show k = 0 ∨ k = 1 ∨ k = 2 ∨ k = 3 by omega) with rfl | rfl | rfl | rfl
  ·by_cases hc : c = 120
   ·have e : ((120 : Int) == (c.toNat : Int)) = true := lit_yes (d := 120) hc
    have HX : Hid (dgs c = 2) := by subst hc; exact rfl
    clear hc n0 n1 n2
    go_wp2
    go_ret
    exact ⟨by rw [HX.out]; rfl, hbe.alloc hbe.size _⟩
   ·have e : ((120 : Int) == (c.toNat : Int)) = false := lit_no (d := 120) hc
    have HN : Hid (((0 : Int) < 1 → c ≠ 120) ∧ ((1 : Int) < 1 → c ≠ 117) ∧ ((2 : Int) < 1 → c ≠ 85)) := ⟨fun _ => hc, fun h => absurd h (by decide), fun h => absurd h (by decide)⟩
    have hs := hbe.size
    clear hc n0 n1 n2
    go_wp2
    go_roundw
    case rel => exact ⟨1, by decide, by decide, rfl, HN.out.1, HN.out.2.1, HN.out.2.2, hbe.alloc hs _⟩
    case measure => simp [intOf]
  ·by_cases hc : c = 117
   ·have e : ((117 : Int) == (c.toNat : Int)) = true := lit_yes (d := 117) hc
    have HX : Hid (dgs c = 4) := by subst hc; exact rfl
    clear hc n0 n1 n2
    go_wp2
    go_ret
    exact ⟨by rw [HX.out]; rfl, hbe.alloc hbe.size _⟩
   ·have e : ((117 : Int) == (c.toNat : Int)) = false := lit_no (d := 117) hc
    have HN : Hid (((0 : Int) < 2 → c ≠ 120) ∧ ((1 : Int) < 2 → c ≠ 117) ∧ ((2 : Int) < 2 → c ≠ 85)) := ⟨fun _ => n0 (by decide), fun _ => hc, fun h => absurd h (by decide)⟩
    have hs := hbe.size
    clear hc n0 n1 n2
    go_wp2
    go_roundw
    case rel => exact ⟨2, by decide, by decide, rfl, HN.out.1, HN.out.2.1, HN.out.2.2, hbe.alloc hs _⟩
    case measure => simp [intOf]
  ·by_cases hc : c = 85
   ·have e : ((85 : Int) == (c.toNat : Int)) = true := lit_yes (d := 85) hc
    have HX : Hid (dgs c = 8) := by subst hc; exact rfl
    clear hc n0 n1 n2
    go_wp2
    go_ret
    exact ⟨by rw [HX.out]; rfl, hbe.alloc hbe.size _⟩
   ·have e : ((85 : Int) == (c.toNat : Int)) = false := lit_no (d := 85) hc
    have HN : Hid (((0 : Int) < 3 → c ≠ 120) ∧ ((1 : Int) < 3 → c ≠ 117) ∧ ((2 : Int) < 3 → c ≠ 85)) := ⟨fun _ => n0 (by decide), fun _ => n1 (by decide), fun _ => hc⟩
    have hs := hbe.size
    clear hc n0 n1 n2
    go_wp2
    go_roundw
    case rel => exact ⟨3, by decide, by decide, rfl, HN.out.1, HN.out.2.1, HN.out.2.2, hbe.alloc hs _⟩
    case measure => simp [intOf]
  ·have HX : Hid (dgs c = 0) := by
    unfold dgs Hid
    rw [if_neg (n0 (by decide)), if_neg (n1 (by decide)), if_neg (n2 (by decide))]
   clear n0 n1 n2
   go_wp2
   go_ret
   exact ⟨by rw [HX.out]; rfl, hbe⟩
end Go.Proofs.YtfohbiohleekbaaGreatDoor.Quo
end

section
/- . -/
namespace Go.Proofs.YtfohbiohleekbaaGreatDoor.Quo
open Utf Rws
open Go.RowKit
set_option linter.unusedSimpArgs false
set_option linter.unusedVariables false
set_option maxRecDepth 100000
theorem dig_bd (c : UInt8) : -1 ≤ dig c ∧ dig c ≤ 15 := by
 unfold dig
 split
 ·omega
 split
 ·omega
 split <;> omega
theorem digit_any (c : UInt8) (w : World) : Calls Tryz.prog 183 #[.int .u8 (c.toNat : Int)] w fun e w' => e = .returned (.int .i64 (dig c)) ∧ w = w' := by
 have hb : c.toNat < 256 := c.toNat_lt
 obtain ⟨x, hx⟩ : ∃ x, x = c.toNat := ⟨_, rfl⟩
 have HX : Hid (dig c = if 48 ≤ x ∧ x ≤ 57 then (x : Int) - 48 else if 97 ≤ x ∧ x ≤ 102 then (x : Int) - 87 else if 65 ≤ x ∧ x ≤ 70 then (x : Int) - 55 else -1) := by rw [hx]; exact rfl
 rw [← hx] at hb ⊢
 clear hx
 by_cases a : x < 48
 ·have HV : Hid (dig c = -1) := by rw [HX.out, if_neg (by omega), if_neg (by omega), if_neg (by omega)]; exact rfl
  go_enter Tryz.func183, Tryz.ntmps183
  go_wp2
  go_ret
  exact ⟨by rw [HV.out]; rfl, rfl⟩
 by_cases a2 : x ≤ 57
 ·have HV : Hid (dig c = (x : Int) - 48) := by rw [HX.out, if_pos (by omega)]; exact rfl
  go_enter Tryz.func183, Tryz.ntmps183
  go_wp2
  go_ret
  exact ⟨by rw [HV.out]; simp, rfl⟩
 by_cases a3 : x < 65
 ·have HV : Hid (dig c = -1) := by rw [HX.out, if_neg (by omega), if_neg (by omega), if_neg (by omega)]; exact rfl
  go_enter Tryz.func183, Tryz.ntmps183
  go_wp2
  go_ret
  exact ⟨by rw [HV.out]; rfl, rfl⟩
 by_cases a4 : x ≤ 70
 ·have HV : Hid (dig c = (x : Int) - 65 + 10) := by rw [HX.out, if_neg (by omega), if_neg (by omega), if_pos (by omega)]; unfold Hid; omega
  go_enter Tryz.func183, Tryz.ntmps183
  go_wp2
  go_ret
  exact ⟨by rw [HV.out]; simp, rfl⟩
 by_cases a5 : x < 97
 ·have HV : Hid (dig c = -1) := by rw [HX.out, if_neg (by omega), if_neg (by omega), if_neg (by omega)]; exact rfl
  go_enter Tryz.func183, Tryz.ntmps183
  go_wp2
  go_ret
  exact ⟨by rw [HV.out]; rfl, rfl⟩
 by_cases a6 : x ≤ 102
 ·have HV : Hid (dig c = (x : Int) - 97 + 10) := by rw [HX.out, if_neg (by omega), if_pos (by omega)]; unfold Hid; omega
  go_enter Tryz.func183, Tryz.ntmps183
  go_wp2
  go_ret
  exact ⟨by rw [HV.out]; simp, rfl⟩
 ·have HV : Hid (dig c = -1) := by rw [HX.out, if_neg (by omega), if_neg (by omega), if_neg (by omega)]; exact rfl
  go_enter Tryz.func183, Tryz.ntmps183
  go_wp2
  go_ret
  exact ⟨by rw [HV.out]; rfl, rfl⟩
theorem or16 (x d : Int) (h0 : 0 ≤ x) (h1 : x ≤ 68719476735) (d0 : 0 ≤ d) (d1 : d ≤ 15) : bits .or .i64 (x * 16) d = x * 16 + d := by
 obtain ⟨n, rfl⟩ := Int.eq_ofNat_of_zero_le h0
 obtain ⟨m, rfl⟩ := Int.eq_ofNat_of_zero_le d0
 have e2 : ((n : Int) * 16) = ((n * 16 : Nat) : Int) := by omega
 rw [e2]
 show IntKind.i64.wrap ((BitVec.ofInt 64 ((n * 16 : Nat) : Int) ||| BitVec.ofInt 64 ((m : Nat) : Int)).toNat : Int) = _
 rw [BitVec.toNat_or, ofInt_u64 _ (by omega), ofInt_u64 _ (by omega), nat_join 4 _ _ (by omega) (by omega), Utf.wrap_small _ (by omega)]
 omega
theorem drop_cons {l : List UInt8} {j : Nat} (h : j < l.length) : l.drop j = l.getD j 0 :: l.drop (j + 1) := by
 rw [List.drop_eq_getElem_cons h, List.getD_eq_getElem?_getD, List.getElem?_eq_getElem h]; rfl
theorem getD_mk (l : List UInt8) (k : Nat) (h : k < (mk l).size) : (mk l)[k]'h = l.getD k 0 := by
 rw [mk_get, List.getD_eq_getElem?_getD, List.getElem?_eq_getElem (by rw [mk_size] at h; exact h)]; rfl
theorem numberOf_any (l : List UInt8) (k : Nat) (w : World) (hk : k ≤ 8) (hs : l.length ≤ 9223372036854775000) :
  Calls Tryz.prog 175 #[.string (mk l), .int .i64 (k : Int)] w fun e w' => e = .returned (.tuple #[.int .i64 (hexR k l 0).1, .int .i64 ((hexR k l 0).2 : Int)]) ∧ w = w' := by
 have hsz := mk_size l
 obtain ⟨N, hN⟩ : ∃ N, N = l.length := ⟨_, rfl⟩
 rw [← hN] at hsz hs
 have HN : Hid (N = l.length) := hN
 clear hN
 go_enter Tryz.func175, Tryz.ntmps175
 go_wp2
 go_loop [6, 10] (fun n i => ∃ (j : Nat) (x : Int), j ≤ k ∧ j ≤ N ∧ 0 ≤ x ∧ x + 1 ≤ 16 ^ j ∧ i = .int .i64 (j : Int) ∧ n = .int .i64 x ∧ hexR k l 0 = hexR (k - j) (l.drop j) x) (fun _ i => k - (intOf i).toNat)
 case atStart => exact ⟨0, 0, Nat.zero_le _, Nat.zero_le _, by decide, by decide, rfl, rfl, by simp⟩
 case round =>
  obtain ⟨j, x, hj, hjN, hx0, hx1, rfl, rfl, hc⟩ := hrel
  have HC : Hid (hexR k l 0 = hexR (k - j) (l.drop j) x) := hc
  have hx2 : x ≤ 68719476735 := by
   have : (16 : Int) ^ j ≤ 16 ^ 8 := by
    rcases (show j = 0 ∨ j = 1 ∨ j = 2 ∨ j = 3 ∨ j = 4 ∨ j = 5 ∨ j = 6 ∨ j = 7 ∨ j = 8 by omega) with rfl | rfl | rfl | rfl | rfl | rfl | rfl | rfl | rfl <;> decide
   omega
  have HX1 : Hid (x + 1 ≤ 16 ^ j) := hx1
  clear hc hx1
  by_cases hlt : j < k
  ·by_cases hj2 : j = N
   ·have HV : Hid (hexR k l 0 = (0, 4)) := by
     rw [HC.out, List.drop_of_length_le (by rw [← HN.out]; omega)]
     obtain ⟨m, hm⟩ : ∃ m, k - j = m + 1 := ⟨k - j - 1, by omega⟩
     rw [hm]; exact rfl
    have hq : ((j : Int) == (N : Int)) = true := by simp; omega
    have HJ : Hid (j = N) := hj2
    clear hj2
    go_wp2
    go_ret2
    exact ⟨by rw [HV.out]; rfl, rfl⟩
   ·have hjl : j < N := by omega
    have hq : ((j : Int) == (N : Int)) = false := by simp; omega
    have hg : ∀ h, (mk l)[j]'h = l.getD j 0 := fun h => getD_mk l j h
    have hdr : l.drop j = l.getD j 0 :: l.drop (j + 1) := drop_cons (by rw [← HN.out]; exact hjl)
    obtain ⟨m, hm⟩ : ∃ m, k - j = m + 1 := ⟨k - j - 1, by omega⟩
    have hstep : hexR (k - j) (l.drop j) x = if dig (l.getD j 0) < 0 then (0, 3) else hexR m (l.drop (j + 1)) (x * 16 + dig (l.getD j 0)) := by
     rw [hm, hdr]; rfl
    have hmm : m = k - (j + 1) := by omega
    rw [hmm] at hstep
    generalize l.getD j 0 = c at hg hstep
    have hbd := dig_bd c
    obtain ⟨D, hD⟩ : ∃ D, D = dig c := ⟨_, rfl⟩
    have HDG : Hid (∀ w, Calls Tryz.prog 183 #[.int .u8 (c.toNat : Int)] w fun e w' => e = .returned (.int .i64 D) ∧ w = w') := fun w => by rw [hD]; exact digit_any c w
    rw [← hD] at hstep hbd
    clear hD hdr hm hmm
    by_cases hneg : D < 0
    ·have HV : Hid (hexR k l 0 = (0, 3)) := by rw [HC.out, hstep, if_pos hneg]; exact rfl
     clear hstep
     go_wp2_with (first | (go_at_call 183; refine (HDG.out _).mono ?_; rintro e w' ⟨rfl, rfl⟩))
     go_ret2
     exact ⟨by rw [HV.out]; rfl, rfl⟩
    ·have HV : Hid (hexR k l 0 = hexR (k - (j + 1)) (l.drop (j + 1)) (x * 16 + D)) := by rw [HC.out, hstep, if_neg hneg]; exact rfl
     have hO := or16 x D hx0 hx2 (by omega) (by omega)
     have HO : Hid (bits .or .i64 (x * 16) D = x * 16 + D) := hO
     clear hstep hO
     go_wp2_with (first | (go_at_call 183; refine (HDG.out _).mono ?_; rintro e w' ⟨rfl, rfl⟩))
     go_round
     case rel => exact ⟨j + 1, x * 16 + D, by omega, by omega, by omega, by have := HX1.out; rw [Int.pow_succ]; omega, by go_num, by rw [HO.out], HV.out⟩
     case measure => simp [intOf]; omega
  ·have HV : Hid (hexR k l 0 = (x, 0)) := by
    rw [HC.out, show k - j = 0 by omega]; exact rfl
   go_wp2
   go_ret2
   exact ⟨by rw [HV.out]; rfl, rfl⟩
end Go.Proofs.YtfohbiohleekbaaGreatDoor.Quo
end
