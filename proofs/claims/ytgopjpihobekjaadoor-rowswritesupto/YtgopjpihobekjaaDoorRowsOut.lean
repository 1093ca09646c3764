/- rows.Read at every text: what it answers, in one form. -/
import Derived.Test.YtgopjpihobekjaaDoorRowsAlive
namespace Go.Proofs.YtgopjpihobekjaaDoor.Rws
open Utf
open Go.RowKit
set_option linter.unusedSimpArgs false
set_option linter.unusedVariables false
set_option maxRecDepth 100000

def outR (s : List UInt8) : List R3 := if s.length ≤ 65536 then (rws s).map r3 else []
def outF (s : List UInt8) : Int × Int := if s.length ≤ 65536 then flt 1 (lns s) else (5, 0)
def ReadOut (s : List UInt8) (w : World) (e : Ending) (w' : World) : Prop :=
  ∃ a cap, e = .returned (.tuple #[.slice a (outR s).length cap, .agg #[.int .i64 (outF s).1, .int .i64 (outF s).2]]) ∧ RowsAt w' a (outR s).length (outR s) ∧ (outR s).length ≤ cap ∧ cap ≤ maxLen ∧ Below w.heap.size w w'
theorem cap_own {w : World} {B : Nat} {e : TypeId} {k n : Nat} {a : Option Addr} {m cap : Nat} {xs : List Value} (h : w.ownsRow B e k (.slice a m cap) n xs) : n ≤ cap ∧ cap ≤ maxLen := by
  rcases h.2 with ⟨h1, h2⟩ | ⟨g, c, cur, h1, _, _, h2, h3, _⟩
  · cases h1; exact ⟨by omega, Nat.zero_le _⟩
  · cases h1; exact ⟨h2, h3⟩
theorem out_short {s : List UInt8} (hs : s.length ≤ 65536) {w w' : World} {e : Ending} (h : ReadRes s w e w') : ReadOut s w e w' := by
  obtain ⟨v, rfl, hown, hb⟩ := h
  obtain ⟨a, cap, rfl, hat⟩ := rowsAt_own hown
  have e1 : outR s = (rws s).map r3 := if_pos hs
  have e2 : outF s = flt 1 (lns s) := if_pos hs
  have e3 : (outR s).length = (rws s).length := by rw [e1, List.length_map]
  have hc := cap_own hown
  refine ⟨a, cap, by rw [e2, e3], ?_, by rw [e3]; exact hc.1, hc.2, hb⟩
  rw [e3, e1]; exact hat
theorem out_long {s : List UInt8} (hs : 65536 < s.length) {w w' : World} {e : Ending} (h : e = .returned (.tuple #[.slice none 0 0, .agg #[.int .i64 5, .int .i64 0]]) ∧ Below w.heap.size w w') : ReadOut s w e w' := by
  obtain ⟨rfl, hb⟩ := h
  have e1 : outR s = [] := if_neg (by omega)
  have e2 : outF s = (5, 0) := if_neg (by omega)
  refine ⟨none, 0, by rw [e1, e2]; rfl, ?_, by rw [e1]; exact Nat.zero_le _, Nat.zero_le _, hb⟩
  rw [e1]; exact ⟨rfl, fun h => absurd h (by decide)⟩
theorem readO_any (s : List UInt8) (w : World) : Calls Tryd.prog 14 #[.string (mk s)] w fun e w' => ReadOut s w e w' := by
  by_cases hs : s.length ≤ 65536
  · exact (read_in s hs w).mono fun e w' h => out_short hs h
  · exact (read_long (mk s) (by rw [mk_size]; omega) w).mono fun e w' h => out_long (by omega) h
theorem outR_len (s : List UInt8) : (outR s).length ≤ 65536 := by
  unfold outR
  split
  · rename_i h
    rw [List.length_map]
    unfold rws
    split
    · rw [num_len]; exact Nat.le_trans (lns_len _ s (Nat.le_refl _)) h
    · simp
  · simp
theorem neq_fault (x1 y1 x2 y2 : Int) (w : World) : (binOp .neq 35 (.agg #[.int .i64 x1, .int .i64 x2]) (.agg #[.int .i64 y1, .int .i64 y2])).run Tryd.prog w = .ok (.bool (!(x1 == y1 && x2 == y2))) w := by
  rw [run_neq_struct, run_equalIn_struct w 9999 35 _ _ (by kernel_rfl) (by kernel_rfl)]
  cases h1 : x1 == y1 <;> cases h2 : x2 == y2 <;> simp [go_sem, Program.fieldsOf, Tryd.underlying35, Tryd.underlying33, Tryd.underlying3, h1, h2]
theorem same_self (rs : List R3) : same rs rs = true := by unfold same; simp
theorem cell_new2 (w : World) (a b : Value) (t : TypeId) : (w.alloc (.cells #[a, b] t)).cell? ⟨w.heap.size, 0, none⟩ = some a ∧ (w.alloc (.cells #[a, b] t)).cell? ⟨w.heap.size, 1, none⟩ = some b := by
  refine ⟨?_, ?_⟩
  · rw [cell_of_row _ w.heap.size 0 _ _ (0, 0) (heap_alloc_new w _)]; rfl
  · rw [cell_of_row _ w.heap.size 1 _ _ (0, 0) (heap_alloc_new w _)]; rfl

end Go.Proofs.YtgopjpihobekjaaDoor.Rws
