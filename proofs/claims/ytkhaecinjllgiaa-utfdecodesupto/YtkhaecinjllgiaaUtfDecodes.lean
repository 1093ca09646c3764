/- The law UtfDecodes, of texts that are not too long: it answers true. -/
import Derived.Test.YtkhaecinjllgiaaUtfRef4
namespace Go.Proofs.Ytkhaecinjllgiaa.Utf
open Go.RowKit
set_option linter.unusedSimpArgs false
set_option linter.unusedVariables false

theorem cell_new2 (w : World) (x y : Value) (t : TypeId) : (w.alloc (.cells #[x, y] t)).cell? ⟨w.heap.size, 0, none⟩ = some x ∧ (w.alloc (.cells #[x, y] t)).cell? ⟨w.heap.size, 1, none⟩ = some y := by
  rw [cell_of_row _ w.heap.size 0 _ t (0, 0) (heap_alloc_new w _), cell_of_row _ w.heap.size 1 _ t (0, 0) (heap_alloc_new w _)]
  exact ⟨rfl, rfl⟩

set_option maxHeartbeats 1000000 in
theorem decodes_walk (s : ByteArray) (w : World) (hs : s.size ≤ 1048576) :
    Calls Try.prog 4 #[.string s] w fun e w' => e = .returned (.bool true) ∧ Below w.heap.size w w' := by
  have hm : s.size ≤ maxLen := by unfold maxLen; omega
  have hl := len_data s
  have hdl := dec_len s.data.toList.length s.data.toList (Nat.le_refl _)
  have hlen : Hid ((dec s.data.toList).1.length ≤ 17592186044416) := by unfold Hid; omega
  have hxl : (decXs s.data.toList).length ≤ 17592186044416 := by
    unfold decXs
    split
    · omega
    · simp
  clear hl hdl
  go_enter Try.func4, Try.ntmps4
  go_wp2_with fail
  refine (decode_any s _ (by omega) hlen.out).mono ?_
  rintro e w1 ⟨v, rfl, hown, hb1⟩
  obtain ⟨a1, cap1, rfl, hi1⟩ := ints_of_own hown
  have HI1 : Hid (Ints w1 a1 (decXs s.data.toList).length (decXs s.data.toList)) := hi1
  clear hown hi1
  go_wp2_with fail
  refine (rdecode_any s _ (by omega) hlen.out).mono ?_
  rintro e w2 ⟨v, rfl, hown, hb2⟩
  obtain ⟨a2, cap2, rfl, hi2⟩ := ints_of_own hown
  have HI2 : Hid (Ints w2 a2 (decXs s.data.toList).length (decXs s.data.toList)) := hi2
  clear hown hi2
  go_wp2_with (first | (go_at_call 14; refine (first_any _ _ hm).mono ?_; rintro e w' ⟨rfl, rfl⟩) | (go_at_call 15; refine (rfirst_any _ _ hm).mono ?_; rintro e w3 ⟨rfl, hb3⟩))
  have k2 : Below (w1.heap.size + 1) (w1.alloc (Obj.cells #[Value.int IntKind.i64 (why (dec s.data.toList).2), Value.int IntKind.i64 (pos (dec s.data.toList).2)] 31)) w2 := hb2.mono (by simp)
  have k3 : Below (w2.heap.size + 1) (w2.alloc (Obj.cells #[Value.int IntKind.i64 (why (dec s.data.toList).2), Value.int IntKind.i64 (pos (dec s.data.toList).2)] 31)) w3 := hb3.mono (by simp)
  have z1 : w1.heap.size + 1 ≤ w2.heap.size := by have := hb2.size; simpa using this
  have z2 : w2.heap.size + 1 ≤ w3.heap.size := by have := hb3.size; simpa using this
  have m13 : Below (w1.heap.size + 1) (w1.alloc (Obj.cells #[Value.int IntKind.i64 (why (dec s.data.toList).2), Value.int IntKind.i64 (pos (dec s.data.toList).2)] 31)) w3 :=
    (k2.alloc z1 _).trans (k3.mono (by omega))
  have n13 : Below w1.heap.size w1 w3 := ((Below.refl _ _).alloc (Nat.le_refl _) _).trans (m13.mono (Nat.le_succ _))
  have n23 : Below w2.heap.size w2 w3 := ((Below.refl _ _).alloc (Nat.le_refl _) _).trans (k3.mono (Nat.le_succ _))
  refine (ints_same a1 a2 _ cap1 cap2 (decXs s.data.toList) w3 (HI1.out.later n13 (Nat.le_refl _)) (HI2.out.later n23 (Nat.le_refl _)) hxl).mono ?_
  rintro e w4 ⟨rfl, hb4⟩
  have c10 := (hb4.cell (p := ⟨w1.heap.size, 0, none⟩) (by show w1.heap.size < _; omega)).trans ((m13.cell (p := ⟨w1.heap.size, 0, none⟩) (Nat.lt_succ_self _)).trans (cell_new2 w1 _ _ _).1)
  have c11 := (hb4.cell (p := ⟨w1.heap.size, 1, none⟩) (by show w1.heap.size < _; omega)).trans ((m13.cell (p := ⟨w1.heap.size, 1, none⟩) (Nat.lt_succ_self _)).trans (cell_new2 w1 _ _ _).2)
  have c20 := (hb4.cell (p := ⟨w2.heap.size, 0, none⟩) (by show w2.heap.size < _; omega)).trans ((k3.cell (p := ⟨w2.heap.size, 0, none⟩) (Nat.lt_succ_self _)).trans (cell_new2 w2 _ _ _).1)
  have c21 := (hb4.cell (p := ⟨w2.heap.size, 1, none⟩) (by show w2.heap.size < _; omega)).trans ((k3.cell (p := ⟨w2.heap.size, 1, none⟩) (Nat.lt_succ_self _)).trans (cell_new2 w2 _ _ _).2)
  have HE : Hid (Below w.heap.size w w4) := (hb1.trans (n13.mono hb1.size)).trans (hb4.mono (by have := hb1.size; omega))
  clear hb2 hb3 k2 k3 m13 n13 n23 z1 z2 hb1 hb4
  go_wp2_with (first | (go_at_call 11; refine (alive_any _).mono ?_; rintro e w5 ⟨rfl, hb5⟩))
  go_ret
  exact ⟨rfl, HE.out.trans (hb5.mono HE.out.size)⟩

end Go.Proofs.Ytkhaecinjllgiaa.Utf
