/- rows.Write, by its contract. -/
import Derived.Test.YtgopjpihobekjaaDoorRowsShelf
namespace Go.Proofs.YtgopjpihobekjaaDoor.Rws
open Utf
open Go.RowKit
set_option linter.unusedSimpArgs false
set_option linter.unusedVariables false
set_option maxRecDepth 100000

def clamp (c : Int) : Nat := (min (max c 0) 65536).toNat
def wr1 (r : R3) : List UInt8 := List.replicate (clamp r.1) 32 ++ r.2.1.data.toList ++ [10]
def wrt (rs : List R3) : List UInt8 := rs.flatMap wr1
theorem clamp_le (c : Int) : clamp c ≤ 65536 := by unfold clamp; omega
theorem clamp_eq (c : Int) : ((clamp c : Nat) : Int) = min (max c 0) 65536 := by unfold clamp; omega
theorem take_snocR (rs : List R3) (n : Nat) (h : n < rs.length) : rs.take (n + 1) = rs.take n ++ [rs.getD n z3] := by
  rw [List.take_succ_eq_append_getElem h, List.getD_eq_getElem?_getD, List.getElem?_eq_getElem h]; rfl
theorem wrt_take (rs : List R3) (n : Nat) (h : n < rs.length) : wrt (rs.take (n + 1)) = wrt (rs.take n) ++ wr1 (rs.getD n z3) := by
  rw [take_snocR rs n h]; unfold wrt; simp
theorem wrt_len (rs : List R3) (n : Nat) : (wrt (rs.take n)).length ≤ (wrt rs).length := by
  conv => rhs; rw [← List.take_append_drop n rs]
  unfold wrt
  rw [List.flatMap_append, List.length_append]
  omega
theorem bld_later {T e : TypeId} {B b : Nat} {bs : List Value} {w w' : World} (h : Lib.IsBuilderF T e B b bs w) (hb : Below w.heap.size w w') : Lib.IsBuilderF T e B b bs w' := by
  have one : ∀ p, Lib.BuilderAtF T e B b p bs w → Lib.BuilderAtF T e B b p bs w' := by
    intro p hp
    have hlt := hp.lt
    obtain ⟨hB, v, hbk, hown, hne⟩ := hp
    refine ⟨hB, v, (hb.block b hlt).trans hbk, hown.kept (row := none) ⟨hb.os, hb.tape, hb.output, hb.size, fun k hk _ => hb.block k hk⟩ ?_, hne⟩
    cases hv : v.ownBlock
    · exact .inl rfl
    · exact .inr (by simp)
  exact h.elim (fun x => .inl (one _ x)) (fun x => .inr (one _ x))
theorem rep32 (c : Nat) : (⟨(Lib.repeatL (⟨#[32]⟩ : ByteArray).data.toList c).toArray⟩ : ByteArray) = mk (List.replicate c 32) := by
  have h := Lib.repeatL_replicate 32 1 c
  rw [Nat.mul_one] at h
  have e : (⟨#[32]⟩ : ByteArray).data.toList = List.replicate 1 32 := rfl
  rw [e, h]; rfl
theorem strCells_mk (l : List UInt8) : Lib.strCells (mk l) = Lib.byteCells l := rfl
theorem byteCells_app (a b : List UInt8) : Lib.byteCells (a ++ b) = Lib.byteCells a ++ Lib.byteCells b := by simp [Lib.byteCells]

set_option maxHeartbeats 2000000 in
theorem write_any (a : Option Addr) (len cap : Nat) (rs : List R3) (w : World) (h : RowsAt w a len rs) (hl : len ≤ 4398046511104) (hb : (wrt rs).length ≤ 140737488355328) :
    Calls Tryd.prog 7 #[.slice a len cap] w fun e w' => e = .returned (.string (mk (wrt rs))) ∧ Below w.heap.size w w' := by
  have HZ : Hid (RowsAt w a len rs) := h
  clear h
  go_enter Tryd.func7, Tryd.ntmps7
  go_wp2
  go_loopw [8] (fun i wr => ∃ k : Nat, k ≤ len ∧ i = .int .i64 k ∧ Lib.IsBuilderF 42 5 w.heap.size w.heap.size (Lib.byteCells (wrt (rs.take k))) wr ∧ Below w.heap.size w wr) (fun i _ => len - (intOf i).toNat)
  case atStart => exact ⟨0, Nat.zero_le _, rfl, Lib.IsBuilderF.of (Lib.fresh_isBuilder _ _ w), (Below.refl _ w).alloc (Nat.le_refl _) _⟩
  case round =>
    obtain ⟨k, hk, rfl, hB, hbe⟩ := hrel
    have HB : Hid (Lib.IsBuilderF 42 5 w.heap.size w.heap.size (Lib.byteCells (wrt (rs.take k))) wr) := hB
    clear hB
    have hws := hbe.size
    by_cases hlt : k < len
    · obtain ⟨b, off, rfl, hbb, hc⟩ := HZ.out.2 (by omega)
      obtain ⟨c0, c1, c2⟩ := hc k hlt
      replace c0 := (hbe.cell (p := ⟨b, off + k * 3, none⟩) hbb).trans c0
      replace c1 := (hbe.cell (p := ⟨b, off + k * 3 + 1, none⟩) hbb).trans c1
      replace c2 := (hbe.cell (p := ⟨b, off + k * 3 + 2, none⟩) hbb).trans c2
      have HW : Hid (wrt (rs.take (k + 1)) = wrt (rs.take k) ++ wr1 (rs.getD k z3)) := wrt_take rs k (by rw [← HZ.out.1]; exact hlt)
      have hwl := wrt_len rs (k + 1)
      rw [HW.out, List.length_append] at hwl
      obtain ⟨x, hx⟩ : ∃ x, Hid (x = rs.getD k z3) := ⟨_, rfl⟩
      rw [← hx.out] at c0 c1 c2 HW hwl
      obtain ⟨x1, x2, x3⟩ := x
      simp only at c0 c1 c2
      unfold wr1 at hwl HW
      simp only [List.length_append, List.length_replicate, List.length_cons, List.length_nil] at hwl
      clear hc
      have hcl := clamp_le x1
      have hxl : x2.data.toList.length = x2.size := by rw [Array.length_toList]; rfl
      go_wp2_with fail
      rw [← clamp_eq]
      refine (repeat_any ⟨#[32]⟩ (clamp x1) _ (by omega) (by have e : (⟨#[32]⟩ : ByteArray).size = 1 := rfl; rw [e]; omega)).mono ?_
      rintro e w1 ⟨rfl, hb1⟩
      rw [rep32]
      have n0 : (wr.alloc (.cells #[.int .i64 x1, .string x2, .int .i64 x3] 31)).heap[wr.heap.size]? = some (.cells #[.int .i64 x1, .string x2, .int .i64 x3] 31 (0, 0)) := heap_alloc_new wr _
      have r1 : w1.heap[wr.heap.size]? = some (.cells #[.int .i64 x1, .string x2, .int .i64 x3] 31 (0, 0)) := (hb1.block _ (by simp)).trans n0
      have B1 := bld_later (HB.out.alloc (.cells #[.int .i64 x1, .string x2, .int .i64 x3] 31)) hb1
      have s1 := hb1.size
      rw [World.size_alloc] at s1 hb1
      have hbe1 : Below w.heap.size w w1 := (hbe.alloc hws _).trans (hb1.mono (by omega))
      have hltR : wr.heap.size ≠ w.heap.size := by
        have := HB.out
        rcases this with h | h <;> have := h.lt <;> omega
      have hnr : ∀ c fz, (Obj.cells #[.int .i64 x1, .string x2, .int .i64 x3] 31 (0, 0)) ≠ .cells c 5 fz := by intro c fz h; simp at h
      go_wp2_with fail
      refine (writeString_any w.heap.size w.heap.size _ (mk (List.replicate (clamp x1) 32)) _ B1 (by rw [Lib.byteCells_length, mk_size, List.length_replicate]; omega) (by omega)).mono ?_
      rintro e w2 ⟨rfl, B2, hb2, o2⟩
      rw [strCells_mk, ← byteCells_app] at B2
      have r2 := o2 _ _ r1 (by simpa using hltR) hnr
      have s2 := hb2.size
      have hbe2 := hbe1.trans hb2
      have q1 : w2.cell? ⟨wr.heap.size, 1, none⟩ = some (.string x2) := by rw [cell_of_row w2 wr.heap.size 1 _ _ (0, 0) r2]; rfl
      go_wp2_with fail
      refine (writeString_any w.heap.size w.heap.size _ x2 _ (.inr B2) (by rw [Lib.byteCells_length, List.length_append, List.length_replicate]; omega) (by omega)).mono ?_
      rintro e w3 ⟨rfl, B3, hb3, o3⟩
      have e3 : Lib.strCells x2 = Lib.byteCells x2.data.toList := rfl
      rw [e3, ← byteCells_app] at B3
      have s3 := hb3.size
      have hbe3 := hbe2.trans hb3
      go_wp2_with fail
      refine (writeByte_any w.heap.size w.heap.size _ 10 _ (.inr B3) (by rw [Lib.byteCells_length, List.length_append, List.length_append, List.length_replicate]; omega) (by omega)).mono ?_
      rintro e w4 ⟨rfl, B4, hb4, o4⟩
      have B5 : Lib.IsBuilderF 42 5 w.heap.size w.heap.size (Lib.byteCells (wrt (rs.take (k + 1)))) w4 := by
        rw [HW.out]
        have e4 : Lib.byteCells (wrt (rs.take k) ++ (List.replicate (clamp x1) 32 ++ x2.data.toList ++ [10])) = Lib.byteCells (wrt (rs.take k) ++ List.replicate (clamp x1) 32 ++ x2.data.toList) ++ [.int .u8 10] := by
          simp [Lib.byteCells]
        rw [e4]
        exact .inr B4
      clear B1 B2 B3 B4 o2 o3 o4 r1 r2 n0 hnr
      have hbe4 := hbe3.trans hb4
      go_wp2
      go_roundw
      case rel => exact ⟨k + 1, by omega, by go_num, B5, hbe4⟩
      case measure => (simp [intOf] <;> omega)
    · have HE : Hid (rs.take k = rs) := List.take_of_length_le (by rw [← HZ.out.1]; omega)
      have hB := HB.out
      rw [HE.out] at hB
      go_wp2_with fail
      refine (string_any w.heap.size w.heap.size (wrt rs) _ hB hws).mono ?_
      rintro e w1 ⟨rfl, _, hb1, _⟩
      go_wp2
      go_ret
      exact ⟨rfl, hbe.trans hb1⟩

end Go.Proofs.YtgopjpihobekjaaDoor.Rws
