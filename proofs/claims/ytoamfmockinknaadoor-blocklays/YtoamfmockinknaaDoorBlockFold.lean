/- block.Fold, by its contract. -/
import Derived.Test.YtoamfmockinknaaDoorBlockLeaf
namespace Go.Proofs.YtoamfmockinknaaDoor.Blk
open Go.RowKit
open Rws (mk mk_data mk_size mk_of mk_ext mk_get mk_inj)
set_option linter.unusedSimpArgs false
set_option linter.unusedVariables false
set_option maxRecDepth 100000

theorem foC_len (g : Bool) (e : Nat) (f : Bool) (x : Ln) (r : List Ln) : x.length ≤ (foC g e f (x :: r)).length := by
  rw [foC]
  split
  · rename_i h; rw [h]; exact Nat.zero_le _
  · rw [List.length_append, List.length_append]; omega
theorem flat_head (x : Ln) (h : x ≠ []) : flat x = !(x.head? == some 32) := by
  cases x with
  | nil => exact absurd rfl h
  | cons b r => simp [flat]; rfl

set_option maxHeartbeats 1000000 in
theorem fold_any (a : Option Addr) (len cap : Nat) (xs : List Ln) (w : World) (h : StrsAt w a len xs) (hl : len ≤ 140737488355327) (hb : (fld xs).length ≤ 140737488355328) :
    Calls Tryd.prog 14 #[.slice a len cap] w fun e w' => e = .returned (.string (mk (fld xs))) ∧ Below w.heap.size w w' := by
  have HZ : Hid (StrsAt w a len xs) := h
  clear h
  go_enter Tryd.func14, Tryd.ntmps14
  go_wp2
  go_loopw [4, 5, 11] (fun ue uf ui wr => ∃ (k e : Nat) (f : Bool) (T : Ln), k ≤ len ∧ ui = .int .i64 (k : Int) ∧ ue = .int .i64 (e : Int) ∧ uf = .bool f ∧ e ≤ k ∧ (k = 0 → e = 0 ∧ f = false) ∧ Lib.IsBuilderF 62 5 w.heap.size w.heap.size (Lib.byteCells T) wr ∧ Below w.heap.size w wr ∧ fld xs = T ++ foC (decide (0 < k)) e f (xs.drop k)) (fun _ _ ui _ => len - (intOf ui).toNat)
  case atStart => exact ⟨0, 0, false, [], Nat.zero_le _, rfl, rfl, rfl, Nat.le_refl _, fun _ => ⟨rfl, rfl⟩, Lib.IsBuilderF.of (Lib.fresh_isBuilder _ _ w), (Below.refl _ w).alloc (Nat.le_refl _) _, (foC_all xs).symm⟩
  case round =>
    obtain ⟨k, e, f, T, hk, rfl, rfl, rfl, hek, hk0, hB0, hbe1, hF⟩ := hrel
    have HB : Hid (Lib.IsBuilderF 62 5 w.heap.size w.heap.size (Lib.byteCells T) wr) := hB0
    have HK0 : Hid (k = 0 → e = 0 ∧ f = false) := hk0
    have hF0 : Hid (fld xs = T ++ foC (decide (0 < k)) e f (xs.drop k)) := hF
    clear hF hk0 hB0
    have hws := hbe1.size
    by_cases hlt : k < len
    · obtain ⟨b, off, rfl, hbb, hc⟩ := HZ.out.2 (by omega)
      have c0 := (hbe1.cell (p := ⟨b, off + k, none⟩) hbb).trans (hc k hlt)
      have HD : Hid (xs.drop k = xs.getD k [] :: xs.drop (k + 1)) := drop_getD xs k (by rw [← HZ.out.1]; exact hlt)
      obtain ⟨x, hx⟩ : ∃ x, x = xs.getD k [] := ⟨_, rfl⟩
      rw [← hx] at c0 HD
      clear hx hc
      have hxl : x.length ≤ 140737488355328 := by
        have h1 := foC_len (decide (0 < k)) e f x (xs.drop (k + 1))
        have h2 := hb
        rw [hF0.out, HD.out, List.length_append] at h2
        omega
      rcases Nat.eq_zero_or_pos k with hk0 | hk0
      · obtain ⟨he0, hf0⟩ := HK0.out hk0
        have HF : Hid (fld xs = T ++ foC false 0 false (x :: xs.drop (k + 1))) := by rw [hF0.out, HD.out, he0, hf0, hk0]; exact rfl
        subst he0 hf0
        clear HD hF0 HK0
        subst hk0
        rw [Nat.add_zero] at c0
        by_cases hx0 : x = []
        · have HE : Hid (fld xs = T ++ foC true 0 false (xs.drop (0 + 1))) := by rw [HF.out, foC, if_pos hx0]; exact rfl
          rw [hx0, show mk [] = (⟨#[]⟩ : ByteArray) from rfl] at c0
          go_wp2
          go_roundw
          case rel => exact ⟨0 + 1, 0, false, T, by omega, by go_num, by go_num, rfl, by omega, fun h => absurd h (by omega), HB.out, hbe1, by rw [show decide (0 < 0 + 1) = true from by simp]; exact HE.out⟩
          case measure => (simp [intOf] <;> omega)
        have hq : ((mk x).toList == []) = false := by rw [mk_nil_eq]; simpa using hx0
        have hfl : flat x = !(x.head? == some 32) := flat_head x hx0
        have HE : Hid (fld xs = T ++ (btw 0 (false && flat x) ++ x ++ foC true 0 (flat x) (xs.drop (0 + 1)))) := by rw [HF.out, foC, if_neg hx0]; exact rfl
        have hbl := hb
        rw [HE.out, List.length_append, List.length_append, List.length_append] at hbl
        obtain ⟨p, hp⟩ : ∃ p, p = (x.head? == some 32) := ⟨_, rfl⟩
        have HP : Hid (p = (x.head? == some 32)) := hp
        rw [← hp] at hfl
        rw [hfl] at HE hbl
        clear hp hfl HF
        cases p
        · go_wp2_with (first | (go_at_call 27; refine (hasPrefix_any x 32 _ hxl).mono ?_; rintro e' w' ⟨rfl, rfl⟩; rw [← HP.out]))
          have hbt := between_any 0 false wr (by intro h; first | omega | (cases h)) (by omega)
          rw [show (false && !false) = false from rfl, show (!false) = true from rfl] at HE
          rw [show (false && !false) = false from rfl] at hbl
          rw [show ((0 : Nat) : Int) = 0 from rfl] at hbt
          refine hbt.mono ?_
          clear hbt
          rintro e' w1 ⟨rfl, hb1⟩
          have B1 := bld_later HB.out hb1
          have s1 := hb1.size
          have hbe2 : Below w.heap.size w w1 := hbe1.trans (hb1.mono hws)
          go_wp2_with fail
          refine (writeString_any w.heap.size w.heap.size _ (mk (btw 0 false)) _ B1 (by rw [Lib.byteCells_length, mk_size]; omega) (by omega)).mono ?_
          rintro e' w2 ⟨rfl, B2, hb2, o2⟩
          rw [strCells_mk, ← byteCells_app] at B2
          have hbe3 := hbe2.trans hb2
          have s2 := hb2.size
          clear o2 B1
          go_wp2_with fail
          refine (writeString_any w.heap.size w.heap.size _ (mk x) _ (.inr B2) (by rw [Lib.byteCells_length, mk_size, List.length_append]; omega) (by omega)).mono ?_
          rintro e' w3 ⟨rfl, B3, hb3, o3⟩
          rw [strCells_mk, ← byteCells_app] at B3
          have hbe4 := hbe3.trans hb3
          clear o3 B2
          go_wp2
          go_roundw
          case rel => exact ⟨0 + 1, 0, true, T ++ btw 0 false ++ x, by omega, by go_num, rfl, rfl, by omega, fun h => absurd h (by omega), .inr B3, hbe4, by rw [HE.out, show decide (0 < 0 + 1) = true from by simp]; simp only [List.append_assoc]⟩
          case measure => (simp [intOf] <;> omega)
        · go_wp2_with (first | (go_at_call 27; refine (hasPrefix_any x 32 _ hxl).mono ?_; rintro e' w' ⟨rfl, rfl⟩; rw [← HP.out]))
          have hbt := between_any 0 false wr (by intro h; first | omega | (cases h)) (by omega)
          rw [show (false && !true) = false from rfl, show (!true) = false from rfl] at HE
          rw [show (false && !true) = false from rfl] at hbl
          rw [show ((0 : Nat) : Int) = 0 from rfl] at hbt
          refine hbt.mono ?_
          clear hbt
          rintro e' w1 ⟨rfl, hb1⟩
          have B1 := bld_later HB.out hb1
          have s1 := hb1.size
          have hbe2 : Below w.heap.size w w1 := hbe1.trans (hb1.mono hws)
          go_wp2_with fail
          refine (writeString_any w.heap.size w.heap.size _ (mk (btw 0 false)) _ B1 (by rw [Lib.byteCells_length, mk_size]; omega) (by omega)).mono ?_
          rintro e' w2 ⟨rfl, B2, hb2, o2⟩
          rw [strCells_mk, ← byteCells_app] at B2
          have hbe3 := hbe2.trans hb2
          have s2 := hb2.size
          clear o2 B1
          go_wp2_with fail
          refine (writeString_any w.heap.size w.heap.size _ (mk x) _ (.inr B2) (by rw [Lib.byteCells_length, mk_size, List.length_append]; omega) (by omega)).mono ?_
          rintro e' w3 ⟨rfl, B3, hb3, o3⟩
          rw [strCells_mk, ← byteCells_app] at B3
          have hbe4 := hbe3.trans hb3
          clear o3 B2
          go_wp2
          go_roundw
          case rel => exact ⟨0 + 1, 0, false, T ++ btw 0 false ++ x, by omega, by go_num, rfl, rfl, by omega, fun h => absurd h (by omega), .inr B3, hbe4, by rw [HE.out, show decide (0 < 0 + 1) = true from by simp]; simp only [List.append_assoc]⟩
          case measure => (simp [intOf] <;> omega)
      · have HF : Hid (fld xs = T ++ foC true e f (x :: xs.drop (k + 1))) := by rw [hF0.out, HD.out, show decide (0 < k) = true from by simpa using hk0]; exact rfl
        clear HD hF0 HK0
        by_cases hx0 : x = []
        · have HE : Hid (fld xs = T ++ foC true (e + 1) f (xs.drop (k + 1))) := by rw [HF.out, foC, if_pos hx0]; exact rfl
          rw [hx0, show mk [] = (⟨#[]⟩ : ByteArray) from rfl] at c0
          go_wp2
          go_roundw
          case rel => exact ⟨k + 1, (e + 1), f, T, by omega, by go_num, by go_num, rfl, by omega, fun h => absurd h (by omega), HB.out, hbe1, by rw [show decide (0 < k + 1) = true from by simp]; exact HE.out⟩
          case measure => (simp [intOf] <;> omega)
        have hq : ((mk x).toList == []) = false := by rw [mk_nil_eq]; simpa using hx0
        have hfl : flat x = !(x.head? == some 32) := flat_head x hx0
        have HE : Hid (fld xs = T ++ (btw (e + 1) (f && flat x) ++ x ++ foC true 0 (flat x) (xs.drop (k + 1)))) := by rw [HF.out, foC, if_neg hx0]; exact rfl
        have hbl := hb
        rw [HE.out, List.length_append, List.length_append, List.length_append] at hbl
        obtain ⟨p, hp⟩ : ∃ p, p = (x.head? == some 32) := ⟨_, rfl⟩
        have HP : Hid (p = (x.head? == some 32)) := hp
        rw [← hp] at hfl
        rw [hfl] at HE hbl
        clear hp hfl HF
        cases f
        · cases p
          · go_wp2_with (first | (go_at_call 27; refine (hasPrefix_any x 32 _ hxl).mono ?_; rintro e' w' ⟨rfl, rfl⟩; rw [← HP.out]))
            have hbt := between_any (e + 1) false wr (by intro h; first | omega | (cases h)) (by omega)
            rw [show (false && !false) = false from rfl, show (!false) = true from rfl] at HE
            rw [show (false && !false) = false from rfl] at hbl
            rw [show ((e + 1 : Nat) : Int) = (e : Int) + 1 by omega] at hbt
            refine hbt.mono ?_
            clear hbt
            rintro e' w1 ⟨rfl, hb1⟩
            have B1 := bld_later HB.out hb1
            have s1 := hb1.size
            have hbe2 : Below w.heap.size w w1 := hbe1.trans (hb1.mono hws)
            go_wp2_with fail
            refine (writeString_any w.heap.size w.heap.size _ (mk (btw (e + 1) false)) _ B1 (by rw [Lib.byteCells_length, mk_size]; omega) (by omega)).mono ?_
            rintro e' w2 ⟨rfl, B2, hb2, o2⟩
            rw [strCells_mk, ← byteCells_app] at B2
            have hbe3 := hbe2.trans hb2
            have s2 := hb2.size
            clear o2 B1
            go_wp2_with fail
            refine (writeString_any w.heap.size w.heap.size _ (mk x) _ (.inr B2) (by rw [Lib.byteCells_length, mk_size, List.length_append]; omega) (by omega)).mono ?_
            rintro e' w3 ⟨rfl, B3, hb3, o3⟩
            rw [strCells_mk, ← byteCells_app] at B3
            have hbe4 := hbe3.trans hb3
            clear o3 B2
            go_wp2
            go_roundw
            case rel => exact ⟨k + 1, 0, true, T ++ btw (e + 1) false ++ x, by omega, by go_num, rfl, rfl, by omega, fun h => absurd h (by omega), .inr B3, hbe4, by rw [HE.out, show decide (0 < k + 1) = true from by simp]; simp only [List.append_assoc]⟩
            case measure => (simp [intOf] <;> omega)
          · go_wp2_with (first | (go_at_call 27; refine (hasPrefix_any x 32 _ hxl).mono ?_; rintro e' w' ⟨rfl, rfl⟩; rw [← HP.out]))
            have hbt := between_any (e + 1) false wr (by intro h; first | omega | (cases h)) (by omega)
            rw [show (false && !true) = false from rfl, show (!true) = false from rfl] at HE
            rw [show (false && !true) = false from rfl] at hbl
            rw [show ((e + 1 : Nat) : Int) = (e : Int) + 1 by omega] at hbt
            refine hbt.mono ?_
            clear hbt
            rintro e' w1 ⟨rfl, hb1⟩
            have B1 := bld_later HB.out hb1
            have s1 := hb1.size
            have hbe2 : Below w.heap.size w w1 := hbe1.trans (hb1.mono hws)
            go_wp2_with fail
            refine (writeString_any w.heap.size w.heap.size _ (mk (btw (e + 1) false)) _ B1 (by rw [Lib.byteCells_length, mk_size]; omega) (by omega)).mono ?_
            rintro e' w2 ⟨rfl, B2, hb2, o2⟩
            rw [strCells_mk, ← byteCells_app] at B2
            have hbe3 := hbe2.trans hb2
            have s2 := hb2.size
            clear o2 B1
            go_wp2_with fail
            refine (writeString_any w.heap.size w.heap.size _ (mk x) _ (.inr B2) (by rw [Lib.byteCells_length, mk_size, List.length_append]; omega) (by omega)).mono ?_
            rintro e' w3 ⟨rfl, B3, hb3, o3⟩
            rw [strCells_mk, ← byteCells_app] at B3
            have hbe4 := hbe3.trans hb3
            clear o3 B2
            go_wp2
            go_roundw
            case rel => exact ⟨k + 1, 0, false, T ++ btw (e + 1) false ++ x, by omega, by go_num, rfl, rfl, by omega, fun h => absurd h (by omega), .inr B3, hbe4, by rw [HE.out, show decide (0 < k + 1) = true from by simp]; simp only [List.append_assoc]⟩
            case measure => (simp [intOf] <;> omega)
        · cases p
          · go_wp2_with (first | (go_at_call 27; refine (hasPrefix_any x 32 _ hxl).mono ?_; rintro e' w' ⟨rfl, rfl⟩; rw [← HP.out]))
            have hbt := between_any (e + 1) true wr (by intro h; first | omega | (cases h)) (by omega)
            rw [show (true && !false) = true from rfl, show (!false) = true from rfl] at HE
            rw [show (true && !false) = true from rfl] at hbl
            rw [show ((e + 1 : Nat) : Int) = (e : Int) + 1 by omega] at hbt
            refine hbt.mono ?_
            clear hbt
            rintro e' w1 ⟨rfl, hb1⟩
            have B1 := bld_later HB.out hb1
            have s1 := hb1.size
            have hbe2 : Below w.heap.size w w1 := hbe1.trans (hb1.mono hws)
            go_wp2_with fail
            refine (writeString_any w.heap.size w.heap.size _ (mk (btw (e + 1) true)) _ B1 (by rw [Lib.byteCells_length, mk_size]; omega) (by omega)).mono ?_
            rintro e' w2 ⟨rfl, B2, hb2, o2⟩
            rw [strCells_mk, ← byteCells_app] at B2
            have hbe3 := hbe2.trans hb2
            have s2 := hb2.size
            clear o2 B1
            go_wp2_with fail
            refine (writeString_any w.heap.size w.heap.size _ (mk x) _ (.inr B2) (by rw [Lib.byteCells_length, mk_size, List.length_append]; omega) (by omega)).mono ?_
            rintro e' w3 ⟨rfl, B3, hb3, o3⟩
            rw [strCells_mk, ← byteCells_app] at B3
            have hbe4 := hbe3.trans hb3
            clear o3 B2
            go_wp2
            go_roundw
            case rel => exact ⟨k + 1, 0, true, T ++ btw (e + 1) true ++ x, by omega, by go_num, rfl, rfl, by omega, fun h => absurd h (by omega), .inr B3, hbe4, by rw [HE.out, show decide (0 < k + 1) = true from by simp]; simp only [List.append_assoc]⟩
            case measure => (simp [intOf] <;> omega)
          · go_wp2_with (first | (go_at_call 27; refine (hasPrefix_any x 32 _ hxl).mono ?_; rintro e' w' ⟨rfl, rfl⟩; rw [← HP.out]))
            have hbt := between_any (e + 1) false wr (by intro h; first | omega | (cases h)) (by omega)
            rw [show (true && !true) = false from rfl, show (!true) = false from rfl] at HE
            rw [show (true && !true) = false from rfl] at hbl
            rw [show ((e + 1 : Nat) : Int) = (e : Int) + 1 by omega] at hbt
            refine hbt.mono ?_
            clear hbt
            rintro e' w1 ⟨rfl, hb1⟩
            have B1 := bld_later HB.out hb1
            have s1 := hb1.size
            have hbe2 : Below w.heap.size w w1 := hbe1.trans (hb1.mono hws)
            go_wp2_with fail
            refine (writeString_any w.heap.size w.heap.size _ (mk (btw (e + 1) false)) _ B1 (by rw [Lib.byteCells_length, mk_size]; omega) (by omega)).mono ?_
            rintro e' w2 ⟨rfl, B2, hb2, o2⟩
            rw [strCells_mk, ← byteCells_app] at B2
            have hbe3 := hbe2.trans hb2
            have s2 := hb2.size
            clear o2 B1
            go_wp2_with fail
            refine (writeString_any w.heap.size w.heap.size _ (mk x) _ (.inr B2) (by rw [Lib.byteCells_length, mk_size, List.length_append]; omega) (by omega)).mono ?_
            rintro e' w3 ⟨rfl, B3, hb3, o3⟩
            rw [strCells_mk, ← byteCells_app] at B3
            have hbe4 := hbe3.trans hb3
            clear o3 B2
            go_wp2
            go_roundw
            case rel => exact ⟨k + 1, 0, false, T ++ btw (e + 1) false ++ x, by omega, by go_num, rfl, rfl, by omega, fun h => absurd h (by omega), .inr B3, hbe4, by rw [HE.out, show decide (0 < k + 1) = true from by simp]; simp only [List.append_assoc]⟩
            case measure => (simp [intOf] <;> omega)
    · have HE : Hid (fld xs = T ++ List.replicate e 10) := by rw [hF0.out, List.drop_of_length_le (by rw [← HZ.out.1]; omega)]; cases hq : decide (0 < k) <;> exact rfl
      have hbl := hb
      rw [HE.out, List.length_append, List.length_replicate] at hbl
      clear hF0 HK0
      go_wp2_with fail
      refine (rep_any 10 e _ (by omega)).mono ?_
      rintro e' w1 ⟨rfl, hb1⟩
      have B1 := bld_later HB.out hb1
      have s1 := hb1.size
      have hbe2 : Below w.heap.size w w1 := hbe1.trans (hb1.mono hws)
      go_wp2_with fail
      refine (writeString_any w.heap.size w.heap.size _ (mk (List.replicate e 10)) _ B1 (by rw [Lib.byteCells_length, mk_size, List.length_replicate]; omega) (by omega)).mono ?_
      rintro e' w2 ⟨rfl, B2, hb2, o2⟩
      rw [strCells_mk, ← byteCells_app, ← HE.out] at B2
      have hbe3 := hbe2.trans hb2
      have s2 := hb2.size
      go_wp2_with fail
      refine (string_any w.heap.size w.heap.size (fld xs) _ (.inr B2) (by omega)).mono ?_
      rintro e' w3 ⟨rfl, _, hb3, _⟩
      go_wp2
      go_ret
      exact ⟨rfl, hbe3.trans hb3⟩

end Go.Proofs.YtoamfmockinknaaDoor.Blk
