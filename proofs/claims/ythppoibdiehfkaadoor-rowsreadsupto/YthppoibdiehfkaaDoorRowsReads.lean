/- The walk of RowsReads. -/
import Derived.Test.YthppoibdiehfkaaDoorRowsOut
import Derived.Test.YthppoibdiehfkaaDoorRowsRread
namespace Go.Proofs.YthppoibdiehfkaaDoor.Rws
open Utf
open Go.RowKit
set_option linter.unusedSimpArgs false
set_option linter.unusedVariables false
set_option maxRecDepth 100000

theorem rreadO_any (s : List UInt8) (w : World) : Calls Tryd.prog 11 #[.string (mk s)] w fun e w' => ReadOut s w e w' := by
  by_cases hs : s.length ≤ 65536
  · exact (rread_any s hs w).mono fun e w' h => out_short hs h
  · exact (rread_long (mk s) (by rw [mk_size]; omega) w).mono fun e w' h => out_long (by omega) h

set_option maxHeartbeats 2000000 in
theorem reads_any (s : ByteArray) (w : World) (hs : s.size ≤ 1048576) : Calls Tryd.prog 3 #[.string s] w fun e w' => e = .returned (.bool true) ∧ Below w.heap.size w w' := by
  obtain ⟨l, rfl⟩ := mk_ex s
  rw [mk_size] at hs
  have hsz := mk_size l
  by_cases hmid : 20000 < l.length ∧ l.length ≤ 65536
  · obtain ⟨h1, h2⟩ := hmid
    have h1' : (20000 : Int) < (l.length : Int) := by omega
    have h2' : (l.length : Int) ≤ 65536 := by omega
    go_enter Tryd.func3, Tryd.ntmps3
    go_wp2_with fail
    refine (alive_any _).mono ?_
    rintro e w1 ⟨rfl, hb⟩
    go_wp2
    go_ret
    exact ⟨rfl, hb⟩
  · have hout := outR_len l
    have hlt : 20000 < l.length → ¬ (l.length : Int) ≤ 65536 := by intro h1 h2; exact hmid ⟨h1, by omega⟩
    have HLT : Hid (20000 < l.length → ¬ (l.length : Int) ≤ 65536) := hlt
    clear hlt hmid
    go_enter Tryd.func3, Tryd.ntmps3
    by_cases h20 : 20000 < l.length
    · have h1' : (20000 : Int) < (l.length : Int) := by omega
      have h2' := HLT.out h20
      go_wp2_with fail
      refine (readO_any l _).mono ?_
      rintro e w1 ⟨a, cap, rfl, hat, _, _, hb1⟩
      obtain ⟨f1, hf1⟩ : ∃ f1, Hid (f1 = (outF l).1) := ⟨_, rfl⟩
      obtain ⟨f2, hf2⟩ : ∃ f2, Hid (f2 = (outF l).2) := ⟨_, rfl⟩
      rw [← hf1.out, ← hf2.out]
      go_wp2_with fail
      refine (rreadO_any l _).mono ?_
      rintro e w2 ⟨a', cap', rfl, hat', _, _, hb2⟩
      rw [← hf1.out, ← hf2.out]
      have n1 := cell_new2 w1 (.int .i64 f1) (.int .i64 f2) 26
      have c0 := (hb2.cell (p := ⟨w1.heap.size, 0, none⟩) (by simp)).trans n1.1
      have c1 := (hb2.cell (p := ⟨w1.heap.size, 1, none⟩) (by simp)).trans n1.2
      have h2s := hb2.size
      rw [World.size_alloc] at h2s hb2
      go_wp2_with fail
      refine (lines_in l (by omega) _).mono ?_
      rintro e w3 ⟨v3, rfl, o3, hb3⟩
      obtain ⟨a3, cap3, rfl, at3⟩ := strs_own o3
      clear o3
      go_wp2_with fail
      refine (rlines_any l (by omega) _).mono ?_
      rintro e w4 ⟨v4, rfl, o4, hb4⟩
      obtain ⟨a4, cap4, rfl, at4⟩ := strs_own o4
      clear o4
      have h3s := hb3.size
      have h4s := hb4.size
      rw [World.size_alloc] at h3s hb3
      have hll : (lns l).length ≤ 1048576 := Nat.le_trans (lns_len _ l (Nat.le_refl _)) hs
      go_wp2_with fail
      refine (rtexts_same _ _ _ _ _ (lns l) _ (at3.later hb4 (Nat.le_refl _)) at4 (by omega)).mono ?_
      rintro e w5 ⟨rfl, hb5⟩
      have h5s := hb5.size
      have hatB : RowsAt w5 a (outR l).length (outR l) := (((hat.later ((Below.refl w1.heap.size w1).alloc (Nat.le_refl _) _) (Nat.le_refl _)).later hb2 (by simp)).later (((Below.refl w2.heap.size w2).alloc (Nat.le_refl _) (.cells #[.int .i64 f1, .int .i64 f2] 26)).trans ((hb3.mono (by omega)).trans ((hb4.mono (by omega)).trans (hb5.mono (by omega))))) (Nat.le_refl _))
      have hatB' : RowsAt w5 a' (outR l).length (outR l) := (hat'.later (((Below.refl w2.heap.size w2).alloc (Nat.le_refl _) (.cells #[.int .i64 f1, .int .i64 f2] 26)).trans ((hb3.mono (by omega)).trans ((hb4.mono (by omega)).trans (hb5.mono (by omega))))) (Nat.le_refl _))
      go_wp2_with fail
      refine (rsame_any _ _ _ _ _ _ (outR l) (outR l) _ hatB hatB' (by omega) (by omega)).mono ?_
      rintro e w6 ⟨rfl, hb6⟩
      rw [same_self]
      have n2 := cell_new2 w2 (.int .i64 f1) (.int .i64 f2) 26
      have hB26 : Below w2.heap.size w2 w6 := ((Below.refl w2.heap.size w2).alloc (Nat.le_refl _) (.cells #[.int .i64 f1, .int .i64 f2] 26)).trans ((hb3.mono (by omega)).trans ((hb4.mono (by omega)).trans ((hb5.mono (by omega)).trans (hb6.mono (by omega)))))
      have hB36 : Below (w2.heap.size + 1) (w2.alloc (.cells #[.int .i64 f1, .int .i64 f2] 26)) w6 := hb3.trans ((hb4.mono (by omega)).trans ((hb5.mono (by omega)).trans (hb6.mono (by omega))))
      have d0 := (hB26.cell (p := ⟨w1.heap.size, 0, none⟩) (by simp; omega)).trans c0
      have d1 := (hB26.cell (p := ⟨w1.heap.size, 1, none⟩) (by simp; omega)).trans c1
      have d2 := (hB36.cell (p := ⟨w2.heap.size, 0, none⟩) (by simp)).trans n2.1
      have d3 := (hB36.cell (p := ⟨w2.heap.size, 1, none⟩) (by simp)).trans n2.2
      have he := eql_fault f1 f1 f2 f2
      have hee : (f1 == f1 && f2 == f2) = true := by simp
      rw [hee] at he
      clear hee n1 n2 c0 c1 hat hat' at3 at4
      go_wp2_with fail
      refine (alive_any _).mono ?_
      rintro e w7 ⟨rfl, hb7⟩
      go_wp2
      go_ret
      refine ⟨rfl, ?_⟩
      have h6s := hB26.size
      have t1 : Below w.heap.size w w2 := hb1.trans ((((Below.refl w1.heap.size w1).alloc (Nat.le_refl _) _).trans (hb2.mono (by omega))).mono hb1.size)
      have h1s := hb1.size
      exact t1.trans ((hB26.trans (hb7.mono (by omega))).mono (by omega))
    · have h1' : ¬ (20000 : Int) < (l.length : Int) := by omega
      go_wp2_with fail
      refine (readO_any l _).mono ?_
      rintro e w1 ⟨a, cap, rfl, hat, _, _, hb1⟩
      obtain ⟨f1, hf1⟩ : ∃ f1, Hid (f1 = (outF l).1) := ⟨_, rfl⟩
      obtain ⟨f2, hf2⟩ : ∃ f2, Hid (f2 = (outF l).2) := ⟨_, rfl⟩
      rw [← hf1.out, ← hf2.out]
      go_wp2_with fail
      refine (rreadO_any l _).mono ?_
      rintro e w2 ⟨a', cap', rfl, hat', _, _, hb2⟩
      rw [← hf1.out, ← hf2.out]
      have n1 := cell_new2 w1 (.int .i64 f1) (.int .i64 f2) 26
      have c0 := (hb2.cell (p := ⟨w1.heap.size, 0, none⟩) (by simp)).trans n1.1
      have c1 := (hb2.cell (p := ⟨w1.heap.size, 1, none⟩) (by simp)).trans n1.2
      have h2s := hb2.size
      rw [World.size_alloc] at h2s hb2
      go_wp2_with fail
      refine (lines_in l (by omega) _).mono ?_
      rintro e w3 ⟨v3, rfl, o3, hb3⟩
      obtain ⟨a3, cap3, rfl, at3⟩ := strs_own o3
      clear o3
      go_wp2_with fail
      refine (rlines_any l (by omega) _).mono ?_
      rintro e w4 ⟨v4, rfl, o4, hb4⟩
      obtain ⟨a4, cap4, rfl, at4⟩ := strs_own o4
      clear o4
      have h3s := hb3.size
      have h4s := hb4.size
      rw [World.size_alloc] at h3s hb3
      have hll : (lns l).length ≤ 1048576 := Nat.le_trans (lns_len _ l (Nat.le_refl _)) hs
      go_wp2_with fail
      refine (rtexts_same _ _ _ _ _ (lns l) _ (at3.later hb4 (Nat.le_refl _)) at4 (by omega)).mono ?_
      rintro e w5 ⟨rfl, hb5⟩
      have h5s := hb5.size
      have hatB : RowsAt w5 a (outR l).length (outR l) := (((hat.later ((Below.refl w1.heap.size w1).alloc (Nat.le_refl _) _) (Nat.le_refl _)).later hb2 (by simp)).later (((Below.refl w2.heap.size w2).alloc (Nat.le_refl _) (.cells #[.int .i64 f1, .int .i64 f2] 26)).trans ((hb3.mono (by omega)).trans ((hb4.mono (by omega)).trans (hb5.mono (by omega))))) (Nat.le_refl _))
      have hatB' : RowsAt w5 a' (outR l).length (outR l) := (hat'.later (((Below.refl w2.heap.size w2).alloc (Nat.le_refl _) (.cells #[.int .i64 f1, .int .i64 f2] 26)).trans ((hb3.mono (by omega)).trans ((hb4.mono (by omega)).trans (hb5.mono (by omega))))) (Nat.le_refl _))
      go_wp2_with fail
      refine (rsame_any _ _ _ _ _ _ (outR l) (outR l) _ hatB hatB' (by omega) (by omega)).mono ?_
      rintro e w6 ⟨rfl, hb6⟩
      rw [same_self]
      have n2 := cell_new2 w2 (.int .i64 f1) (.int .i64 f2) 26
      have hB26 : Below w2.heap.size w2 w6 := ((Below.refl w2.heap.size w2).alloc (Nat.le_refl _) (.cells #[.int .i64 f1, .int .i64 f2] 26)).trans ((hb3.mono (by omega)).trans ((hb4.mono (by omega)).trans ((hb5.mono (by omega)).trans (hb6.mono (by omega)))))
      have hB36 : Below (w2.heap.size + 1) (w2.alloc (.cells #[.int .i64 f1, .int .i64 f2] 26)) w6 := hb3.trans ((hb4.mono (by omega)).trans ((hb5.mono (by omega)).trans (hb6.mono (by omega))))
      have d0 := (hB26.cell (p := ⟨w1.heap.size, 0, none⟩) (by simp; omega)).trans c0
      have d1 := (hB26.cell (p := ⟨w1.heap.size, 1, none⟩) (by simp; omega)).trans c1
      have d2 := (hB36.cell (p := ⟨w2.heap.size, 0, none⟩) (by simp)).trans n2.1
      have d3 := (hB36.cell (p := ⟨w2.heap.size, 1, none⟩) (by simp)).trans n2.2
      have he := eql_fault f1 f1 f2 f2
      have hee : (f1 == f1 && f2 == f2) = true := by simp
      rw [hee] at he
      clear hee n1 n2 c0 c1 hat hat' at3 at4
      go_wp2_with fail
      refine (alive_any _).mono ?_
      rintro e w7 ⟨rfl, hb7⟩
      go_wp2
      go_ret
      refine ⟨rfl, ?_⟩
      have h6s := hB26.size
      have t1 : Below w.heap.size w w2 := hb1.trans ((((Below.refl w1.heap.size w1).alloc (Nat.le_refl _) _).trans (hb2.mono (by omega))).mono hb1.size)
      have h1s := hb1.size
      exact t1.trans ((hB26.trans (hb7.mono (by omega))).mono (by omega))

end Go.Proofs.YthppoibdiehfkaaDoor.Rws
