/- The walk of BlockEnds. -/
import Derived.Test.YtoamfmockinknaaBlockTake
import Derived.Test.YtoamfmockinknaaBlockAlive
import Derived.Test.YtoamfmockinknaaBlockWide
import Derived.Test.YtoamfmockinknaaBlockArg
import Derived.Lib.ConvBytes
namespace Go.Proofs.Ytoamfmockinknaa.Blk
open Go.RowKit
open Rws (mk mk_data mk_size mk_of mk_ext mk_get mk_inj)
set_option linter.unusedSimpArgs false
set_option linter.unusedVariables false
set_option maxRecDepth 100000

/-- the three ends: one text, and feeds behind it -/
theorem ends_ex (f : Bool) (R : List Ln ⊕ Int) (hR : ∀ ls, R = .inl ls → ls.length ≤ 1048576 ∧ (joinW 10 (trm ls)).length ≤ 1000000000 ∧ (fld (trm ls)).length ≤ 1000000000) :
    ∃ (P : Ln) (i m : Nat) (n e1 e2 : Int), i ≤ 1 ∧ m ≤ 1048576 ∧ P.length ≤ 1000000000 ∧
      takV f 1 R = .tuple #[.string (mk P), .int .i64 n, .agg #[.int .i64 e1, .int .i64 e2]] ∧
      takV f 0 R = .tuple #[.string (mk (P ++ List.replicate i 10)), .int .i64 n, .agg #[.int .i64 e1, .int .i64 e2]] ∧
      takV f 2 R = .tuple #[.string (mk (P ++ List.replicate (i + m) 10)), .int .i64 n, .agg #[.int .i64 e1, .int .i64 e2]] := by
  cases R with
  | inl ls =>
    obtain ⟨h1, h2, h3⟩ := hR ls rfl
    refine ⟨body f (trm ls), (if 0 < (trm ls).length then 1 else 0), ls.length - (trm ls).length, (ls.length : Int), 0, 0, by split <;> omega, by omega, ?_, ?_, ?_, ?_⟩
    · unfold body; split
      · exact h3
      · exact h2
    · show Value.tuple #[.string (mk (txt f 1 ls)), _, _] = _
      have e : txt f 1 ls = body f (trm ls) := by unfold txt ed; simp
      rw [e]
    · show Value.tuple #[.string (mk (txt f 0 ls)), _, _] = _
      have e : txt f 0 ls = body f (trm ls) ++ List.replicate (if 0 < (trm ls).length then 1 else 0) 10 := by unfold txt ed; simp
      rw [e]
    · show Value.tuple #[.string (mk (txt f 2 ls)), _, _] = _
      have e : txt f 2 ls = body f (trm ls) ++ List.replicate ((if 0 < (trm ls).length then 1 else 0) + (ls.length - (trm ls).length)) 10 := by unfold txt ed; simp
      rw [e]
  | inr x => exact ⟨[], 0, 0, 0, 9, x, by omega, by omega, by simp, rfl, rfl, rfl⟩
theorem neq_fault (x1 y1 x2 y2 : Int) (w : World) : (binOp .neq 42 (.agg #[.int .i64 x1, .int .i64 x2]) (.agg #[.int .i64 y1, .int .i64 y2])).run Try.prog w = .ok (.bool (!(x1 == y1 && x2 == y2))) w := by
  rw [run_neq_struct, run_equalIn_struct w 9999 42 _ _ (by kernel_rfl) (by kernel_rfl)]
  cases h1 : x1 == y1 <;> cases h2 : x2 == y2 <;> simp [go_sem, Program.fieldsOf, Try.underlying42, Try.underlying40, Try.underlying3, h1, h2]

theorem two_at2 {W0 W : World} {b B : Nat} {x y : Value} {T : TypeId} (hk : W0.heap[b]? = some (.cells #[x, y] T (0, 0))) (hb : b < B) (h : Below B W0 W) : W.cell? ⟨b, 0, none⟩ = some x ∧ W.cell? ⟨b, 1, none⟩ = some y := by
  have hq := (h.block b hb).trans hk
  exact ⟨by rw [Lib.cell_of_heap hq]; rfl, by rw [Lib.cell_of_heap hq]; rfl⟩

set_option maxHeartbeats 4000000 in
theorem ends_walk (a : Option Addr) (len cap : Nat) (rs : List Rw) (col : Int) (g : Bool) (w : World) (h : RArg w a len cap rs) (hcol : (Lit.int .i64 col).wf = true) :
    Calls Try.prog 6 #[.slice a len cap, .int .i64 col, .bool g] w fun e w' => e = .returned (.bool true) ∧ Below w.heap.size w w' := by
  obtain ⟨hat, hlc, hcm, hrs⟩ := h
  have HZ : Hid (RwAt w a len rs) := hat
  have HRS : Hid (∀ r ∈ rs, r.1 ≤ 9223372036854775807 ∧ r.2.1.length ≤ 140737488355328) := fun r hr => ⟨(hrs r hr).1, by have := (hrs r hr).2; omega⟩
  have HWI : Hid (Calls Try.prog 17 #[.slice a len cap] w fun e w' => e = .returned (.bool (wid rs)) ∧ Below w.heap.size w w') := wide_any a len cap rs w hat hlc hcm (fun r hr => (hrs r hr).2)
  clear hat hrs
  go_enter Try.func6, Try.ntmps6
  go_wp2_with fail
  refine HWI.out.mono ?_
  rintro e w1 ⟨rfl, hb1⟩
  have s1 := hb1.size
  clear HWI
  cases hwi : wid rs
  · obtain ⟨hl1, hl2, hl3⟩ := wid_no hwi
    have HTB : Hid (∀ ls, lo none (rws rs col) = .inl ls → (joinW 10 (trm ls)).length ≤ 1000000000 ∧ (fld (trm ls)).length ≤ 1000000000) := fun ls q => tak_bd (C := 300) (S := 1000000000) (col := col) hl3 (by omega) ls q
    have hlen : len ≤ 1048576 := by rw [HZ.out.1]; omega
    obtain ⟨P, i, m, n, e1, e2, hi1, hm1, hP, v1, v0, v2⟩ := ends_ex g (lo none (rws rs col)) (fun ls q => by
      have h1 := lo_len _ _ _ q
      have h2 := (rws_sub rs col).1
      exact ⟨by omega, HTB.out ls q⟩)
    have HT1 : Hid (∀ W, Below w.heap.size w W → Calls Try.prog 18 #[.slice a len cap, .int .i64 col, .agg #[.bool g, .int .i64 1]] W fun e w' => e = .returned (.tuple #[.string (mk P), .int .i64 n, .agg #[.int .i64 e1, .int .i64 e2]]) ∧ Below W.heap.size W w') := fun W hb => by
      rw [← v1]; exact take_any a len cap rs col g 1 W (HZ.out.later hb (Nat.le_refl _)) hlen HRS.out HTB.out
    have HT0 : Hid (∀ W, Below w.heap.size w W → Calls Try.prog 18 #[.slice a len cap, .int .i64 col, .agg #[.bool g, .int .i64 0]] W fun e w' => e = .returned (.tuple #[.string (mk (P ++ List.replicate i 10)), .int .i64 n, .agg #[.int .i64 e1, .int .i64 e2]]) ∧ Below W.heap.size W w') := fun W hb => by
      rw [← v0]; exact take_any a len cap rs col g 0 W (HZ.out.later hb (Nat.le_refl _)) hlen HRS.out HTB.out
    have HT2 : Hid (∀ W, Below w.heap.size w W → Calls Try.prog 18 #[.slice a len cap, .int .i64 col, .agg #[.bool g, .int .i64 2]] W fun e w' => e = .returned (.tuple #[.string (mk (P ++ List.replicate (i + m) 10)), .int .i64 n, .agg #[.int .i64 e1, .int .i64 e2]]) ∧ Below W.heap.size W w') := fun W hb => by
      rw [← v2]; exact take_any a len cap rs col g 2 W (HZ.out.later hb (Nat.le_refl _)) hlen HRS.out HTB.out
    obtain ⟨X, HX⟩ : ∃ X : Ln, Hid (X = P ++ List.replicate i 10) := ⟨P ++ List.replicate i 10, rfl⟩
    obtain ⟨Y, HY⟩ : ∃ Y : Ln, Hid (Y = P ++ List.replicate (i + m) 10) := ⟨P ++ List.replicate (i + m) 10, rfl⟩
    obtain ⟨F, HF⟩ : ∃ F : Ln, Hid (F = List.replicate (i + m) 10) := ⟨List.replicate (i + m) 10, rfl⟩
    rw [← HX.out] at HT0
    rw [← HY.out] at HT2
    obtain ⟨L, HLI⟩ : ∃ L : Nat, Hid (L = i + m) := ⟨i + m, rfl⟩
    have hiL : i ≤ L := by rw [HLI.out]; omega
    have hL1 : L ≤ 1048577 := by rw [HLI.out]; omega
    have hPs : (mk P).size = P.length := mk_size P
    have hXs : (mk X).size = P.length + i := by rw [mk_size, HX.out, List.length_append, List.length_replicate]
    have hYs : (mk Y).size = P.length + L := by rw [mk_size, HY.out, List.length_append, List.length_replicate, HLI.out]
    have hx1 : (mk X).extract 0 P.length = mk P := by rw [mk_ext, HX.out]; simp
    have hy1 : (mk Y).extract 0 (P.length + i) = mk X := by
      rw [mk_ext, HY.out, HX.out, List.drop_zero, Nat.sub_zero, ← List.replicate_append_replicate, ← List.append_assoc, List.take_left' (by simp)]
    have hy2 : (mk Y).extract P.length (P.length + L) = mk F := by rw [mk_ext, HY.out, HF.out, HLI.out]; simp
    have hFs : (mk F).size = L := by rw [mk_size, HF.out, List.length_replicate, HLI.out]
    have hq : (!(e1 == e1 && e2 == e2)) = false := by simp
    have hne := neq_fault
    clear v0 v1 v2 hl1 hl2 hl3 hwi HTB
    go_wp2_with fail
    refine (HT1.out _ hb1).mono ?_
    rintro e w2 ⟨rfl, hb2⟩
    have s2 := hb2.size
    obtain ⟨W2, hW2⟩ : ∃ W, w2.alloc (.cells #[.int .i64 e1, .int .i64 e2] 42) = W := ⟨_, rfl⟩
    have HC2 : Hid (W2.heap[w2.heap.size]? = some (.cells #[.int .i64 e1, .int .i64 e2] 42 (0, 0))) := by rw [← hW2]; exact heap_alloc_new w2 _
    have C2 : Below w1.heap.size w1 W2 := by rw [← hW2]; exact hb2.alloc s2 _
    have S2 : Hid (W2.heap.size = w2.heap.size + 1) := by rw [← hW2]; simp [Hid]
    have B2 : Below w.heap.size w W2 := hb1.trans (C2.mono hb1.size)
    clear hb2 HT1 s2
    go_wp2_with fail
    clear hW2
    refine (HT0.out _ B2).mono ?_
    rintro e w3 ⟨rfl, hb3⟩
    have s3 := hb3.size
    obtain ⟨W3, hW3⟩ : ∃ W, w3.alloc (.cells #[.int .i64 e1, .int .i64 e2] 42) = W := ⟨_, rfl⟩
    have HC3 : Hid (W3.heap[w3.heap.size]? = some (.cells #[.int .i64 e1, .int .i64 e2] 42 (0, 0))) := by rw [← hW3]; exact heap_alloc_new w3 _
    have C3 : Below W2.heap.size W2 W3 := by rw [← hW3]; exact hb3.alloc s3 _
    have S3 : Hid (W3.heap.size = w3.heap.size + 1) := by rw [← hW3]; simp [Hid]
    have B3 : Below w.heap.size w W3 := B2.trans (C3.mono B2.size)
    clear hb3 HT0 s3
    go_wp2_with fail
    clear hW3
    refine (HT2.out _ B3).mono ?_
    rintro e w4 ⟨rfl, hb4⟩
    have s4 := hb4.size
    obtain ⟨W4, hW4⟩ : ∃ W, w4.alloc (.cells #[.int .i64 e1, .int .i64 e2] 42) = W := ⟨_, rfl⟩
    have HC4 : Hid (W4.heap[w4.heap.size]? = some (.cells #[.int .i64 e1, .int .i64 e2] 42 (0, 0))) := by rw [← hW4]; exact heap_alloc_new w4 _
    have C4 : Below W3.heap.size W3 W4 := by rw [← hW4]; exact hb4.alloc s4 _
    have S4 : Hid (W4.heap.size = w4.heap.size + 1) := by rw [← hW4]; simp [Hid]
    have B4 : Below w.heap.size w W4 := B3.trans (C4.mono B3.size)
    clear hb4 HT2 s4
    have z2 := S2.out
    have z3 := S3.out
    have z4 := S4.out
    have y3 := C3.size
    have y4 := C4.size
    obtain ⟨p0, p1⟩ := two_at2 HC2.out (B := W2.heap.size) (by omega) (C3.trans (C4.mono y3))
    obtain ⟨q0, q1⟩ := two_at2 HC3.out (B := W3.heap.size) (by omega) C4
    obtain ⟨r0, r1⟩ := two_at2 HC4.out (B := W4.heap.size) (by omega) (Below.refl _ _)
    clear z2 z3 z4 y3 y4 C2 C3 C4
    obtain ⟨W5, cp, hcv, B5, HCE⟩ : ∃ (W5 : World) (cp : Nat), (convert 9 47 (.string (mk F))).run Try.prog W4 = .ok (.slice (some ⟨W4.heap.size, 0, none⟩) L cp) W5 ∧ Below w.heap.size w W5 ∧ Hid (∀ j, j < L → W5.cell? ⟨W4.heap.size, j, none⟩ = some (.int .u8 10)) := by
      have hh := Lib.run_convert_string_bytes (P := Try.prog) W4 9 47 5 (mk F) Try.underlying9 Try.underlying47 Try.underlying5
      rw [hFs] at hh
      refine ⟨_, _, hh, ?_, ?_⟩
      · refine B4.trans (Below.mono (B := W4.heap.size) ⟨rfl, rfl, rfl, ?_, fun k hk => Lib.bytesWorld_at_old W4 _ _ k hk⟩ B4.size)
        rw [Lib.bytesWorld_size]; omega
      · intro j hj
        rw [Lib.bytesWorld_cell W4 _ _ j (by rw [hFs]; exact hj), mk_data, HF.out, List.getD_eq_getElem?_getD, List.getElem?_replicate, if_pos (by rw [← HLI.out]; exact hj)]
        rfl
    have hd1 : decide ((P.length : Int) + (i : Int) < (P.length : Int)) = false := decide_eq_false (by omega)
    have hd2 : decide ((L : Int) < (i : Int)) = false := decide_eq_false (by omega)
    have hd3 : decide ((P.length : Int) + (L : Int) < (P.length : Int) + (i : Int)) = false := decide_eq_false (by omega)
    go_wp2_with fail
    go_loop [100] (fun ui => ∃ k : Nat, k ≤ L ∧ ui = .int .i64 (k : Int)) (fun ui => L - (intOf ui).toNat)
    case atStart => exact ⟨0, Nat.zero_le _, rfl⟩
    case round =>
      obtain ⟨k, hk, rfl⟩ := hrel
      by_cases hlt : k < L
      · have c0 := HCE.out k hlt
        go_wp2
        go_round
        case rel => exact ⟨k + 1, by omega, by go_num⟩
        case measure => (simp [intOf] <;> omega)
      · go_wp2_with fail
        refine (alive_any _).mono ?_
        rintro e w8 ⟨rfl, hb8⟩
        go_wp2
        go_ret
        exact ⟨rfl, B5.trans (hb8.mono B5.size)⟩
  · go_wp2_with fail
    refine (alive_any _).mono ?_
    rintro e w3 ⟨rfl, hb3⟩
    go_wp2
    go_ret
    exact ⟨rfl, hb1.trans (hb3.mono s1)⟩

end Go.Proofs.Ytoamfmockinknaa.Blk
