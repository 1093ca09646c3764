/- The walk of BlockTakes. -/
import Derived.Test.YtoamfmockinknaaBlockRtake
import Derived.Test.YtoamfmockinknaaBlockWide
import Derived.Test.YtoamfmockinknaaBlockRhead
import Derived.Test.YtoamfmockinknaaBlockArg
namespace Go.Proofs.Ytoamfmockinknaa.Blk
open Go.RowKit
open Rws (mk mk_data mk_size mk_of mk_ext mk_get mk_inj)
set_option linter.unusedSimpArgs false
set_option linter.unusedVariables false
set_option maxRecDepth 100000

theorem takV_ex (f : Bool) (c : Int) (R : List Ln ⊕ Int) : ∃ (T : ByteArray) (n e1 e2 : Int), takV f c R = .tuple #[.string T, .int .i64 n, .agg #[.int .i64 e1, .int .i64 e2]] := by
  cases R with
  | inl ls => exact ⟨_, _, _, _, rfl⟩
  | inr x => exact ⟨_, _, _, _, rfl⟩
theorem two_at {W0 W : World} {b B : Nat} {x y : Value} {T : TypeId} (hk : W0.heap[b]? = some (.cells #[x, y] T (0, 0))) (hb : b < B) (h : Below B W0 W) : W.cell? ⟨b, 0, none⟩ = some x ∧ W.cell? ⟨b, 1, none⟩ = some y := by
  have hq := (h.block b hb).trans hk
  exact ⟨by rw [Lib.cell_of_heap hq]; rfl, by rw [Lib.cell_of_heap hq]; rfl⟩

set_option maxHeartbeats 4000000 in
theorem takes_walk (a : Option Addr) (len cap : Nat) (rs : List Rw) (col : Int) (g : Bool) (d : Int) (w : World) (h : RArg w a len cap rs) (hcol : (Lit.int .i64 col).wf = true) (hd : (Lit.int .i64 d).wf = true) :
    Calls Try.prog 5 #[.slice a len cap, .int .i64 col, .agg #[.bool g, .int .i64 d]] w fun e w' => e = .returned (.bool true) ∧ Below w.heap.size w w' := by
  obtain ⟨hat, hlc, hcm, hrs⟩ := h
  have HZ : Hid (RwAt w a len rs) := hat
  have HRS : Hid (∀ r ∈ rs, r.1 ≤ 9223372036854775807 ∧ r.2.1.length ≤ 140737488355328) := fun r hr => ⟨(hrs r hr).1, by have := (hrs r hr).2; omega⟩
  have HWI : Hid (∀ W, Below w.heap.size w W → Calls Try.prog 17 #[.slice a len cap] W fun e w' => e = .returned (.bool (wid rs)) ∧ Below W.heap.size W w') := fun W hb => wide_any a len cap rs W (hat.later hb (Nat.le_refl _)) hlc hcm (fun r hr => (hrs r hr).2)
  have he := eql_fault
  clear hat hrs
  obtain ⟨W1, hW1⟩ : ∃ W1, w.alloc (.cells #[.bool g, .int .i64 d] 23) = W1 := ⟨_, rfl⟩
  have HC1 : Hid (W1.heap[w.heap.size]? = some (.cells #[.bool g, .int .i64 d] 23 (0, 0))) := by rw [← hW1]; exact heap_alloc_new w _
  have B1 : Below w.heap.size w W1 := by rw [← hW1]; exact (Below.refl _ _).alloc (Nat.le_refl _) _
  have S1 : Hid (W1.heap.size = w.heap.size + 1) := by rw [← hW1]; simp [Hid]
  go_enter Try.func5, Try.ntmps5
  go_wp2_with fail
  clear hW1
  refine (HWI.out W1 B1).mono ?_
  rintro e w2 ⟨rfl, hb2⟩
  have s1 := B1.size
  have s2 := hb2.size
  cases hwi : wid rs
  · obtain ⟨hl1, hl2, hl3⟩ := wid_no hwi
    have HTB : Hid (∀ ls, lo none (rws rs col) = .inl ls → (joinW 10 (trm ls)).length ≤ 1000000000 ∧ (fld (trm ls)).length ≤ 1000000000) := fun ls q => by
      have h1 := tak_bd (C := 300) (S := 1000000000) (col := col) hl3 (by omega) ls q
      exact h1
    have hlen : len ≤ 1048576 := by rw [HZ.out.1]; omega
    obtain ⟨T, n, e1, e2, hv⟩ := takV_ex g d (lo none (rws rs col))
    have HTA : Hid (∀ W, Below w.heap.size w W → Calls Try.prog 18 #[.slice a len cap, .int .i64 col, .agg #[.bool g, .int .i64 d]] W fun e w' => e = .returned (.tuple #[.string T, .int .i64 n, .agg #[.int .i64 e1, .int .i64 e2]]) ∧ Below W.heap.size W w') := fun W hb => by
      rw [← hv]; exact take_any a len cap rs col g d W (HZ.out.later hb (Nat.le_refl _)) hlen HRS.out HTB.out
    have HRT : Hid (∀ W, Below w.heap.size w W → Calls Try.prog 19 #[.slice a len cap, .int .i64 col, .agg #[.bool g, .int .i64 d]] W fun e w' => e = .returned (.tuple #[.string T, .int .i64 n, .agg #[.int .i64 e1, .int .i64 e2]]) ∧ Below W.heap.size W w') := fun W hb => by
      rw [← hv]; exact rtake_any a len cap rs col g d W (HZ.out.later hb (Nat.le_refl _)) hlen HRS.out HTB.out
    have hq : (e1 == e1 && e2 == e2) = true := by simp
    clear hv hl1 hl2 hl3 hwi HTB HWI
    obtain ⟨p0, p1⟩ := two_at HC1.out (by have := S1.out; omega) hb2
    go_wp2_with fail
    refine (theirs_any g d _).mono ?_
    rintro e w3 ⟨rfl, hb3⟩
    have B3 : Below W1.heap.size W1 w3 := hb2.trans (hb3.mono s2)
    have s3 := B3.size
    clear hb3
    go_wp2_with fail
    refine (HTA.out _ (B1.trans (B3.mono s1))).mono ?_
    rintro e w4 ⟨rfl, hb4⟩
    have B4 : Below W1.heap.size W1 w4 := B3.trans (hb4.mono s3)
    have s4 := B4.size
    clear hb4 HTA
    obtain ⟨W5, hW5⟩ : ∃ W5, w4.alloc (.cells #[.int .i64 e1, .int .i64 e2] 42) = W5 := ⟨_, rfl⟩
    have HC5 : Hid (W5.heap[w4.heap.size]? = some (.cells #[.int .i64 e1, .int .i64 e2] 42 (0, 0))) := by rw [← hW5]; exact heap_alloc_new w4 _
    have B5 : Below W1.heap.size W1 W5 := by rw [← hW5]; exact B4.alloc s4 _
    have S5 : Hid (W5.heap.size = w4.heap.size + 1) := by rw [← hW5]; simp [Hid]
    obtain ⟨q0, q1⟩ := two_at HC1.out (by have := S1.out; omega) B5
    go_wp2_with fail
    clear hW5
    refine (HRT.out _ (B1.trans (B5.mono s1))).mono ?_
    rintro e w6 ⟨rfl, hb6⟩
    have s5 := B5.size
    have s6 := hb6.size
    obtain ⟨W7, hW7⟩ : ∃ W7, w6.alloc (.cells #[.int .i64 e1, .int .i64 e2] 42) = W7 := ⟨_, rfl⟩
    have HC7 : Hid (W7.heap[w6.heap.size]? = some (.cells #[.int .i64 e1, .int .i64 e2] 42 (0, 0))) := by rw [← hW7]; exact heap_alloc_new w6 _
    have B7 : Below W5.heap.size W5 W7 := by rw [← hW7]; exact hb6.alloc s6 _
    have S7 : Hid (W7.heap.size = w6.heap.size + 1) := by rw [← hW7]; simp [Hid]
    obtain ⟨r0, r1⟩ := two_at HC5.out (by have := S5.out; omega) B7
    obtain ⟨t0, t1⟩ := two_at (B := W7.heap.size) HC7.out (by have := S7.out; omega) (Below.refl _ _)
    have B17 : Below w.heap.size w W7 := B1.trans ((B5.trans (B7.mono s5)).mono s1)
    clear hb6 HRT
    go_wp2_with fail
    refine (alive_any _).mono ?_
    rintro e w8 ⟨rfl, hb8⟩
    go_wp2
    go_ret
    exact ⟨rfl, B17.trans (hb8.mono B17.size)⟩
  · go_wp2_with fail
    refine (alive_any _).mono ?_
    rintro e w3 ⟨rfl, hb3⟩
    go_wp2
    go_ret
    exact ⟨rfl, B1.trans ((hb2.trans (hb3.mono s2)).mono s1)⟩

end Go.Proofs.Ytoamfmockinknaa.Blk
