/- The walk of BlockMarks. -/
import Derived.Test.YtoamfmockinknabBlockAlive
import Derived.OpenShut
namespace Go.Proofs.Ytoamfmockinknab.Blk
open Go.RowKit
open Rws (mk mk_data mk_size mk_of mk_ext mk_get mk_inj)
set_option linter.unusedSimpArgs false
set_option linter.unusedVariables false
set_option maxRecDepth 100000

theorem hdV_mark (f : Bool) (c : Int) (h0 : 0 ≤ c) (h2 : c ≤ 2) : hdV (mark f c) = .tuple #[.agg #[.bool f, .int .i64 c], .bool true] := head_yes _ f c h0 h2 rfl
set_option maxHeartbeats 2000000 in
theorem marks_walk (s : ByteArray) (f : Bool) (n : Int) (w : World) (hs : s.size ≤ 140737488351232) (hn : (Lit.int .u8 n).wf = true) :
    Calls Try.prog 4 #[.string s, .bool f, .int .u8 n] w fun e w' => e = .returned (.bool true) ∧ Below w.heap.size w w' := by
  obtain ⟨l, rfl⟩ := Rws.mk_ex s
  obtain ⟨b0, b1⟩ := bounds_u8 hn
  obtain ⟨c, hc⟩ : ∃ c : Int, c = n % 3 := ⟨_, rfl⟩
  have hc0 : 0 ≤ c := by omega
  have hc2 : c ≤ 2 := by omega
  have hy := eql_style
  have hw : IntKind.i64.wrap n = n := by rw [IntKind.wrap_i64]; omega
  have hq : (f == f && c == c) = true := by simp
  obtain ⟨W1, hW1⟩ : ∃ W1, w.alloc (.cells #[.bool f, .int .i64 c] 27) = W1 := ⟨_, rfl⟩
  have HB1 : Hid (Below w.heap.size w W1) := by rw [← hW1]; exact (Below.refl _ _).alloc (Nat.le_refl _) _
  have S1 : Hid (W1.heap.size = w.heap.size + 1) := by rw [← hW1]; simp [Hid]
  have hc1 : W1.heap[w.heap.size]? = some (.cells #[.bool f, .int .i64 c] 27 (0, 0)) := by rw [← hW1]; exact heap_alloc_new w _
  have HKK : Hid (∀ W, Below (w.heap.size + 1) W1 W → Below w.heap.size w W ∧ W.cell? ⟨w.heap.size, 0, none⟩ = some (.bool f) ∧ W.cell? ⟨w.heap.size, 1, none⟩ = some (.int .i64 c)) := fun W hb => by
    have hk : W.heap[w.heap.size]? = some (.cells #[.bool f, .int .i64 c] 27 (0, 0)) := (hb.block _ (by omega)).trans hc1
    exact ⟨HB1.out.trans (hb.mono (by omega)), by rw [Lib.cell_of_heap hk]; rfl, by rw [Lib.cell_of_heap hk]; rfl⟩
  have hml := mark_len f c
  have HMM : Hid (hdV (mark f c) = .tuple #[.agg #[.bool f, .int .i64 c], .bool true]) := hdV_mark f c hc0 hc2
  have HMY : Hid (∀ a b, headO l = some (a, b) → mark a b = l) := fun a b h => mark_head l a b h
  have hcn : n % 3 = c := hc.symm
  obtain ⟨_, y0, y1⟩ := HKK.out W1 (Below.refl _ _)
  clear hc1 hc
  go_enter Try.func4, Try.ntmps4
  go_wp2_with fail
  refine (mark_any f c _).mono ?_
  rintro e w2 ⟨rfl, hb2⟩
  clear hW1
  have B2 : Below (w.heap.size + 1) W1 w2 := hb2.mono (by have := S1.out; omega)
  have s2 : w.heap.size + 1 ≤ w2.heap.size := by have := hb2.size; have := S1.out; omega
  clear hb2
  generalize hM : mark f c = M at *
  have hms : (mk M).size ≤ 2 := by rw [mk_size]; exact hml
  go_wp2_with fail
  refine (head_any M _).mono ?_
  rintro e w3 ⟨rfl, hb3⟩
  rw [HMM.out]
  have B3 : Below (w.heap.size + 1) W1 w3 := B2.trans (hb3.mono s2)
  have s3 : w.heap.size + 1 ≤ w3.heap.size := by have := hb3.size; omega
  clear hb3
  obtain ⟨W4, hW4⟩ : ∃ W4, w3.alloc (.cells #[.bool f, .int .i64 c] 27) = W4 := ⟨_, rfl⟩
  have B4 : Below (w.heap.size + 1) W1 W4 := by rw [← hW4]; exact B3.alloc s3 _
  have S4 : Hid (W4.heap.size = w3.heap.size + 1) := by rw [← hW4]; simp [Hid]
  have hc4 : W4.heap[w3.heap.size]? = some (.cells #[.bool f, .int .i64 c] 27 (0, 0)) := by rw [← hW4]; exact heap_alloc_new w3 _
  have HK4 : Hid (∀ W, Below (w3.heap.size + 1) W4 W → Below w.heap.size w W ∧ W.cell? ⟨w.heap.size, 0, none⟩ = some (.bool f) ∧ W.cell? ⟨w.heap.size, 1, none⟩ = some (.int .i64 c) ∧ W.cell? ⟨w3.heap.size, 0, none⟩ = some (.bool f) ∧ W.cell? ⟨w3.heap.size, 1, none⟩ = some (.int .i64 c)) := fun W hb => by
    have hk : W.heap[w3.heap.size]? = some (.cells #[.bool f, .int .i64 c] 27 (0, 0)) := (hb.block _ (by omega)).trans hc4
    obtain ⟨q0, q1, q2⟩ := HKK.out W (B4.trans (hb.mono (by omega)))
    exact ⟨q0, q1, q2, by rw [Lib.cell_of_heap hk]; rfl, by rw [Lib.cell_of_heap hk]; rfl⟩
  clear hc4 HKK HMM
  go_wp2_with fail
  refine (head_any l _).mono ?_
  rintro e w5 ⟨rfl, hb5⟩
  clear hW4
  have B5 : Below (w3.heap.size + 1) W4 w5 := hb5.mono (by have := S4.out; omega)
  have s5 : w3.heap.size + 1 ≤ w5.heap.size := by have := hb5.size; have := S4.out; omega
  clear hb5
  unfold hdV
  cases hO : headO l with
  | none =>
    obtain ⟨W6, hW6⟩ : ∃ W6, w5.alloc (.cells #[.bool false, .int .i64 0] 27) = W6 := ⟨_, rfl⟩
    have B6 : Below (w3.heap.size + 1) W4 W6 := by rw [← hW6]; exact B5.alloc s5 _
    have hc6 : W6.heap[w5.heap.size]? = some (.cells #[.bool false, .int .i64 0] 27 (0, 0)) := by rw [← hW6]; exact heap_alloc_new w5 _
    have x0 : W6.cell? ⟨w5.heap.size, 0, none⟩ = some (.bool false) := by rw [Lib.cell_of_heap hc6]; rfl
    have x1 : W6.cell? ⟨w5.heap.size, 1, none⟩ = some (.int .i64 0) := by rw [Lib.cell_of_heap hc6]; rfl
    obtain ⟨k0, k1, k2, k3, k4⟩ := HK4.out _ B6
    clear hc6 x0 x1
    subst hW6
    go_wp2_with fail
    refine (alive_any _).mono ?_
    rintro e w8 ⟨rfl, hb8⟩
    go_wp2
    go_ret
    exact ⟨rfl, k0.trans (hb8.mono (by have := k0.size; omega))⟩
  | some p =>
    obtain ⟨a, b⟩ := p
    have HY : Hid (mark a b = l) := HMY.out a b hO
    clear hO HMY
    obtain ⟨W6, hW6⟩ : ∃ W6, w5.alloc (.cells #[.bool a, .int .i64 b] 27) = W6 := ⟨_, rfl⟩
    have B6 : Below (w3.heap.size + 1) W4 W6 := by rw [← hW6]; exact B5.alloc s5 _
    have hc6 : W6.heap[w5.heap.size]? = some (.cells #[.bool a, .int .i64 b] 27 (0, 0)) := by rw [← hW6]; exact heap_alloc_new w5 _
    have x0 : W6.cell? ⟨w5.heap.size, 0, none⟩ = some (.bool a) := by rw [Lib.cell_of_heap hc6]; rfl
    have x1 : W6.cell? ⟨w5.heap.size, 1, none⟩ = some (.int .i64 b) := by rw [Lib.cell_of_heap hc6]; rfl
    obtain ⟨k0, k1, k2, k3, k4⟩ := HK4.out _ B6
    clear hc6
    go_wp2_with fail
    refine (mark_any a b _).mono ?_
    rintro e w7 ⟨rfl, hb7⟩
    rw [HY.out]
    have s6 := k0.size
    go_wp2_with fail
    refine (alive_any _).mono ?_
    rintro e w8 ⟨rfl, hb8⟩
    go_wp2
    go_ret
    exact ⟨rfl, (k0.trans (hb7.mono s6)).trans (hb8.mono (by have := hb7.size; omega))⟩

end Go.Proofs.Ytoamfmockinknab.Blk
