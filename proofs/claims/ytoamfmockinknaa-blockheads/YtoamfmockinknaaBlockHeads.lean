/- The walk of BlockHeads. -/
import Derived.Test.YtoamfmockinknaaBlockRhead
import Derived.Test.YtoamfmockinknaaBlockArg
namespace Go.Proofs.Ytoamfmockinknaa.Blk
open Go.RowKit
open Rws (mk mk_data mk_size mk_of mk_ext mk_get mk_inj)
set_option linter.unusedSimpArgs false
set_option linter.unusedVariables false
set_option maxRecDepth 100000

theorem eql_rstyle (x1 y1 : Bool) (x2 y2 : Int) (w : World) : (binOp .eql 23 (.agg #[.bool x1, .int .i64 x2]) (.agg #[.bool y1, .int .i64 y2])).run Try.prog w = .ok (.bool (x1 == y1 && x2 == y2)) w := by
  rw [run_eql_struct, run_equalIn_struct w 9999 23 _ _ (by kernel_rfl) (by kernel_rfl)]
  cases h1 : x1 == y1 <;> cases h2 : x2 == y2 <;> simp [go_sem, Program.fieldsOf, Try.underlying23, Try.underlying4, Try.underlying3, h1, h2]
theorem hdV_ex (s : Ln) : ∃ (f : Bool) (c : Int) (o : Bool), hdV s = .tuple #[.agg #[.bool f, .int .i64 c], .bool o] := by
  unfold hdV
  cases headO s with
  | none => exact ⟨_, _, _, rfl⟩
  | some p => obtain ⟨a, b⟩ := p; exact ⟨_, _, _, rfl⟩

theorem two_later {W0 W : World} {b B : Nat} {x y : Value} {T : TypeId} (hk : W0.heap[b]? = some (.cells #[x, y] T (0, 0))) (hb : b < B) (h : Below B W0 W) : W.cell? ⟨b, 0, none⟩ = some x ∧ W.cell? ⟨b, 1, none⟩ = some y := by
  have hq := (h.block b hb).trans hk
  exact ⟨by rw [Lib.cell_of_heap hq]; rfl, by rw [Lib.cell_of_heap hq]; rfl⟩
set_option maxHeartbeats 2000000 in
theorem heads_walk (s : ByteArray) (g : Bool) (d : Int) (w : World) (hs : s.size ≤ 140737488351232) (hd : (Lit.int .i64 d).wf = true) :
    Calls Try.prog 3 #[.string s, .agg #[.bool g, .int .i64 d]] w fun e w' => e = .returned (.bool true) ∧ Below w.heap.size w w' := by
  obtain ⟨l, rfl⟩ := Rws.mk_ex s
  obtain ⟨f, c, o, hv⟩ := hdV_ex l
  have HH : Hid (∀ W, Calls Try.prog 7 #[.string (mk l)] W fun e w' => e = .returned (.tuple #[.agg #[.bool f, .int .i64 c], .bool o]) ∧ Below W.heap.size W w') := fun W => by rw [← hv]; exact head_any l W
  have HR : Hid (∀ W, Calls Try.prog 8 #[.string (mk l)] W fun e w' => e = .returned (.tuple #[.agg #[.bool f, .int .i64 c], .bool o]) ∧ Below W.heap.size W w') := fun W => by rw [← hv]; exact rhead_any l W
  clear hv
  have hq : (f == f && c == c) = true := by simp
  have hy := eql_rstyle
  go_enter Try.func3, Try.ntmps3
  go_wp2_with fail
  obtain ⟨W1, hW1⟩ : ∃ W1, w.alloc (.cells #[.bool g, .int .i64 d] 23) = W1 := ⟨_, rfl⟩
  have HC1 : Hid (W1.heap[w.heap.size]? = some (.cells #[.bool g, .int .i64 d] 23 (0, 0))) := by rw [← hW1]; exact heap_alloc_new w _
  have B1 : Below w.heap.size w W1 := by rw [← hW1]; exact (Below.refl _ _).alloc (Nat.le_refl _) _
  have S1 : Hid (W1.heap.size = w.heap.size + 1) := by rw [← hW1]; simp [Hid]
  rw [hW1]
  clear hW1
  refine (HH.out _).mono ?_
  rintro e w2 ⟨rfl, hb2⟩
  have s2 := hb2.size
  obtain ⟨W3, hW3⟩ : ∃ W3, w2.alloc (.cells #[.bool f, .int .i64 c] 24) = W3 := ⟨_, rfl⟩
  have HC3 : Hid (W3.heap[w2.heap.size]? = some (.cells #[.bool f, .int .i64 c] 24 (0, 0))) := by rw [← hW3]; exact heap_alloc_new w2 _
  have B3 : Below W1.heap.size W1 W3 := by rw [← hW3]; exact hb2.alloc s2 _
  have S3 : Hid (W3.heap.size = w2.heap.size + 1) := by rw [← hW3]; simp [Hid]
  clear hb2
  go_wp2_with fail
  clear hW3
  refine (HR.out _).mono ?_
  rintro e w4 ⟨rfl, hb4⟩
  have s4 := hb4.size
  obtain ⟨W5, hW5⟩ : ∃ W5, w4.alloc (.cells #[.bool f, .int .i64 c] 23) = W5 := ⟨_, rfl⟩
  have HC5 : Hid (W5.heap[w4.heap.size]? = some (.cells #[.bool f, .int .i64 c] 23 (0, 0))) := by rw [← hW5]; exact heap_alloc_new w4 _
  have B5 : Below W3.heap.size W3 W5 := by rw [← hW5]; exact hb4.alloc s4 _
  have S5 : Hid (W5.heap.size = w4.heap.size + 1) := by rw [← hW5]; simp [Hid]
  clear hb4
  have t1 := S1.out
  have t3 := S3.out
  have t5 := S5.out
  have B15 : Below W1.heap.size W1 W5 := B3.trans (B5.mono (by omega))
  obtain ⟨a0, a1⟩ := two_later HC3.out (by omega) B5
  have HST : Hid (∀ W, Below W5.heap.size W5 W → W.cell? ⟨w.heap.size, 0, none⟩ = some (.bool g) ∧ W.cell? ⟨w.heap.size, 1, none⟩ = some (.int .i64 d)) := fun W hb => two_later HC1.out (by omega) (B15.trans (hb.mono (by omega)))
  have HBB : Hid (∀ W, Below W5.heap.size W5 W → W.cell? ⟨w4.heap.size, 0, none⟩ = some (.bool f) ∧ W.cell? ⟨w4.heap.size, 1, none⟩ = some (.int .i64 c)) := fun W hb => two_later HC5.out (by omega) hb
  have HBW : Hid (∀ W, Below W5.heap.size W5 W → Below w.heap.size w W) := fun W hb => B1.trans ((B15.trans (hb.mono (by omega))).mono (by omega))
  have A0 : Hid (∀ q : QW W5, q.w.cell? ⟨w2.heap.size, 0, none⟩ = some (.bool f) ∧ q.w.cell? ⟨w2.heap.size, 1, none⟩ = some (.int .i64 c)) := fun q => two_later HC3.out (by omega) (B5.trans (q.h.mono (by omega)))
  clear t1 t3 t5 s2 s4 B1 B3 B5 B15
  go_wp2_with fail
  clear hW5
  have x0 : ∀ q : QW W5, q.w.cell? ⟨w2.heap.size, 0, none⟩ = some (.bool f) := fun q => (A0.out q).1
  have x1 : ∀ q : QW W5, q.w.cell? ⟨w2.heap.size, 1, none⟩ = some (.int .i64 c) := fun q => (A0.out q).2
  have x2 : ∀ q : QW W5, q.w.cell? ⟨w4.heap.size, 0, none⟩ = some (.bool f) := fun q => (HBB.out _ q.h).1
  have x3 : ∀ q : QW W5, q.w.cell? ⟨w4.heap.size, 1, none⟩ = some (.int .i64 c) := fun q => (HBB.out _ q.h).2
  have x4 : ∀ q : QW W5, q.w.cell? ⟨w.heap.size, 0, none⟩ = some (.bool g) := fun q => (HST.out _ q.h).1
  have x5 : ∀ q : QW W5, q.w.cell? ⟨w.heap.size, 1, none⟩ = some (.int .i64 d) := fun q => (HST.out _ q.h).2
  have hNE : Nonempty (QW W5) := ⟨⟨W5, Below.refl _ _⟩⟩
  have hoo : (o == o) = true := by simp
  clear a0 a1
  refine wp_region_class (by kernel_rfl) (by kernel_rfl) ?_
  repeat (go_big_quiet_step (first
    | (go_at_call 9; refine calls_class _ (ours_any f c _))
    | (go_at_call 11; refine calls_class _ (theirs_any g d _))
    | (go_at_call 10; refine calls_class _ (mark_any g d _))
    | (go_at_call 12; refine calls_class _ (rmark_any g d _))
    | (go_at_call 13; refine calls_class _ (alive_any _))))
  refine wpQuiet_nil ?_
  intro _ hw'
  obtain ⟨q, hw''⟩ := hw'
  subst hw''
  have hbel := HBW.out _ q.h
  clear x0 x1 x2 x3 x4 x5
  go_wp2
  go_ret
  exact ⟨rfl, hbel⟩

end Go.Proofs.Ytoamfmockinknaa.Blk
