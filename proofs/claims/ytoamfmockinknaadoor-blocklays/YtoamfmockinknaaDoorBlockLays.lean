/- The walk of BlockLays. -/
import Derived.Test.YtoamfmockinknaaDoorBlockRlay
import Derived.Test.YtoamfmockinknaaDoorBlockAlive
import Derived.Test.YtoamfmockinknaaDoorBlockArg
namespace Go.Proofs.YtoamfmockinknaaDoor.Blk
open Go.RowKit
open Rws (mk mk_data mk_size mk_of mk_ext mk_get mk_inj has lns lns_len lns_mem_len)
set_option linter.unusedSimpArgs false
set_option linter.unusedVariables false
set_option maxRecDepth 100000

theorem ourS_any (f : Bool) (c : Int) (w : World) : Calls Tryd.prog 8 #[.agg #[.bool f, .int .i64 c]] w fun e w' => e = .returned (.agg #[.bool f, .int .i64 c]) ∧ Below w.heap.size w w' := by
  go_enter Tryd.func8, Tryd.ntmps8
  go_wp2
  refine bodyPost_ret (v := .agg #[.bool f, .int .i64 c]) (by simp [results, Tryd.results8, go_sem]) rfl ⟨rfl, ?_⟩
  exact ((Below.refl _ _).alloc (Nat.le_refl _) _).alloc (by simp) _
theorem eql_rst (x1 y1 : Bool) (x2 y2 : Int) (w : World) : (binOp .eql 28 (.agg #[.bool x1, .int .i64 x2]) (.agg #[.bool y1, .int .i64 y2])).run Tryd.prog w = .ok (.bool (x1 == y1 && x2 == y2)) w := by
  rw [run_eql_struct, run_equalIn_struct w 9999 28 _ _ (by kernel_rfl) (by kernel_rfl)]
  cases h1 : x1 == y1 <;> cases h2 : x2 == y2 <;> simp [go_sem, Program.fieldsOf, Tryd.underlying28, Tryd.underlying4, Tryd.underlying3, h1, h2]
theorem texts_any (a a' : Option Addr) (n cap cap' : Nat) (xs : List Ln) (w : World) (h : StrsAt w a n xs) (h' : StrsAt w a' n xs) (hl : n ≤ 1048576) :
    Calls Tryd.prog 9 #[.slice a n cap, .slice a' n cap'] w fun e w' => e = .returned (.bool true) ∧ Below w.heap.size w w' := by
  have H : Hid (StrsAt w a n xs) := h
  have H' : Hid (StrsAt w a' n xs) := h'
  clear h h'
  go_enter Tryd.func9, Tryd.ntmps9
  go_wp2_with fail
  go_loopw [5] (fun i wr => ∃ j : Nat, j ≤ n ∧ i = .int .i64 j ∧ Below w.heap.size w wr) (fun i _ => n - (intOf i).toNat)
  case atStart => exact ⟨0, Nat.zero_le _, rfl, Below.refl _ _⟩
  case round =>
    obtain ⟨j, hj, rfl, hB⟩ := hrel
    have HB : Hid (Below w.heap.size w wr) := hB
    clear hB
    by_cases hlt : j < n
    · obtain ⟨b, off, rfl, hb, hc⟩ := H.out.2 (by omega)
      obtain ⟨b', off', rfl, hb', hc'⟩ := H'.out.2 (by omega)
      have c0 := (HB.out.cell (p := ⟨b, off + j, none⟩) hb).trans (hc j hlt)
      have c1 := (HB.out.cell (p := ⟨b', off' + j, none⟩) hb').trans (hc' j hlt)
      generalize mk (xs.getD j []) = S at *
      have hq : (S.toList == S.toList) = true := beq_self_eq_true _
      clear hc hc'
      go_wp2_with fail
      go_region
      go_wp2
      go_roundw
      case rel => exact ⟨j + 1, by omega, by go_num, HB.out.drew⟩
      case measure => simp [intOf]; omega
    · go_wp2
      go_ret
      exact ⟨rfl, HB.out⟩

def Cg (s : Ln) : Int := if okC s = true then chC s else 0
def Xg (s : Ln) : List Ln := if okC s = true then lns s else []
theorem lay_gen (s : Ln) (w : World) (hs : s.length ≤ 5000) : Calls Tryd.prog 6 #[.string (mk s)] w fun e w' => ∃ a cap, e = .returned (.tuple #[.agg #[.bool false, .int .i64 (Cg s)], .slice a (Xg s).length cap, .bool (okC s)]) ∧ StrsAt w' a (Xg s).length (Xg s) ∧ Below w.heap.size w w' := by
  refine (lay_any s w (by omega)).mono ?_
  intro e w' hres
  rcases hres with ⟨hok, v, rfl, hown, hb⟩ | ⟨hok, rfl, hb⟩
  · obtain ⟨a, cap, rfl, _, hat⟩ := strs_own hown
    refine ⟨a, cap, ?_, ?_, hb⟩
    · unfold Cg Xg; rw [hok]; rfl
    · unfold Xg; rw [if_pos hok]; exact hat
  · refine ⟨none, 0, ?_, ?_, hb⟩
    · unfold Cg Xg; rw [hok]; rfl
    · unfold Xg; rw [if_neg (by rw [hok]; simp)]; exact ⟨rfl, fun h => absurd h (by decide)⟩
theorem rlay_gen (s : Ln) (w : World) (hs : s.length ≤ 5000) : Calls Tryd.prog 7 #[.string (mk s)] w fun e w' => ∃ a cap, e = .returned (.tuple #[.agg #[.bool false, .int .i64 (Cg s)], .slice a (Xg s).length cap, .bool (okC s)]) ∧ StrsAt w' a (Xg s).length (Xg s) ∧ Below w.heap.size w w' := by
  refine (rlay_any s w hs).mono ?_
  intro e w' hres
  rcases hres with ⟨hok, a, cap, rfl, hat, hb⟩ | ⟨hok, rfl, hb⟩
  · refine ⟨a, cap, ?_, ?_, hb⟩
    · unfold Cg Xg; rw [hok]; rfl
    · unfold Xg; rw [if_pos hok]; exact hat
  · refine ⟨none, 0, ?_, ?_, hb⟩
    · unfold Cg Xg; rw [hok]; rfl
    · unfold Xg; rw [if_neg (by rw [hok]; simp)]; exact ⟨rfl, fun h => absurd h (by decide)⟩
theorem Xg_len (s : Ln) : (Xg s).length ≤ s.length := by
  unfold Xg
  split
  · exact lns_len _ s (Nat.le_refl _)
  · simp
theorem two_at3 {W0 W : World} {b B : Nat} {x y : Value} {T : TypeId} (hk : W0.heap[b]? = some (.cells #[x, y] T (0, 0))) (hb : b < B) (h : Below B W0 W) : W.cell? ⟨b, 0, none⟩ = some x ∧ W.cell? ⟨b, 1, none⟩ = some y := by
  have hq := (h.block b hb).trans hk
  exact ⟨by rw [Lib.cell_of_heap hq]; rfl, by rw [Lib.cell_of_heap hq]; rfl⟩

set_option maxHeartbeats 4000000 in
theorem lays_walk (s0 : ByteArray) (w : World) (hs0 : s0.size ≤ 140737488351232) :
    Calls Tryd.prog 3 #[.string s0] w fun e w' => e = .returned (.bool true) ∧ Below w.heap.size w w' := by
  obtain ⟨s, rfl⟩ := Rws.mk_ex s0
  have hss : (mk s).size = s.length := mk_size s
  rw [hss] at hs0
  by_cases hbig : 5000 < s.length
  · go_enter Tryd.func3, Tryd.ntmps3
    go_wp2_with fail
    refine (alive_any _).mono ?_
    rintro e w2 ⟨rfl, hb2⟩
    go_wp2
    go_ret
    exact ⟨rfl, hb2⟩
  have hs5 : s.length ≤ 5000 := by omega
  have HLY : Hid (∀ W, Calls Tryd.prog 6 #[.string (mk s)] W fun e w' => ∃ a cap, e = .returned (.tuple #[.agg #[.bool false, .int .i64 (Cg s)], .slice a (Xg s).length cap, .bool (okC s)]) ∧ StrsAt w' a (Xg s).length (Xg s) ∧ Below W.heap.size W w') := fun W => lay_gen s W hs5
  have HRY : Hid (∀ W, Calls Tryd.prog 7 #[.string (mk s)] W fun e w' => ∃ a cap, e = .returned (.tuple #[.agg #[.bool false, .int .i64 (Cg s)], .slice a (Xg s).length cap, .bool (okC s)]) ∧ StrsAt w' a (Xg s).length (Xg s) ∧ Below W.heap.size W w') := fun W => rlay_gen s W hs5
  have hXl := Xg_len s
  generalize Cg s = C at *
  generalize Xg s = xs at *
  generalize okC s = o at *
  obtain ⟨N, hN⟩ : ∃ N, N = xs.length := ⟨_, rfl⟩
  rw [← hN] at HLY HRY hXl
  clear hN
  have hqc : ((false == false) && C == C) = true := by simp
  have hoo : (o == o) = true := by simp
  have hy := eql_rst
  go_enter Tryd.func3, Tryd.ntmps3
  go_wp2_with fail
  refine (HLY.out _).mono ?_
  rintro e w2 ⟨a1, cap1, rfl, hat1, hb2⟩
  have s2 := hb2.size
  obtain ⟨W3, hW3⟩ : ∃ W3, w2.alloc (.cells #[.bool false, .int .i64 C] 24) = W3 := ⟨_, rfl⟩
  have HC3 : Hid (W3.heap[w2.heap.size]? = some (.cells #[.bool false, .int .i64 C] 24 (0, 0))) := by rw [← hW3]; exact heap_alloc_new w2 _
  have B23 : Below w2.heap.size w2 W3 := by rw [← hW3]; exact (Below.refl _ _).alloc (Nat.le_refl _) _
  have S3 : Hid (W3.heap.size = w2.heap.size + 1) := by rw [← hW3]; simp [Hid]
  have HA1 : Hid (StrsAt w2 a1 N xs) := hat1
  clear hat1 HLY
  go_wp2_with fail
  clear hW3
  refine (HRY.out _).mono ?_
  rintro e w4 ⟨a2, cap2, rfl, hat2, hb4⟩
  have s4 := hb4.size
  obtain ⟨W5, hW5⟩ : ∃ W5, w4.alloc (.cells #[.bool false, .int .i64 C] 28) = W5 := ⟨_, rfl⟩
  have HC5 : Hid (W5.heap[w4.heap.size]? = some (.cells #[.bool false, .int .i64 C] 28 (0, 0))) := by rw [← hW5]; exact heap_alloc_new w4 _
  have B45 : Below w4.heap.size w4 W5 := by rw [← hW5]; exact (Below.refl _ _).alloc (Nat.le_refl _) _
  have S5 : Hid (W5.heap.size = w4.heap.size + 1) := by rw [← hW5]; simp [Hid]
  have B35 : Below W3.heap.size W3 W5 := hb4.trans (B45.mono s4)
  have z3 := S3.out
  have z5 := S5.out
  have x0 : ∀ q : QW W5, q.w.cell? ⟨w2.heap.size, 0, none⟩ = some (.bool false) := fun q => (two_at3 HC3.out (by omega) (B35.trans (q.h.mono (by omega)))).1
  have x1 : ∀ q : QW W5, q.w.cell? ⟨w2.heap.size, 1, none⟩ = some (.int .i64 C) := fun q => (two_at3 HC3.out (by omega) (B35.trans (q.h.mono (by omega)))).2
  have x2 : ∀ q : QW W5, q.w.cell? ⟨w4.heap.size, 0, none⟩ = some (.bool false) := fun q => (two_at3 HC5.out (by omega) q.h).1
  have x3 : ∀ q : QW W5, q.w.cell? ⟨w4.heap.size, 1, none⟩ = some (.int .i64 C) := fun q => (two_at3 HC5.out (by omega) q.h).2
  have HT : Hid (∀ q : QW W5, Calls Tryd.prog 9 #[.slice a1 N cap1, .slice a2 N cap2] q.w fun e w' => e = .returned (.bool true) ∧ Below q.w.heap.size q.w w') := fun q => texts_any a1 a2 N cap1 cap2 xs q.w (HA1.out.later (B23.trans ((B35.trans (q.h.mono (by omega))).mono (by omega))) (Nat.le_refl _)) (hat2.later (B45.trans (q.h.mono (by omega))) (Nat.le_refl _)) (by omega)
  have HBW : Hid (∀ W, Below W5.heap.size W5 W → Below w.heap.size w W) := fun W hb => hb2.trans ((B23.trans ((B35.trans (hb.mono (by omega))).mono (by omega))).mono s2)
  clear z3 z5 hat2 hb4 B45 B35 B23 HRY
  go_wp2_with fail
  clear hW5
  have hNE : Nonempty (QW W5) := ⟨⟨W5, Below.refl _ _⟩⟩
  refine wp_region_class (by kernel_rfl) (by kernel_rfl) ?_
  repeat (go_big_quiet_step (first
    | (go_at_call 8; refine calls_class _ (ourS_any false C _))
    | (go_at_call 9; refine calls_class _ (HT.out _))
    | (go_at_call 5; refine calls_class _ (alive_any _))))
  refine wpQuiet_nil ?_
  intro _ hw'
  obtain ⟨q, hw''⟩ := hw'
  subst hw''
  have hbel := HBW.out _ q.h
  clear x0 x1 x2 x3
  go_wp2
  go_ret
  exact ⟨rfl, hbel⟩

end Go.Proofs.YtoamfmockinknaaDoor.Blk
