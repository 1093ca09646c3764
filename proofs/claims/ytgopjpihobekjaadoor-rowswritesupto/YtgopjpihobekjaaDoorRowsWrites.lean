/- The walk of RowsWrites. -/
import Derived.Test.YtgopjpihobekjaaDoorRowsRwrite
import Derived.Test.YtgopjpihobekjaaDoorRowsWide
import Derived.Test.YtgopjpihobekjaaDoorRowsEq
import Derived.Test.YtgopjpihobekjaaDoorRowsArg
namespace Go.Proofs.YtgopjpihobekjaaDoor.Rws
open Utf
open Go.RowKit
set_option linter.unusedSimpArgs false
set_option linter.unusedVariables false
set_option maxRecDepth 100000

theorem wrt_bound (rs : List R3) : (wrt rs).length ≤ rs.length * 65537 + tot rs := by
  induction rs with
  | nil => simp [wrt]
  | cons r rs ih =>
    have e : wrt (r :: rs) = wr1 r ++ wrt rs := by unfold wrt; rw [List.flatMap_cons]
    have e2 : tot (r :: rs) = r.2.1.size + tot rs := by unfold tot; simp
    have h1 := clamp_le r.1
    have h2 : r.2.1.data.toList.length = r.2.1.size := by rw [Array.length_toList]; rfl
    rw [e, e2, List.length_append, List.length_cons]
    unfold wr1
    rw [List.length_append, List.length_append, List.length_replicate, h2]
    simp only [List.length_cons, List.length_nil]
    omega

set_option maxHeartbeats 2000000 in
theorem writes_any (a : Option Addr) (len cap : Nat) (rs : List R3) (a' : Option Addr) (len' cap' : Nat) (ks : List R3) (c : Int) (w : World)
    (h : RowsAt w a len rs ∧ len ≤ cap ∧ cap ≤ maxLen ∧ len * 4 + tot rs ≤ 1048576) (h' : RowsAt w a' len' ks ∧ len' ≤ cap' ∧ cap' ≤ maxLen ∧ len' * 4 + tot ks ≤ 1048576) (hc : (Lit.int .i64 c).wf = true) :
    Calls Tryd.prog 3 #[.slice a len cap, .slice a' len' cap', .int .i64 c] w fun e w' => e = .returned (.bool true) ∧ Below w.heap.size w w' := by
  obtain ⟨hat, _, _, hbk⟩ := h
  obtain ⟨hat', _, _, hbk'⟩ := h'
  have HA : Hid (RowsAt w a len rs) := hat
  have HA' : Hid (RowsAt w a' len' ks) := hat'
  have hwb : (wrt rs).length ≤ 140737488355328 := by
    have := wrt_bound rs
    have hrl := hat.1
    have : rs.length * 65537 ≤ 1048576 * 65537 := Nat.mul_le_mul_right _ (by omega)
    omega
  clear hat hat'
  go_enter Tryd.func3, Tryd.ntmps3
  go_wp2_with fail
  refine (wide_any a len cap rs _ HA.out (by omega)).mono ?_
  rintro e w1 ⟨rfl, hb1⟩
  have s1 := hb1.size
  cases hw : wide rs
  · go_wp2_with fail
    refine (write_any a len cap rs _ (HA.out.later hb1 (Nat.le_refl _)) (by omega) hwb).mono ?_
    rintro e w2 ⟨rfl, hb2⟩
    have b2 : Below w.heap.size w w2 := hb1.trans (hb2.mono s1)
    have s2 := b2.size
    go_wp2_with fail
    refine (rwrite_any a len cap rs _ (HA.out.later b2 (Nat.le_refl _)) (by omega) hwb).mono ?_
    rintro e w3 ⟨rfl, hb3⟩
    have b3 : Below w.heap.size w w3 := b2.trans (hb3.mono s2)
    have s3 := b3.size
    go_wp2_with fail
    refine (below_any a len cap rs c _ (HA.out.later b3 (Nat.le_refl _)) (by omega)).mono ?_
    rintro e w4 ⟨rfl, hb4⟩
    have b4 : Below w.heap.size w w4 := b3.trans (hb4.mono s3)
    have s4 := b4.size
    go_wp2_with fail
    refine (rbelow_any a len cap rs c _ (HA.out.later b4 (Nat.le_refl _)) (by omega)).mono ?_
    rintro e w5 ⟨rfl, hb5⟩
    have b5 : Below w.heap.size w w5 := b4.trans (hb5.mono s4)
    have s5 := b5.size
    go_wp2_with fail
    refine (sameR_any a a' len len' cap cap' rs ks _ (HA.out.later b5 (Nat.le_refl _)) (HA'.out.later b5 (Nat.le_refl _)) (by omega) (by omega)).mono ?_
    rintro e w6 ⟨rfl, hb6⟩
    have b6 : Below w.heap.size w w6 := b5.trans (hb6.mono s5)
    have s6 := b6.size
    go_wp2_with fail
    refine (rsame_any a a' len len' cap cap' rs ks _ (HA.out.later b6 (Nat.le_refl _)) (HA'.out.later b6 (Nat.le_refl _)) (by omega) (by omega)).mono ?_
    rintro e w7 ⟨rfl, hb7⟩
    have b7 : Below w.heap.size w w7 := b6.trans (hb7.mono s6)
    have s7 := b7.size
    have hq : (same rs ks == same rs ks) = true := by simp
    go_wp2_with fail
    refine (sameR_any a a len len cap cap rs rs _ (HA.out.later b7 (Nat.le_refl _)) (HA.out.later b7 (Nat.le_refl _)) (by omega) (by omega)).mono ?_
    rintro e w8 ⟨rfl, hb8⟩
    have hss : same rs rs = true := by unfold same; simp
    rw [hss]
    have b8 : Below w.heap.size w w8 := b7.trans (hb8.mono s7)
    have s8 := b8.size
    go_wp2_with fail
    refine (alive_any _).mono ?_
    rintro e w9 ⟨rfl, hb9⟩
    go_wp2
    go_ret
    exact ⟨rfl, b8.trans (hb9.mono s8)⟩
  · go_wp2_with fail
    refine (alive_any _).mono ?_
    rintro e w9 ⟨rfl, hb9⟩
    go_wp2
    go_ret
    exact ⟨rfl, hb1.trans (hb9.mono s1)⟩

end Go.Proofs.YtgopjpihobekjaaDoor.Rws
