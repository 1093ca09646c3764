/- The walk of BlockFolds. -/
import Derived.Test.YtoamfmockinknaaBlockAlive
import Derived.Test.YtoamfmockinknaaBlockRfold
import Derived.Test.YtoamfmockinknaaBlockArg
namespace Go.Proofs.Ytoamfmockinknaa.Blk
open Go.RowKit
open Rws (mk mk_data mk_size mk_of mk_ext mk_get mk_inj)
set_option linter.unusedSimpArgs false
set_option linter.unusedVariables false
set_option maxRecDepth 100000

set_option maxHeartbeats 2000000 in
theorem folds_walk (a : Option Addr) (len cap : Nat) (xs : List Ln) (w : World) (h : SArg w a len cap xs) :
    Calls Try.prog 4 #[.slice a len cap] w fun e w' => e = .returned (.bool true) ∧ Below w.heap.size w w' := by
  obtain ⟨hat, hlc, hcm, hxs⟩ := h
  have HZ : Hid (StrsAt w a len xs) := hat
  have HMU : Hid (Calls Try.prog 14 #[.slice a len cap] w fun e w' => e = .returned (.bool (muc xs)) ∧ Below w.heap.size w w') := much_any a len cap xs w hat hlc hcm hxs
  clear hat hxs
  go_enter Try.func4, Try.ntmps4
  go_wp2_with fail
  refine HMU.out.mono ?_
  rintro e w1 ⟨rfl, hb1⟩
  clear HMU
  have s1 := hb1.size
  cases hmu : muc xs
  · obtain ⟨hl1, hl2⟩ := muc_no hmu
    have hfl := fld_len xs
    have hll := HZ.out.1
    have hf1 : len ≤ 140737488355327 := by omega
    have hf2 : (fld xs).length ≤ 140737488355328 := by omega
    clear hmu hl2 hl1 hfl hll
    go_wp2_with fail
    refine (fold_any a len cap xs _ (HZ.out.later hb1 (Nat.le_refl _)) hf1 hf2).mono ?_
    rintro e w2 ⟨rfl, hb2⟩
    have b2 := hb1.trans (hb2.mono s1)
    have s2 := b2.size
    go_wp2_with fail
    refine (rfold_any a len cap xs _ (HZ.out.later b2 (Nat.le_refl _)) hf1 hf2).mono ?_
    rintro e w3 ⟨rfl, hb3⟩
    have b3 := b2.trans (hb3.mono s2)
    have s3 := b3.size
    go_wp2_with fail
    refine (alive_any _).mono ?_
    rintro e w4 ⟨rfl, hb4⟩
    go_wp2
    go_ret
    exact ⟨rfl, b3.trans (hb4.mono s3)⟩
  · go_wp2_with fail
    go_ret
    exact ⟨rfl, hb1⟩

end Go.Proofs.Ytoamfmockinknaa.Blk
