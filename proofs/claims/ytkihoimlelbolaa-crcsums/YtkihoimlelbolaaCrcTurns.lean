/- crc.newTurns: what four bits turn a sum by, an array of sixteen words. -/
import Derived.Test.YtkihoimlelbolaaCrcHalf
import Derived.Test.YtkihoimlelbolaaCrcPlain2
import Derived.Deep.WholeRow
import Derived.Deep.MidRow
import Derived.Deep.Cut
import Derived.Below
namespace Go.Proofs.Ytkihoimlelbolaa.Crc
open Go.RowKit
set_option linter.unusedSimpArgs false
set_option linter.unusedVariables false
/-- the turns' first k entries -/
def trV (k i : Nat) : Value := Value.int .u32 (if i < k then nm (halfs 4 (BitVec.ofNat 32 i)) else 0)
def trn (k : Nat) : Array Value := ((List.range 16).map (trV k)).toArray
theorem trn_size (k : Nat) : (trn k).size = 16 := by simp [trn]
theorem trn_at (k i : Nat) (h : i < 16) : (trn k)[i]? = some (trV k i) := by simp [trn, h]
theorem trn_zero : trn 0 = #[.int .u32 0, .int .u32 0, .int .u32 0, .int .u32 0, .int .u32 0, .int .u32 0, .int .u32 0, .int .u32 0, .int .u32 0, .int .u32 0, .int .u32 0, .int .u32 0, .int .u32 0, .int .u32 0, .int .u32 0, .int .u32 0] := by
  simp [trn, trV, List.range, List.range.loop]
theorem trn_step (k : Nat) (h : k < 16) : (trn k).setIfInBounds k (.int .u32 (nm (halfs 4 (BitVec.ofNat 32 k)))) = trn (k + 1) := by
  apply Array.ext_getElem?
  intro i
  rw [Array.getElem?_setIfInBounds, trn_size]
  by_cases hi : i < 16
  · rw [trn_at _ _ hi, trn_at _ _ hi]
    by_cases e : k = i
    · subst e; simp [h, trV]
    · rw [if_neg e]
      unfold trV
      by_cases l : i < k
      · rw [if_pos l, if_pos (by omega)]
      · rw [if_neg l, if_neg (by omega)]
  · have e1 : ¬ k = i := by omega
    simp [e1, trn, hi]
theorem trn_one (k : Nat) : (trn k).all (·.oneCell') = true := by
  simp [trn, trV]
  intros; rfl
/-- all sixteen, as a list -/
def trL : List Value := (List.range 16).map (trV 16)
theorem trL_len : trL.length = 16 := by simp [trL]
theorem trL_arr : trn 16 = trL.toArray := rfl
theorem trL_one : trL.toArray.all (·.oneCell') = true := trL_arr ▸ trn_one 16
theorem below_setCells {B b : Nat} (hb : B ≤ b) : ∀ (vs : List Value) (o : Nat) (a w : World), Below B a w → Below B a (w.setCells b o vs)
  | [], _, _, _, h => h
  | v :: r, o, a, w, h => below_setCells hb r (o + 1) a _ (h.setCell (p := ⟨b, o, none⟩) hb v)
theorem info37 : (Try.prog.info? 37).map (·.size) = some 16 := by kernel_rfl
theorem there_new (w : World) (C : Array Value) (t : TypeId) : (w.alloc (.cells C t)).there w.heap.size 0 C.size := by
  intro j hj
  have hb := heap_alloc_last w (.cells C t)
  refine ⟨?_, ?_⟩
  · rw [cell_of_row _ _ (0 + j) C t (0, 0) hb, Nat.zero_add, Array.getElem?_eq_getElem hj]; rfl
  · simp only [World.frozen?]
    rw [hb]
    simp
theorem range_new (w : World) (cs : List Value) (t : TypeId) : (w.alloc (.cells cs.toArray t)).rangeAt w.heap.size 0 cs := by
  intro j v hv
  rw [cell_of_row _ _ (0 + j) cs.toArray t (0, 0) (heap_alloc_last w _), Nat.zero_add]
  simpa using hv
theorem newTurns_any (w : World) : Calls Try.prog 16 #[] w fun e w' => e = .returned (.agg (trn 16)) ∧ Below w.heap.size w w' := by
  go_enter Try.func16, Try.ntmps16
  go_wp2
  rw [← trn_zero]
  go_loopw [4] (fun i wr => ∃ k : Nat, k ≤ 16 ∧ i = .int .i64 k ∧ wr = (w.alloc (.cells (trn 0) 37)).alloc (.cells (trn k) 37)) (fun i _ => 16 - (intOf i).toNat)
  case atStart => exact ⟨0, by omega, rfl, rfl⟩
  case round =>
    obtain ⟨k, hk, rfl, rfl⟩ := hrel
    by_cases hlt : k < 16
    · have hc := trn_at k k hlt
      rw [show trV k k = .int .u32 0 by simp [trV]] at hc
      have HS : Hid (_ = _) := trn_step k hlt
      have HN : Hid ((k : Int) = nm (BitVec.ofNat 32 k)) := by
        show (k : Int) = _
        rw [nm_eq, BitVec.toNat_ofNat, Nat.mod_eq_of_lt (by omega)]
      have hkz : decide ((k : Int) < 16) = true := decide_eq_true (by omega)
      go_wp2
      go_loop [3, 9] (fun t j => ∃ m : Nat, m ≤ 4 ∧ j = .int .i64 m ∧ t = .int .u32 (nm (halfs m (BitVec.ofNat 32 k)))) (fun _ j => 4 - (intOf j).toNat)
      case atStart => exact ⟨0, by omega, rfl, int_u HN.out⟩
      case round =>
        obtain ⟨m, hm, rfl, rfl⟩ := hrel
        have hx0 := nm_lo (halfs m (BitVec.ofNat 32 k))
        have hx1 := nm_hi (halfs m (BitVec.ofNat 32 k))
        by_cases hm4 : m < 4
        · go_wp2_with (go_at_call 22; refine (halved_any _ _).mono ?_; rintro e w' ⟨rfl, rfl⟩)
          go_round
          case rel => exact ⟨m + 1, by omega, by go_num, int_u (by rw [← halfs_half]; rfl)⟩
          case measure => simp [intOf]; omega
        · have HM : Hid (m = 4) := by show m = 4; omega
          have hm' : (m : Int) = 4 := by omega
          go_wp2
          go_roundw
          case rel => exact ⟨k + 1, by omega, by go_num, by rw [HM.out, HS.out]⟩
          case measure => simp [intOf]; omega
    · have HK : Hid (k = 16) := by show k = 16; omega
      have hk' : (k : Int) = 16 := by omega
      have hkz : decide ((k : Int) < 16) = false := decide_eq_false (by omega)
      go_upto_region 12 with fail
      rw [HK.out]
      have hr : ((w.alloc (.cells (trn 0) 37)).alloc (.cells (trn 16) 37)).rangeAt (w.heap.size + 1) 0 trL := by
        have := range_new (w.alloc (.cells (trn 0) 37)) trL 37
        rw [show (w.alloc (.cells (trn 0) 37)).heap.size = w.heap.size + 1 by simp] at this
        exact this
      have ht : ((w.alloc (.cells (trn 0) 37)).alloc (.cells (trn 16) 37)).there w.heap.size 0 trL.toArray.size := by
        have h1 := World.there_alloc (there_new w (trn 0) 37) (.cells (trn 16) 37)
        rw [trn_size] at h1
        simpa [trL_len] using h1
      refine wp_region_lit ?_
      refine wpList_load_mid rfl 37 (.tmp 1) rfl (w.heap.size + 1) 0 rfl trL _ hr Try.underlying37 rfl (by rw [trL_len]; exact info37) ?_
      refine wpList_store_mid rfl 37 (.tmp 0) (.tmp 18) rfl w.heap.size 0 trL.toArray rfl rfl ht (by rw [List.size_toArray, trL_len]; exact info37) trL_one ?_
      refine wpList_nil ?_
      have hrt : (((w.alloc (.cells (trn 0) 37)).alloc (.cells (trn 16) 37)).setCells w.heap.size 0 trL.toArray.toList).rangeAt w.heap.size 0 trL := World.rangeAt_setCells_same _ _ _ trL (by simpa using ht)
      have hbe : Below w.heap.size w (((w.alloc (.cells (trn 0) 37)).alloc (.cells (trn 16) 37)).setCells w.heap.size 0 trL.toArray.toList) :=
        below_setCells (Nat.le_refl _) _ _ _ _ (((Below.refl _ w).alloc (Nat.le_refl _) _).alloc (by simp) _)
      generalize (((w.alloc (.cells (trn 0) 37)).alloc (.cells (trn 16) 37)).setCells w.heap.size 0 trL.toArray.toList) = W2 at *
      have HR : Hid (W2.rangeAt w.heap.size 0 trL) := hrt
      clear hrt hr ht
      go_wp2
      refine bodyPost_ret (v := .agg trL.toArray) ?_ rfl ⟨by rw [trL_arr], hbe⟩
      have hl := run_loadVar_mid (P := Try.prog) W2 w.heap.size 0 37 trL _ HR.out Try.underlying37 rfl (by rw [trL_len]; exact info37)
      simp only [results, Try.results16]
      simp [Act.put, Sem.run_bind, asAddr, hl, Result.andThen]
end Go.Proofs.Ytkihoimlelbolaa.Crc
